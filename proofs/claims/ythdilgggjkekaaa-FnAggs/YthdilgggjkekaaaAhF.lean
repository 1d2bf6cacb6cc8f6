/- impl's aggregateOf and AggValue over ints and null, name by name (towards FnAggs, stage 12). -/
import Derived.Test.YthdilgggjkekaaaAhE
namespace Go.Proofs.Ythdilgggjkekaaa
open Go.RowKit

theorem vals_le (os : List (Option Int)) : (vals os).length ≤ os.length := List.length_filterMap_le _ _
theorem vals_nil_best (f : Int → Int → Int) (os : List (Option Int)) (h : (vals os).length = 0) : bestF f (vals os) = none := by
  rw [List.length_eq_zero_iff.mp h]; rfl

set_option maxRecDepth 100000 in
set_option maxHeartbeats 8000000 in
theorem aggOfCount (os : List (Option Int)) (b off cap : Nat) (w : World) (hrow : RowV w (some ⟨b, off, none⟩) (os.map ov)) (hlen : os.length ≤ 4096) (hbd : ∀ x ∈ vals os, -1000000 ≤ x ∧ x ≤ 1000000) :
    Calls Try.prog 12 #[.string gCount, .slice (some ⟨b, off, none⟩) os.length cap] w fun e w' => e = .returned (ansV (((2, ((vals os).length : Int), noT) : V3), 0)) ∧ Below w.heap.size w w' := by
  have B0 : Hid (Below w.heap.size w (w.alloc (.cells #[.int .i64 0, .int .i64 0, .string noT] 27)) ∧ BoxV (w.alloc (.cells #[.int .i64 0, .int .i64 0, .string noT] 27)) w.heap.size 0 0 noT) := ⟨(Below.refl _ _).alloc (Nat.le_refl _) _, heap_alloc_new w _⟩
  have C1 := clone_some (os.map ov) b off cap (w.alloc (.cells #[.int .i64 0, .int .i64 0, .string noT] 27)) (hrow.below B0.out.1) (by simpa using hlen)
  rw [List.length_map] at C1
  have HBD : Hid (∀ x ∈ vals os, -1000000 ≤ x ∧ x ≤ 1000000) := hbd
  have HLN : Hid (os.length ≤ 4096) := hlen
  clear hrow hbd
  generalize os.length = len at C1 ⊢
  go_enter Try.func12, Try.ntmps12
  go_wp2_with fail
  refine C1.mono ?_
  rintro e w1 ⟨v1, rfl, O1, b1⟩
  have B1 : Hid (Below w.heap.size w w1 ∧ BoxV w1 w.heap.size 0 0 noT) := ⟨B0.out.1.trans (b1.mono B0.out.1.size), (b1.block _ (by simp)).trans B0.out.2⟩
  have D1 := del_own os v1 _ w1 O1 HLN.out b1.size
  have hW0 : Hid ((w.alloc (.cells #[.int .i64 0, .int .i64 0, .string noT] 27)).heap.size = w.heap.size + 1) := by show _ = _; simp
  clear C1 O1 b1 B0
  go_wp2_with fail
  refine D1.mono ?_
  rintro e w2 ⟨a, c2, rfl, R2, b2⟩
  have B2 : Hid (Below w.heap.size w w2 ∧ BoxV w2 w.heap.size 0 0 noT) := ⟨B1.out.1.trans (b2.mono (by rw [hW0.out]; omega)), (b2.block _ (by rw [hW0.out]; omega)).trans B1.out.2⟩
  have HR : Hid (RowV w2 a ((vals os).map iv)) := R2
  clear D1 B1 R2 b2
  obtain ⟨v0, v1', v2, y0, y1, y2⟩ := box_facts B2.out.2
  obtain ⟨m, hm⟩ : ∃ m, (vals os).length = m := ⟨_, rfl⟩
  have HM : Hid ((vals os).length = m) := hm
  rw [hm]
  clear hm
  go_wp2_with fail
  obtain ⟨r0, r1, r2, _, _, _⟩ := box_facts (box_set B2.out.2 2 m noT)
  exact bodyPost_ret (v := VC 2 m noT 0) (by simp [results, Try.results12, go_sem, r0, r1, r2]) rfl ⟨by rw [HM.out], below_set3 B2.out.1 (Nat.le_refl _) _ _ _⟩

set_option maxRecDepth 100000 in
set_option maxHeartbeats 8000000 in
theorem aggOfSum (os : List (Option Int)) (b off cap : Nat) (w : World) (hrow : RowV w (some ⟨b, off, none⟩) (os.map ov)) (hlen : os.length ≤ 4096) (hbd : ∀ x ∈ vals os, -1000000 ≤ x ∧ x ≤ 1000000) :
    Calls Try.prog 12 #[.string gSum, .slice (some ⟨b, off, none⟩) os.length cap] w fun e w' => e = .returned (ansV (ov (bestF sumF (vals os)), 0)) ∧ Below w.heap.size w w' := by
  have B0 : Hid (Below w.heap.size w (w.alloc (.cells #[.int .i64 0, .int .i64 0, .string noT] 27)) ∧ BoxV (w.alloc (.cells #[.int .i64 0, .int .i64 0, .string noT] 27)) w.heap.size 0 0 noT) := ⟨(Below.refl _ _).alloc (Nat.le_refl _) _, heap_alloc_new w _⟩
  have C1 := clone_some (os.map ov) b off cap (w.alloc (.cells #[.int .i64 0, .int .i64 0, .string noT] 27)) (hrow.below B0.out.1) (by simpa using hlen)
  rw [List.length_map] at C1
  have HBD : Hid (∀ x ∈ vals os, -1000000 ≤ x ∧ x ≤ 1000000) := hbd
  have HLN : Hid (os.length ≤ 4096) := hlen
  clear hrow hbd
  generalize os.length = len at C1 ⊢
  go_enter Try.func12, Try.ntmps12
  go_wp2_with fail
  refine C1.mono ?_
  rintro e w1 ⟨v1, rfl, O1, b1⟩
  have B1 : Hid (Below w.heap.size w w1 ∧ BoxV w1 w.heap.size 0 0 noT) := ⟨B0.out.1.trans (b1.mono B0.out.1.size), (b1.block _ (by simp)).trans B0.out.2⟩
  have D1 := del_own os v1 _ w1 O1 HLN.out b1.size
  have hW0 : Hid ((w.alloc (.cells #[.int .i64 0, .int .i64 0, .string noT] 27)).heap.size = w.heap.size + 1) := by show _ = _; simp
  clear C1 O1 b1 B0
  go_wp2_with fail
  refine D1.mono ?_
  rintro e w2 ⟨a, c2, rfl, R2, b2⟩
  have B2 : Hid (Below w.heap.size w w2 ∧ BoxV w2 w.heap.size 0 0 noT) := ⟨B1.out.1.trans (b2.mono (by rw [hW0.out]; omega)), (b2.block _ (by rw [hW0.out]; omega)).trans B1.out.2⟩
  have HR : Hid (RowV w2 a ((vals os).map iv)) := R2
  clear D1 B1 R2 b2
  obtain ⟨v0, v1', v2, y0, y1, y2⟩ := box_facts B2.out.2
  by_cases hz : (vals os).length = 0
  · have HX : Hid (ov (bestF sumF (vals os)) = (0, 0, noT)) := by show _ = _; rw [vals_nil_best _ os hz]; rfl
    rw [hz]
    go_wp2_with fail
    obtain ⟨r0, r1, r2, _, _, _⟩ := box_facts (box_set B2.out.2 0 0 noT)
    exact bodyPost_ret (v := VC 0 0 noT 0) (by simp [results, Try.results12, go_sem, r0, r1, r2]) rfl ⟨by rw [HX.out], below_set3 B2.out.1 (Nat.le_refl _) _ _ _⟩
  · have F := sumOf_any (vals os) a c2 w2 HR.out (by omega) (by have := vals_le os; have := HLN.out; omega) HBD.out
    have hz' : (((vals os).length : Int) == 0) = false := beq_eq_false_iff_ne.mpr (by omega)
    obtain ⟨X, hX⟩ : ∃ X, ov (bestF sumF (vals os)) = X := ⟨_, rfl⟩
    rw [hX] at F
    obtain ⟨xk, xn, xt⟩ := X
    have HX : Hid (ov (bestF sumF (vals os)) = (xk, xn, xt)) := hX
    clear hX
    obtain ⟨m, hm⟩ : ∃ m, (vals os).length = m := ⟨_, rfl⟩
    rw [hm] at F hz' hz ⊢
    clear hm
    go_wp2_with fail
    refine F.mono ?_
    rintro e w3 ⟨rfl, b3⟩
    have B3 : Hid (Below w.heap.size w w3 ∧ BoxV w3 w.heap.size 0 0 noT) := ⟨B2.out.1.trans (b3.mono B2.out.1.size), (b3.block _ (lt_blk B2.out.2)).trans B2.out.2⟩
    clear F b3 B2 v0 v1' v2 y0 y1 y2
    obtain ⟨v0, v1', v2, y0, y1, y2⟩ := box_facts B3.out.2
    go_wp2_with fail
    obtain ⟨r0, r1, r2, _, _, _⟩ := box_facts (box_set B3.out.2 xk xn xt)
    exact bodyPost_ret (v := VC xk xn xt 0) (by simp [results, Try.results12, go_sem, r0, r1, r2]) rfl ⟨by rw [HX.out], below_set3 B3.out.1 (Nat.le_refl _) _ _ _⟩

set_option maxRecDepth 100000 in
set_option maxHeartbeats 8000000 in
theorem aggOfMin (os : List (Option Int)) (b off cap : Nat) (w : World) (hrow : RowV w (some ⟨b, off, none⟩) (os.map ov)) (hlen : os.length ≤ 4096) (hbd : ∀ x ∈ vals os, -1000000 ≤ x ∧ x ≤ 1000000) :
    Calls Try.prog 12 #[.string gMin, .slice (some ⟨b, off, none⟩) os.length cap] w fun e w' => e = .returned (ansV (ov (bestF minF (vals os)), 0)) ∧ Below w.heap.size w w' := by
  have B0 : Hid (Below w.heap.size w (w.alloc (.cells #[.int .i64 0, .int .i64 0, .string noT] 27)) ∧ BoxV (w.alloc (.cells #[.int .i64 0, .int .i64 0, .string noT] 27)) w.heap.size 0 0 noT) := ⟨(Below.refl _ _).alloc (Nat.le_refl _) _, heap_alloc_new w _⟩
  have C1 := clone_some (os.map ov) b off cap (w.alloc (.cells #[.int .i64 0, .int .i64 0, .string noT] 27)) (hrow.below B0.out.1) (by simpa using hlen)
  rw [List.length_map] at C1
  have HBD : Hid (∀ x ∈ vals os, -1000000 ≤ x ∧ x ≤ 1000000) := hbd
  have HLN : Hid (os.length ≤ 4096) := hlen
  clear hrow hbd
  generalize os.length = len at C1 ⊢
  go_enter Try.func12, Try.ntmps12
  go_wp2_with fail
  refine C1.mono ?_
  rintro e w1 ⟨v1, rfl, O1, b1⟩
  have B1 : Hid (Below w.heap.size w w1 ∧ BoxV w1 w.heap.size 0 0 noT) := ⟨B0.out.1.trans (b1.mono B0.out.1.size), (b1.block _ (by simp)).trans B0.out.2⟩
  have D1 := del_own os v1 _ w1 O1 HLN.out b1.size
  have hW0 : Hid ((w.alloc (.cells #[.int .i64 0, .int .i64 0, .string noT] 27)).heap.size = w.heap.size + 1) := by show _ = _; simp
  clear C1 O1 b1 B0
  go_wp2_with fail
  refine D1.mono ?_
  rintro e w2 ⟨a, c2, rfl, R2, b2⟩
  have B2 : Hid (Below w.heap.size w w2 ∧ BoxV w2 w.heap.size 0 0 noT) := ⟨B1.out.1.trans (b2.mono (by rw [hW0.out]; omega)), (b2.block _ (by rw [hW0.out]; omega)).trans B1.out.2⟩
  have HR : Hid (RowV w2 a ((vals os).map iv)) := R2
  clear D1 B1 R2 b2
  obtain ⟨v0, v1', v2, y0, y1, y2⟩ := box_facts B2.out.2
  by_cases hz : (vals os).length = 0
  · have HX : Hid (ov (bestF minF (vals os)) = (0, 0, noT)) := by show _ = _; rw [vals_nil_best _ os hz]; rfl
    rw [hz]
    go_wp2_with fail
    obtain ⟨r0, r1, r2, _, _, _⟩ := box_facts (box_set B2.out.2 0 0 noT)
    exact bodyPost_ret (v := VC 0 0 noT 0) (by simp [results, Try.results12, go_sem, r0, r1, r2]) rfl ⟨by rw [HX.out], below_set3 B2.out.1 (Nat.le_refl _) _ _ _⟩
  · have F := minFunc_any (vals os) a c2 w2 HR.out (by omega) (by have := vals_le os; have := HLN.out; omega)
    have hz' : (((vals os).length : Int) == 0) = false := beq_eq_false_iff_ne.mpr (by omega)
    obtain ⟨X, hX⟩ : ∃ X, ov (bestF minF (vals os)) = X := ⟨_, rfl⟩
    rw [hX] at F
    obtain ⟨xk, xn, xt⟩ := X
    have HX : Hid (ov (bestF minF (vals os)) = (xk, xn, xt)) := hX
    clear hX
    obtain ⟨m, hm⟩ : ∃ m, (vals os).length = m := ⟨_, rfl⟩
    rw [hm] at F hz' hz ⊢
    clear hm
    go_wp2_with fail
    refine F.mono ?_
    rintro e w3 ⟨rfl, b3⟩
    have B3 : Hid (Below w.heap.size w w3 ∧ BoxV w3 w.heap.size 0 0 noT) := ⟨B2.out.1.trans (b3.mono B2.out.1.size), (b3.block _ (lt_blk B2.out.2)).trans B2.out.2⟩
    clear F b3 B2 v0 v1' v2 y0 y1 y2
    obtain ⟨v0, v1', v2, y0, y1, y2⟩ := box_facts B3.out.2
    go_wp2_with fail
    obtain ⟨r0, r1, r2, _, _, _⟩ := box_facts (box_set B3.out.2 xk xn xt)
    exact bodyPost_ret (v := VC xk xn xt 0) (by simp [results, Try.results12, go_sem, r0, r1, r2]) rfl ⟨by rw [HX.out], below_set3 B3.out.1 (Nat.le_refl _) _ _ _⟩

set_option maxRecDepth 100000 in
set_option maxHeartbeats 8000000 in
theorem aggOfMax (os : List (Option Int)) (b off cap : Nat) (w : World) (hrow : RowV w (some ⟨b, off, none⟩) (os.map ov)) (hlen : os.length ≤ 4096) (hbd : ∀ x ∈ vals os, -1000000 ≤ x ∧ x ≤ 1000000) :
    Calls Try.prog 12 #[.string gMax, .slice (some ⟨b, off, none⟩) os.length cap] w fun e w' => e = .returned (ansV (ov (bestF maxF (vals os)), 0)) ∧ Below w.heap.size w w' := by
  have B0 : Hid (Below w.heap.size w (w.alloc (.cells #[.int .i64 0, .int .i64 0, .string noT] 27)) ∧ BoxV (w.alloc (.cells #[.int .i64 0, .int .i64 0, .string noT] 27)) w.heap.size 0 0 noT) := ⟨(Below.refl _ _).alloc (Nat.le_refl _) _, heap_alloc_new w _⟩
  have C1 := clone_some (os.map ov) b off cap (w.alloc (.cells #[.int .i64 0, .int .i64 0, .string noT] 27)) (hrow.below B0.out.1) (by simpa using hlen)
  rw [List.length_map] at C1
  have HBD : Hid (∀ x ∈ vals os, -1000000 ≤ x ∧ x ≤ 1000000) := hbd
  have HLN : Hid (os.length ≤ 4096) := hlen
  clear hrow hbd
  generalize os.length = len at C1 ⊢
  go_enter Try.func12, Try.ntmps12
  go_wp2_with fail
  refine C1.mono ?_
  rintro e w1 ⟨v1, rfl, O1, b1⟩
  have B1 : Hid (Below w.heap.size w w1 ∧ BoxV w1 w.heap.size 0 0 noT) := ⟨B0.out.1.trans (b1.mono B0.out.1.size), (b1.block _ (by simp)).trans B0.out.2⟩
  have D1 := del_own os v1 _ w1 O1 HLN.out b1.size
  have hW0 : Hid ((w.alloc (.cells #[.int .i64 0, .int .i64 0, .string noT] 27)).heap.size = w.heap.size + 1) := by show _ = _; simp
  clear C1 O1 b1 B0
  go_wp2_with fail
  refine D1.mono ?_
  rintro e w2 ⟨a, c2, rfl, R2, b2⟩
  have B2 : Hid (Below w.heap.size w w2 ∧ BoxV w2 w.heap.size 0 0 noT) := ⟨B1.out.1.trans (b2.mono (by rw [hW0.out]; omega)), (b2.block _ (by rw [hW0.out]; omega)).trans B1.out.2⟩
  have HR : Hid (RowV w2 a ((vals os).map iv)) := R2
  clear D1 B1 R2 b2
  obtain ⟨v0, v1', v2, y0, y1, y2⟩ := box_facts B2.out.2
  by_cases hz : (vals os).length = 0
  · have HX : Hid (ov (bestF maxF (vals os)) = (0, 0, noT)) := by show _ = _; rw [vals_nil_best _ os hz]; rfl
    rw [hz]
    go_wp2_with fail
    obtain ⟨r0, r1, r2, _, _, _⟩ := box_facts (box_set B2.out.2 0 0 noT)
    exact bodyPost_ret (v := VC 0 0 noT 0) (by simp [results, Try.results12, go_sem, r0, r1, r2]) rfl ⟨by rw [HX.out], below_set3 B2.out.1 (Nat.le_refl _) _ _ _⟩
  · have F := maxFunc_any (vals os) a c2 w2 HR.out (by omega) (by have := vals_le os; have := HLN.out; omega)
    have hz' : (((vals os).length : Int) == 0) = false := beq_eq_false_iff_ne.mpr (by omega)
    obtain ⟨X, hX⟩ : ∃ X, ov (bestF maxF (vals os)) = X := ⟨_, rfl⟩
    rw [hX] at F
    obtain ⟨xk, xn, xt⟩ := X
    have HX : Hid (ov (bestF maxF (vals os)) = (xk, xn, xt)) := hX
    clear hX
    obtain ⟨m, hm⟩ : ∃ m, (vals os).length = m := ⟨_, rfl⟩
    rw [hm] at F hz' hz ⊢
    clear hm
    go_wp2_with fail
    refine F.mono ?_
    rintro e w3 ⟨rfl, b3⟩
    have B3 : Hid (Below w.heap.size w w3 ∧ BoxV w3 w.heap.size 0 0 noT) := ⟨B2.out.1.trans (b3.mono B2.out.1.size), (b3.block _ (lt_blk B2.out.2)).trans B2.out.2⟩
    clear F b3 B2 v0 v1' v2 y0 y1 y2
    obtain ⟨v0, v1', v2, y0, y1, y2⟩ := box_facts B3.out.2
    go_wp2_with fail
    obtain ⟨r0, r1, r2, _, _, _⟩ := box_facts (box_set B3.out.2 xk xn xt)
    exact bodyPost_ret (v := VC xk xn xt 0) (by simp [results, Try.results12, go_sem, r0, r1, r2]) rfl ⟨by rw [HX.out], below_set3 B3.out.1 (Nat.le_refl _) _ _ _⟩
end Go.Proofs.Ythdilgggjkekaaa
