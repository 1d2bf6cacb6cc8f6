/- impl's AggValue over ints and null (towards FnAggs, stage 12). -/
import Derived.Test.YthdilgggjkekaaaAhF
namespace Go.Proofs.Ythdilgggjkekaaa
open Go.RowKit

set_option maxRecDepth 100000 in
theorem isAggCount (w : World) : Calls Try.prog 10 #[.string gCount] w fun e w' => e = .returned (.bool true) ∧ w' = w := by
  go_enter Try.func10, Try.ntmps10
  go_wp2
  go_ret
  exact ⟨rfl, rfl⟩
set_option maxRecDepth 100000 in
set_option maxHeartbeats 8000000 in
theorem implAggCount (os : List (Option Int)) (b off cap n : Nat) (w : World) (hrow : RowV w (some ⟨b, off, none⟩) (os.map ov)) (hn : Hid (os.length = n)) (hlen : n ≤ 4096) (hbd : ∀ x ∈ vals os, -1000000 ≤ x ∧ x ≤ 1000000) :
    Calls Try.prog 5 #[.string gCount, .slice (some ⟨b, off, none⟩) n cap] w fun e w' => e = .returned (ansV (((2, ((vals os).length : Int), noT) : V3), 0)) ∧ Below w.heap.size w w' := by
  obtain ⟨X, hX⟩ : ∃ X : V3, ((2, ((vals os).length : Int), noT) : V3) = X := ⟨_, rfl⟩
  have B0 : Hid (Below w.heap.size w (w.alloc (.cells #[.int .i64 0, .int .i64 0, .string noT] 27)) ∧ BoxV (w.alloc (.cells #[.int .i64 0, .int .i64 0, .string noT] 27)) w.heap.size 0 0 noT) := ⟨(Below.refl _ _).alloc (Nat.le_refl _) _, heap_alloc_new w _⟩
  have HA := fun w1 (hb : Below w.heap.size w w1) => aggOfCount os b off cap w1 (hrow.below hb) (by rw [hn.out]; exact hlen) hbd
  have HK := allOK_any os (some ⟨b, off, none⟩) cap (w.alloc (.cells #[.int .i64 0, .int .i64 0, .string noT] 27)) (hrow.below B0.out.1) (by rw [hn.out]; exact hlen)
  rw [hX] at HA ⊢
  rw [hn.out] at HA HK
  have HA : Hid (∀ w1, Below w.heap.size w w1 → Calls Try.prog 12 #[.string gCount, .slice (some ⟨b, off, none⟩) n cap] w1 fun e w' => e = .returned (ansV (X, 0)) ∧ Below w1.heap.size w1 w') := HA
  obtain ⟨xk, xn, xt⟩ := X
  have h1 : ¬ (4096 : Int) < (n : Int) := by omega
  clear hrow hX hbd hn
  go_enter Try.func5, Try.ntmps5
  go_wp2_with fail
  refine (isAggCount _).mono ?_
  rintro e w1 ⟨rfl, e1⟩
  obtain rfl := e1.symm
  clear e1
  go_wp2_with fail
  refine HK.mono ?_
  rintro e w1 ⟨rfl, b1⟩
  have B1 : Hid (Below w.heap.size w w1 ∧ BoxV w1 w.heap.size 0 0 noT) := ⟨B0.out.1.trans (b1.mono B0.out.1.size), (b1.block _ (lt_blk B0.out.2)).trans B0.out.2⟩
  clear HK b1 B0
  have F := HA.out w1 B1.out.1
  go_wp2_with fail
  refine F.mono ?_
  rintro e w2 ⟨rfl, b2⟩
  have B2 : Hid (Below w.heap.size w w2 ∧ BoxV w2 w.heap.size 0 0 noT) := ⟨B1.out.1.trans (b2.mono B1.out.1.size), (b2.block _ (lt_blk B1.out.2)).trans B1.out.2⟩
  clear F b2 B1 HA
  obtain ⟨v0, v1, v2, y0, y1, y2⟩ := box_facts B2.out.2
  go_wp2_with fail
  obtain ⟨r0, r1, r2, _, _, _⟩ := box_facts (box_set B2.out.2 xk xn xt)
  exact bodyPost_ret (v := VC xk xn xt 0) (by simp [results, Try.results5, go_sem, r0, r1, r2]) rfl ⟨rfl, below_set3 B2.out.1 (Nat.le_refl _) _ _ _⟩

set_option maxRecDepth 100000 in
theorem isAggSum (w : World) : Calls Try.prog 10 #[.string gSum] w fun e w' => e = .returned (.bool true) ∧ w' = w := by
  go_enter Try.func10, Try.ntmps10
  go_wp2
  go_ret
  exact ⟨rfl, rfl⟩
set_option maxRecDepth 100000 in
set_option maxHeartbeats 8000000 in
theorem implAggSum (os : List (Option Int)) (b off cap n : Nat) (w : World) (hrow : RowV w (some ⟨b, off, none⟩) (os.map ov)) (hn : Hid (os.length = n)) (hlen : n ≤ 4096) (hbd : ∀ x ∈ vals os, -1000000 ≤ x ∧ x ≤ 1000000) :
    Calls Try.prog 5 #[.string gSum, .slice (some ⟨b, off, none⟩) n cap] w fun e w' => e = .returned (ansV (ov (bestF sumF (vals os)), 0)) ∧ Below w.heap.size w w' := by
  obtain ⟨X, hX⟩ : ∃ X : V3, ov (bestF sumF (vals os)) = X := ⟨_, rfl⟩
  have B0 : Hid (Below w.heap.size w (w.alloc (.cells #[.int .i64 0, .int .i64 0, .string noT] 27)) ∧ BoxV (w.alloc (.cells #[.int .i64 0, .int .i64 0, .string noT] 27)) w.heap.size 0 0 noT) := ⟨(Below.refl _ _).alloc (Nat.le_refl _) _, heap_alloc_new w _⟩
  have HA := fun w1 (hb : Below w.heap.size w w1) => aggOfSum os b off cap w1 (hrow.below hb) (by rw [hn.out]; exact hlen) hbd
  have HK := allOK_any os (some ⟨b, off, none⟩) cap (w.alloc (.cells #[.int .i64 0, .int .i64 0, .string noT] 27)) (hrow.below B0.out.1) (by rw [hn.out]; exact hlen)
  rw [hX] at HA ⊢
  rw [hn.out] at HA HK
  have HA : Hid (∀ w1, Below w.heap.size w w1 → Calls Try.prog 12 #[.string gSum, .slice (some ⟨b, off, none⟩) n cap] w1 fun e w' => e = .returned (ansV (X, 0)) ∧ Below w1.heap.size w1 w') := HA
  obtain ⟨xk, xn, xt⟩ := X
  have h1 : ¬ (4096 : Int) < (n : Int) := by omega
  clear hrow hX hbd hn
  go_enter Try.func5, Try.ntmps5
  go_wp2_with fail
  refine (isAggSum _).mono ?_
  rintro e w1 ⟨rfl, e1⟩
  obtain rfl := e1.symm
  clear e1
  go_wp2_with fail
  refine HK.mono ?_
  rintro e w1 ⟨rfl, b1⟩
  have B1 : Hid (Below w.heap.size w w1 ∧ BoxV w1 w.heap.size 0 0 noT) := ⟨B0.out.1.trans (b1.mono B0.out.1.size), (b1.block _ (lt_blk B0.out.2)).trans B0.out.2⟩
  clear HK b1 B0
  have F := HA.out w1 B1.out.1
  go_wp2_with fail
  refine F.mono ?_
  rintro e w2 ⟨rfl, b2⟩
  have B2 : Hid (Below w.heap.size w w2 ∧ BoxV w2 w.heap.size 0 0 noT) := ⟨B1.out.1.trans (b2.mono B1.out.1.size), (b2.block _ (lt_blk B1.out.2)).trans B1.out.2⟩
  clear F b2 B1 HA
  obtain ⟨v0, v1, v2, y0, y1, y2⟩ := box_facts B2.out.2
  go_wp2_with fail
  obtain ⟨r0, r1, r2, _, _, _⟩ := box_facts (box_set B2.out.2 xk xn xt)
  exact bodyPost_ret (v := VC xk xn xt 0) (by simp [results, Try.results5, go_sem, r0, r1, r2]) rfl ⟨rfl, below_set3 B2.out.1 (Nat.le_refl _) _ _ _⟩

set_option maxRecDepth 100000 in
theorem isAggMin (w : World) : Calls Try.prog 10 #[.string gMin] w fun e w' => e = .returned (.bool true) ∧ w' = w := by
  go_enter Try.func10, Try.ntmps10
  go_wp2
  go_ret
  exact ⟨rfl, rfl⟩
set_option maxRecDepth 100000 in
set_option maxHeartbeats 8000000 in
theorem implAggMin (os : List (Option Int)) (b off cap n : Nat) (w : World) (hrow : RowV w (some ⟨b, off, none⟩) (os.map ov)) (hn : Hid (os.length = n)) (hlen : n ≤ 4096) (hbd : ∀ x ∈ vals os, -1000000 ≤ x ∧ x ≤ 1000000) :
    Calls Try.prog 5 #[.string gMin, .slice (some ⟨b, off, none⟩) n cap] w fun e w' => e = .returned (ansV (ov (bestF minF (vals os)), 0)) ∧ Below w.heap.size w w' := by
  obtain ⟨X, hX⟩ : ∃ X : V3, ov (bestF minF (vals os)) = X := ⟨_, rfl⟩
  have B0 : Hid (Below w.heap.size w (w.alloc (.cells #[.int .i64 0, .int .i64 0, .string noT] 27)) ∧ BoxV (w.alloc (.cells #[.int .i64 0, .int .i64 0, .string noT] 27)) w.heap.size 0 0 noT) := ⟨(Below.refl _ _).alloc (Nat.le_refl _) _, heap_alloc_new w _⟩
  have HA := fun w1 (hb : Below w.heap.size w w1) => aggOfMin os b off cap w1 (hrow.below hb) (by rw [hn.out]; exact hlen) hbd
  have HK := allOK_any os (some ⟨b, off, none⟩) cap (w.alloc (.cells #[.int .i64 0, .int .i64 0, .string noT] 27)) (hrow.below B0.out.1) (by rw [hn.out]; exact hlen)
  rw [hX] at HA ⊢
  rw [hn.out] at HA HK
  have HA : Hid (∀ w1, Below w.heap.size w w1 → Calls Try.prog 12 #[.string gMin, .slice (some ⟨b, off, none⟩) n cap] w1 fun e w' => e = .returned (ansV (X, 0)) ∧ Below w1.heap.size w1 w') := HA
  obtain ⟨xk, xn, xt⟩ := X
  have h1 : ¬ (4096 : Int) < (n : Int) := by omega
  clear hrow hX hbd hn
  go_enter Try.func5, Try.ntmps5
  go_wp2_with fail
  refine (isAggMin _).mono ?_
  rintro e w1 ⟨rfl, e1⟩
  obtain rfl := e1.symm
  clear e1
  go_wp2_with fail
  refine HK.mono ?_
  rintro e w1 ⟨rfl, b1⟩
  have B1 : Hid (Below w.heap.size w w1 ∧ BoxV w1 w.heap.size 0 0 noT) := ⟨B0.out.1.trans (b1.mono B0.out.1.size), (b1.block _ (lt_blk B0.out.2)).trans B0.out.2⟩
  clear HK b1 B0
  have F := HA.out w1 B1.out.1
  go_wp2_with fail
  refine F.mono ?_
  rintro e w2 ⟨rfl, b2⟩
  have B2 : Hid (Below w.heap.size w w2 ∧ BoxV w2 w.heap.size 0 0 noT) := ⟨B1.out.1.trans (b2.mono B1.out.1.size), (b2.block _ (lt_blk B1.out.2)).trans B1.out.2⟩
  clear F b2 B1 HA
  obtain ⟨v0, v1, v2, y0, y1, y2⟩ := box_facts B2.out.2
  go_wp2_with fail
  obtain ⟨r0, r1, r2, _, _, _⟩ := box_facts (box_set B2.out.2 xk xn xt)
  exact bodyPost_ret (v := VC xk xn xt 0) (by simp [results, Try.results5, go_sem, r0, r1, r2]) rfl ⟨rfl, below_set3 B2.out.1 (Nat.le_refl _) _ _ _⟩

set_option maxRecDepth 100000 in
theorem isAggMax (w : World) : Calls Try.prog 10 #[.string gMax] w fun e w' => e = .returned (.bool true) ∧ w' = w := by
  go_enter Try.func10, Try.ntmps10
  go_wp2
  go_ret
  exact ⟨rfl, rfl⟩
set_option maxRecDepth 100000 in
set_option maxHeartbeats 8000000 in
theorem implAggMax (os : List (Option Int)) (b off cap n : Nat) (w : World) (hrow : RowV w (some ⟨b, off, none⟩) (os.map ov)) (hn : Hid (os.length = n)) (hlen : n ≤ 4096) (hbd : ∀ x ∈ vals os, -1000000 ≤ x ∧ x ≤ 1000000) :
    Calls Try.prog 5 #[.string gMax, .slice (some ⟨b, off, none⟩) n cap] w fun e w' => e = .returned (ansV (ov (bestF maxF (vals os)), 0)) ∧ Below w.heap.size w w' := by
  obtain ⟨X, hX⟩ : ∃ X : V3, ov (bestF maxF (vals os)) = X := ⟨_, rfl⟩
  have B0 : Hid (Below w.heap.size w (w.alloc (.cells #[.int .i64 0, .int .i64 0, .string noT] 27)) ∧ BoxV (w.alloc (.cells #[.int .i64 0, .int .i64 0, .string noT] 27)) w.heap.size 0 0 noT) := ⟨(Below.refl _ _).alloc (Nat.le_refl _) _, heap_alloc_new w _⟩
  have HA := fun w1 (hb : Below w.heap.size w w1) => aggOfMax os b off cap w1 (hrow.below hb) (by rw [hn.out]; exact hlen) hbd
  have HK := allOK_any os (some ⟨b, off, none⟩) cap (w.alloc (.cells #[.int .i64 0, .int .i64 0, .string noT] 27)) (hrow.below B0.out.1) (by rw [hn.out]; exact hlen)
  rw [hX] at HA ⊢
  rw [hn.out] at HA HK
  have HA : Hid (∀ w1, Below w.heap.size w w1 → Calls Try.prog 12 #[.string gMax, .slice (some ⟨b, off, none⟩) n cap] w1 fun e w' => e = .returned (ansV (X, 0)) ∧ Below w1.heap.size w1 w') := HA
  obtain ⟨xk, xn, xt⟩ := X
  have h1 : ¬ (4096 : Int) < (n : Int) := by omega
  clear hrow hX hbd hn
  go_enter Try.func5, Try.ntmps5
  go_wp2_with fail
  refine (isAggMax _).mono ?_
  rintro e w1 ⟨rfl, e1⟩
  obtain rfl := e1.symm
  clear e1
  go_wp2_with fail
  refine HK.mono ?_
  rintro e w1 ⟨rfl, b1⟩
  have B1 : Hid (Below w.heap.size w w1 ∧ BoxV w1 w.heap.size 0 0 noT) := ⟨B0.out.1.trans (b1.mono B0.out.1.size), (b1.block _ (lt_blk B0.out.2)).trans B0.out.2⟩
  clear HK b1 B0
  have F := HA.out w1 B1.out.1
  go_wp2_with fail
  refine F.mono ?_
  rintro e w2 ⟨rfl, b2⟩
  have B2 : Hid (Below w.heap.size w w2 ∧ BoxV w2 w.heap.size 0 0 noT) := ⟨B1.out.1.trans (b2.mono B1.out.1.size), (b2.block _ (lt_blk B1.out.2)).trans B1.out.2⟩
  clear F b2 B1 HA
  obtain ⟨v0, v1, v2, y0, y1, y2⟩ := box_facts B2.out.2
  go_wp2_with fail
  obtain ⟨r0, r1, r2, _, _, _⟩ := box_facts (box_set B2.out.2 xk xn xt)
  exact bodyPost_ret (v := VC xk xn xt 0) (by simp [results, Try.results5, go_sem, r0, r1, r2]) rfl ⟨rfl, below_set3 B2.out.1 (Nat.le_refl _) _ _ _⟩
end Go.Proofs.Ythdilgggjkekaaa
