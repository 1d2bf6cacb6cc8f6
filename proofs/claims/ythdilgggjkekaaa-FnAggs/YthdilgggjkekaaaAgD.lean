/- Towards the law FnAggs: the specification's AggValue (stage 12). -/
import Derived.Test.YthdilgggjkekaaaAgC
namespace Go.Proofs.Ythdilgggjkekaaa
open Go.RowKit

theorem ok_ov (o : Option Int) : okV (ov o).1 (ov o).2.1 (ov o).2.2 = true := by
  cases o <;> simp [ov, okV, ByteArray.toList_eq]
set_option maxRecDepth 100000 in
set_option maxHeartbeats 8000000 in
theorem specAggCount (X : V3) (os : List (Option Int)) (a : Option Addr) (cap : Nat) (w : World) (hrow : RowV w a (os.map ov)) (hlen : os.length ≤ 4096)
    (hX : ∀ w', Below w.heap.size w w' → Calls Try.prog 14 #[.string gCount, .slice a os.length cap] w' fun e w'' => e = .returned (ansV (X, 0)) ∧ Below w'.heap.size w' w'') :
    Calls Try.prog 6 #[.string gCount, .slice a os.length cap] w fun e w' => e = .returned (ansV (X, 0)) ∧ Below w.heap.size w w' := by
  have HR : Hid (RowV w a (os.map ov)) := hrow
  have HX : Hid (∀ w', Below w.heap.size w w' → Calls Try.prog 14 #[.string gCount, .slice a os.length cap] w' fun e w'' => e = .returned (ansV (X, 0)) ∧ Below w'.heap.size w' w'') := hX
  clear hrow hX
  obtain ⟨len, hL⟩ : ∃ m, os.length = m := ⟨_, rfl⟩
  have HL : Hid (os.length = len) := hL
  rw [hL] at hlen HX ⊢
  clear hL
  obtain ⟨xk, xn, xt⟩ := X
  have B0 : Hid (Below w.heap.size w (w.alloc (.cells #[.int .i64 0, .int .i64 0, .string noT] 27)) ∧ BoxV (w.alloc (.cells #[.int .i64 0, .int .i64 0, .string noT] 27)) w.heap.size 0 0 noT) := ⟨(Below.refl _ _).alloc (Nat.le_refl _) _, heap_alloc_new w _⟩
  go_enter Try.func6, Try.ntmps6
  go_wp2
  go_loopw [6] (fun i wr => ∃ j : Nat, j ≤ len ∧ i = .int .i64 j ∧ Hid (Below w.heap.size w wr ∧ BoxV wr w.heap.size 0 0 noT)) (fun i _ => len - (intOf i).toNat)
  case atStart => exact ⟨0, by omega, rfl, B0⟩
  case round =>
    obtain ⟨j, hj, rfl, HW⟩ := hrel
    by_cases hjl : j < len
    · have hjo : j < os.length := by rw [HL.out]; exact hjl
      obtain ⟨b, off, rfl, hb, ⟨c0, c1, c2⟩, hs⟩ := (HR.out.below HW.out.1) j (by simpa using hjo)
      rw [nth_ov os j hjo] at c0 c1 c2
      have hv := specValueOK_any (ov os[j]).1 (ov os[j]).2.1 (ov os[j]).2.2 wr
      rw [ok_ov] at hv
      generalize ov os[j] = V at *
      obtain ⟨vk, vn, vt⟩ := V
      simp only at c0 c1 c2 hv
      go_wp2_with fail
      refine hv.mono ?_
      rintro e w2 ⟨rfl, b2⟩
      have W2 : Hid (Below w.heap.size w w2 ∧ BoxV w2 w.heap.size 0 0 noT) := ⟨HW.out.1.trans (b2.mono HW.out.1.size), (b2.block _ (lt_blk HW.out.2)).trans HW.out.2⟩
      have d0 : w2.cell? ⟨b, off + j * 3, none⟩ = some (.int .i64 vk) := (b2.cell (p := ⟨b, off + j * 3, none⟩) hb).trans c0
      clear hv b2 HW c0 c1 c2
      go_wp2
      go_roundw
      case rel => exact ⟨j + 1, by omega, by go_num, W2⟩
      case measure => simp [intOf]; omega
    · obtain rfl : j = len := by omega
      have hx := HX.out wr HW.out.1
      go_wp2_with fail
      refine hx.mono ?_
      rintro e w2 ⟨rfl, b2⟩
      have W2 : Hid (Below w.heap.size w w2 ∧ BoxV w2 w.heap.size 0 0 noT) := ⟨HW.out.1.trans (b2.mono HW.out.1.size), (b2.block _ (lt_blk HW.out.2)).trans HW.out.2⟩
      obtain ⟨v0, v1, v2, y0, y1, y2⟩ := box_facts W2.out.2
      clear hx b2 HW HX
      go_wp2_with fail
      obtain ⟨r0, r1, r2, _, _, _⟩ := box_facts (box_set W2.out.2 xk xn xt)
      exact bodyPost_ret (v := VC xk xn xt 0) (by simp [results, Try.results6, go_sem, r0, r1, r2]) rfl ⟨rfl, below_set3 W2.out.1 (Nat.le_refl _) _ _ _⟩
set_option maxRecDepth 100000 in
set_option maxHeartbeats 8000000 in
theorem specAggSum (X : V3) (os : List (Option Int)) (a : Option Addr) (cap : Nat) (w : World) (hrow : RowV w a (os.map ov)) (hlen : os.length ≤ 4096)
    (hX : ∀ w', Below w.heap.size w w' → Calls Try.prog 14 #[.string gSum, .slice a os.length cap] w' fun e w'' => e = .returned (ansV (X, 0)) ∧ Below w'.heap.size w' w'') :
    Calls Try.prog 6 #[.string gSum, .slice a os.length cap] w fun e w' => e = .returned (ansV (X, 0)) ∧ Below w.heap.size w w' := by
  have HR : Hid (RowV w a (os.map ov)) := hrow
  have HX : Hid (∀ w', Below w.heap.size w w' → Calls Try.prog 14 #[.string gSum, .slice a os.length cap] w' fun e w'' => e = .returned (ansV (X, 0)) ∧ Below w'.heap.size w' w'') := hX
  clear hrow hX
  obtain ⟨len, hL⟩ : ∃ m, os.length = m := ⟨_, rfl⟩
  have HL : Hid (os.length = len) := hL
  rw [hL] at hlen HX ⊢
  clear hL
  obtain ⟨xk, xn, xt⟩ := X
  have B0 : Hid (Below w.heap.size w (w.alloc (.cells #[.int .i64 0, .int .i64 0, .string noT] 27)) ∧ BoxV (w.alloc (.cells #[.int .i64 0, .int .i64 0, .string noT] 27)) w.heap.size 0 0 noT) := ⟨(Below.refl _ _).alloc (Nat.le_refl _) _, heap_alloc_new w _⟩
  go_enter Try.func6, Try.ntmps6
  go_wp2
  go_loopw [6] (fun i wr => ∃ j : Nat, j ≤ len ∧ i = .int .i64 j ∧ Hid (Below w.heap.size w wr ∧ BoxV wr w.heap.size 0 0 noT)) (fun i _ => len - (intOf i).toNat)
  case atStart => exact ⟨0, by omega, rfl, B0⟩
  case round =>
    obtain ⟨j, hj, rfl, HW⟩ := hrel
    by_cases hjl : j < len
    · have hjo : j < os.length := by rw [HL.out]; exact hjl
      obtain ⟨b, off, rfl, hb, ⟨c0, c1, c2⟩, hs⟩ := (HR.out.below HW.out.1) j (by simpa using hjo)
      rw [nth_ov os j hjo] at c0 c1 c2
      have hv := specValueOK_any (ov os[j]).1 (ov os[j]).2.1 (ov os[j]).2.2 wr
      rw [ok_ov] at hv
      have hk : (ov os[j]).1 = 0 ∨ (ov os[j]).1 = 2 := by cases os[j] <;> simp [ov]
      generalize ov os[j] = V at *
      obtain ⟨vk, vn, vt⟩ := V
      simp only at c0 c1 c2 hv hk
      go_wp2_with fail
      refine hv.mono ?_
      rintro e w2 ⟨rfl, b2⟩
      have W2 : Hid (Below w.heap.size w w2 ∧ BoxV w2 w.heap.size 0 0 noT) := ⟨HW.out.1.trans (b2.mono HW.out.1.size), (b2.block _ (lt_blk HW.out.2)).trans HW.out.2⟩
      have d0 : w2.cell? ⟨b, off + j * 3, none⟩ = some (.int .i64 vk) := (b2.cell (p := ⟨b, off + j * 3, none⟩) hb).trans c0
      clear hv b2 HW c0 c1 c2
      rcases hk with rfl | rfl
      all_goals
        go_wp2
        go_roundw
        case rel => exact ⟨j + 1, by omega, by go_num, W2⟩
        case measure => simp [intOf]; omega
    · obtain rfl : j = len := by omega
      have hx := HX.out wr HW.out.1
      go_wp2_with fail
      refine hx.mono ?_
      rintro e w2 ⟨rfl, b2⟩
      have W2 : Hid (Below w.heap.size w w2 ∧ BoxV w2 w.heap.size 0 0 noT) := ⟨HW.out.1.trans (b2.mono HW.out.1.size), (b2.block _ (lt_blk HW.out.2)).trans HW.out.2⟩
      obtain ⟨v0, v1, v2, y0, y1, y2⟩ := box_facts W2.out.2
      clear hx b2 HW HX
      go_wp2_with fail
      obtain ⟨r0, r1, r2, _, _, _⟩ := box_facts (box_set W2.out.2 xk xn xt)
      exact bodyPost_ret (v := VC xk xn xt 0) (by simp [results, Try.results6, go_sem, r0, r1, r2]) rfl ⟨rfl, below_set3 W2.out.1 (Nat.le_refl _) _ _ _⟩
set_option maxRecDepth 100000 in
set_option maxHeartbeats 8000000 in
theorem specAggMin (X : V3) (os : List (Option Int)) (a : Option Addr) (cap : Nat) (w : World) (hrow : RowV w a (os.map ov)) (hlen : os.length ≤ 4096)
    (hX : ∀ w', Below w.heap.size w w' → Calls Try.prog 14 #[.string gMin, .slice a os.length cap] w' fun e w'' => e = .returned (ansV (X, 0)) ∧ Below w'.heap.size w' w'') :
    Calls Try.prog 6 #[.string gMin, .slice a os.length cap] w fun e w' => e = .returned (ansV (X, 0)) ∧ Below w.heap.size w w' := by
  have HR : Hid (RowV w a (os.map ov)) := hrow
  have HX : Hid (∀ w', Below w.heap.size w w' → Calls Try.prog 14 #[.string gMin, .slice a os.length cap] w' fun e w'' => e = .returned (ansV (X, 0)) ∧ Below w'.heap.size w' w'') := hX
  clear hrow hX
  obtain ⟨len, hL⟩ : ∃ m, os.length = m := ⟨_, rfl⟩
  have HL : Hid (os.length = len) := hL
  rw [hL] at hlen HX ⊢
  clear hL
  obtain ⟨xk, xn, xt⟩ := X
  have B0 : Hid (Below w.heap.size w (w.alloc (.cells #[.int .i64 0, .int .i64 0, .string noT] 27)) ∧ BoxV (w.alloc (.cells #[.int .i64 0, .int .i64 0, .string noT] 27)) w.heap.size 0 0 noT) := ⟨(Below.refl _ _).alloc (Nat.le_refl _) _, heap_alloc_new w _⟩
  go_enter Try.func6, Try.ntmps6
  go_wp2
  go_loopw [6] (fun i wr => ∃ j : Nat, j ≤ len ∧ i = .int .i64 j ∧ Hid (Below w.heap.size w wr ∧ BoxV wr w.heap.size 0 0 noT)) (fun i _ => len - (intOf i).toNat)
  case atStart => exact ⟨0, by omega, rfl, B0⟩
  case round =>
    obtain ⟨j, hj, rfl, HW⟩ := hrel
    by_cases hjl : j < len
    · have hjo : j < os.length := by rw [HL.out]; exact hjl
      obtain ⟨b, off, rfl, hb, ⟨c0, c1, c2⟩, hs⟩ := (HR.out.below HW.out.1) j (by simpa using hjo)
      rw [nth_ov os j hjo] at c0 c1 c2
      have hv := specValueOK_any (ov os[j]).1 (ov os[j]).2.1 (ov os[j]).2.2 wr
      rw [ok_ov] at hv
      generalize ov os[j] = V at *
      obtain ⟨vk, vn, vt⟩ := V
      simp only at c0 c1 c2 hv
      go_wp2_with fail
      refine hv.mono ?_
      rintro e w2 ⟨rfl, b2⟩
      have W2 : Hid (Below w.heap.size w w2 ∧ BoxV w2 w.heap.size 0 0 noT) := ⟨HW.out.1.trans (b2.mono HW.out.1.size), (b2.block _ (lt_blk HW.out.2)).trans HW.out.2⟩
      have d0 : w2.cell? ⟨b, off + j * 3, none⟩ = some (.int .i64 vk) := (b2.cell (p := ⟨b, off + j * 3, none⟩) hb).trans c0
      clear hv b2 HW c0 c1 c2
      go_wp2
      go_roundw
      case rel => exact ⟨j + 1, by omega, by go_num, W2⟩
      case measure => simp [intOf]; omega
    · obtain rfl : j = len := by omega
      have hx := HX.out wr HW.out.1
      go_wp2_with fail
      refine hx.mono ?_
      rintro e w2 ⟨rfl, b2⟩
      have W2 : Hid (Below w.heap.size w w2 ∧ BoxV w2 w.heap.size 0 0 noT) := ⟨HW.out.1.trans (b2.mono HW.out.1.size), (b2.block _ (lt_blk HW.out.2)).trans HW.out.2⟩
      obtain ⟨v0, v1, v2, y0, y1, y2⟩ := box_facts W2.out.2
      clear hx b2 HW HX
      go_wp2_with fail
      obtain ⟨r0, r1, r2, _, _, _⟩ := box_facts (box_set W2.out.2 xk xn xt)
      exact bodyPost_ret (v := VC xk xn xt 0) (by simp [results, Try.results6, go_sem, r0, r1, r2]) rfl ⟨rfl, below_set3 W2.out.1 (Nat.le_refl _) _ _ _⟩
set_option maxRecDepth 100000 in
set_option maxHeartbeats 8000000 in
theorem specAggMax (X : V3) (os : List (Option Int)) (a : Option Addr) (cap : Nat) (w : World) (hrow : RowV w a (os.map ov)) (hlen : os.length ≤ 4096)
    (hX : ∀ w', Below w.heap.size w w' → Calls Try.prog 14 #[.string gMax, .slice a os.length cap] w' fun e w'' => e = .returned (ansV (X, 0)) ∧ Below w'.heap.size w' w'') :
    Calls Try.prog 6 #[.string gMax, .slice a os.length cap] w fun e w' => e = .returned (ansV (X, 0)) ∧ Below w.heap.size w w' := by
  have HR : Hid (RowV w a (os.map ov)) := hrow
  have HX : Hid (∀ w', Below w.heap.size w w' → Calls Try.prog 14 #[.string gMax, .slice a os.length cap] w' fun e w'' => e = .returned (ansV (X, 0)) ∧ Below w'.heap.size w' w'') := hX
  clear hrow hX
  obtain ⟨len, hL⟩ : ∃ m, os.length = m := ⟨_, rfl⟩
  have HL : Hid (os.length = len) := hL
  rw [hL] at hlen HX ⊢
  clear hL
  obtain ⟨xk, xn, xt⟩ := X
  have B0 : Hid (Below w.heap.size w (w.alloc (.cells #[.int .i64 0, .int .i64 0, .string noT] 27)) ∧ BoxV (w.alloc (.cells #[.int .i64 0, .int .i64 0, .string noT] 27)) w.heap.size 0 0 noT) := ⟨(Below.refl _ _).alloc (Nat.le_refl _) _, heap_alloc_new w _⟩
  go_enter Try.func6, Try.ntmps6
  go_wp2
  go_loopw [6] (fun i wr => ∃ j : Nat, j ≤ len ∧ i = .int .i64 j ∧ Hid (Below w.heap.size w wr ∧ BoxV wr w.heap.size 0 0 noT)) (fun i _ => len - (intOf i).toNat)
  case atStart => exact ⟨0, by omega, rfl, B0⟩
  case round =>
    obtain ⟨j, hj, rfl, HW⟩ := hrel
    by_cases hjl : j < len
    · have hjo : j < os.length := by rw [HL.out]; exact hjl
      obtain ⟨b, off, rfl, hb, ⟨c0, c1, c2⟩, hs⟩ := (HR.out.below HW.out.1) j (by simpa using hjo)
      rw [nth_ov os j hjo] at c0 c1 c2
      have hv := specValueOK_any (ov os[j]).1 (ov os[j]).2.1 (ov os[j]).2.2 wr
      rw [ok_ov] at hv
      generalize ov os[j] = V at *
      obtain ⟨vk, vn, vt⟩ := V
      simp only at c0 c1 c2 hv
      go_wp2_with fail
      refine hv.mono ?_
      rintro e w2 ⟨rfl, b2⟩
      have W2 : Hid (Below w.heap.size w w2 ∧ BoxV w2 w.heap.size 0 0 noT) := ⟨HW.out.1.trans (b2.mono HW.out.1.size), (b2.block _ (lt_blk HW.out.2)).trans HW.out.2⟩
      have d0 : w2.cell? ⟨b, off + j * 3, none⟩ = some (.int .i64 vk) := (b2.cell (p := ⟨b, off + j * 3, none⟩) hb).trans c0
      clear hv b2 HW c0 c1 c2
      go_wp2
      go_roundw
      case rel => exact ⟨j + 1, by omega, by go_num, W2⟩
      case measure => simp [intOf]; omega
    · obtain rfl : j = len := by omega
      have hx := HX.out wr HW.out.1
      go_wp2_with fail
      refine hx.mono ?_
      rintro e w2 ⟨rfl, b2⟩
      have W2 : Hid (Below w.heap.size w w2 ∧ BoxV w2 w.heap.size 0 0 noT) := ⟨HW.out.1.trans (b2.mono HW.out.1.size), (b2.block _ (lt_blk HW.out.2)).trans HW.out.2⟩
      obtain ⟨v0, v1, v2, y0, y1, y2⟩ := box_facts W2.out.2
      clear hx b2 HW HX
      go_wp2_with fail
      obtain ⟨r0, r1, r2, _, _, _⟩ := box_facts (box_set W2.out.2 xk xn xt)
      exact bodyPost_ret (v := VC xk xn xt 0) (by simp [results, Try.results6, go_sem, r0, r1, r2]) rfl ⟨rfl, below_set3 W2.out.1 (Nat.le_refl _) _ _ _⟩
end Go.Proofs.Ythdilgggjkekaaa
