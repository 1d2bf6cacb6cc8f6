/- Both ValueTexts, and the law walked (stage 1). -/
import Derived.Test.YtiimegahhnjjkaaDoorVtG
namespace Go.Proofs.YtiimegahhnjjkaaDoor
open Go.RowKit

/-- What both sides answer of a value. -/
def valA (k n : Int) (t : ByteArray) : Value := if okV k n t = true then .tuple #[.string (tx (litL k n t)), .int .i64 0] else .tuple #[.string ⟨#[]⟩, .int .i64 1]
theorem valA_pair (k n : Int) (t : ByteArray) : ∃ (s : ByteArray) (c : Int), valA k n t = .tuple #[.string s, .int .i64 c] := by
  unfold valA
  split
  · exact ⟨_, _, rfl⟩
  · exact ⟨_, _, rfl⟩

set_option maxRecDepth 100000 in
set_option maxHeartbeats 4000000 in
theorem specValueText_any (k n : Int) (t : ByteArray) (hr : Rg n) (w : World) : Calls Tryd.prog 6 #[VV k n t] w fun e w' => e = .returned (valA k n t) ∧ Below w.heap.size w w' := by
  obtain ⟨W0, hW0⟩ : ∃ W0, w.alloc (.cells #[.int .i64 k, .int .i64 n, .string t] 27) = W0 := ⟨_, rfl⟩
  have B0 : Below w.heap.size w W0 := hW0 ▸ (Below.refl _ _).alloc (Nat.le_refl _) _
  have XA : W0.heap[w.heap.size]? = some (.cells #[.int .i64 k, .int .i64 n, .string t] 27 (0, 0)) := (hW0 ▸ heap_new' _ _ _ rfl : W0.heap[w.heap.size]? = _)
  have c0 : W0.cell? ⟨w.heap.size, 0, none⟩ = some (.int .i64 k) := slab_cell XA
  have c1 : W0.cell? ⟨w.heap.size, 1, none⟩ = some (.int .i64 n) := slab_cell XA
  have c2 : W0.cell? ⟨w.heap.size, 2, none⟩ = some (.string t) := slab_cell XA
  have HX : Hid (∀ w', Below W0.heap.size W0 w' → w'.heap[w.heap.size]? = some (.cells #[.int .i64 k, .int .i64 n, .string t] 27 (0, 0))) := fun w' hb => (hb.block _ (slab_lt XA)).trans XA
  have hcall := fun w => specValueOK_any k n t w
  have hlit := fun (h : okV k n t = true) w => specText_any k n t h hr w
  have HE : Hid (valA k n t = if okV k n t = true then .tuple #[.string (tx (litL k n t)), .int .i64 0] else .tuple #[.string ⟨#[]⟩, .int .i64 1]) := rfl
  clear XA hr
  generalize valA k n t = va at *
  cases hok : okV k n t with
  | false =>
    rw [hok] at hcall HE
    have HE2 : Hid (va = .tuple #[.string ⟨#[]⟩, .int .i64 1]) := HE.out
    clear hlit hok HE
    go_enter Tryd.func6, Tryd.ntmps6
    go_wp2_with fail
    refine (hcall _).mono ?_
    rintro e w1 ⟨rfl, b1⟩
    have B1 := below_step B0 (Nat.le_refl _) b1
    clear hcall
    go_wp2
    go_ret2
    exact ⟨ret_val HE2.out.symm, B1⟩
  | true =>
    rw [hok] at hcall HE
    have hl := hlit hok
    have HE2 : Hid (va = .tuple #[.string (tx (litL k n t)), .int .i64 0]) := HE.out
    clear hlit hok HE
    generalize tx (litL k n t) = sl at *
    go_enter Tryd.func6, Tryd.ntmps6
    go_wp2_with fail
    refine (hcall _).mono ?_
    rintro e w1 ⟨rfl, b1⟩
    have d0 : w1.cell? ⟨w.heap.size, 0, none⟩ = some (.int .i64 k) := slab_cell (HX.out _ b1)
    have d1 : w1.cell? ⟨w.heap.size, 1, none⟩ = some (.int .i64 n) := slab_cell (HX.out _ b1)
    have d2 : w1.cell? ⟨w.heap.size, 2, none⟩ = some (.string t) := slab_cell (HX.out _ b1)
    have B1 := below_step B0 (Nat.le_refl _) b1
    clear hcall
    go_wp2_with fail
    refine (hl _).mono ?_
    rintro e w2 ⟨rfl, b2⟩
    have B2 := below_step B1 (Nat.le_refl _) b2
    clear hl
    go_wp2
    go_ret2
    exact ⟨ret_val HE2.out.symm, B2⟩

set_option maxRecDepth 100000 in
set_option maxHeartbeats 4000000 in
theorem implValueText_any (k n : Int) (t : ByteArray) (hr : Rg n) (w : World) (hT : Tb w) : Calls Tryd.prog 8 #[VV k n t] w fun e w' => e = .returned (valA k n t) ∧ Below w.heap.size w w' := by
  obtain ⟨W0, hW0⟩ : ∃ W0, w.alloc (.cells #[.int .i64 k, .int .i64 n, .string t] 27) = W0 := ⟨_, rfl⟩
  have B0 : Below w.heap.size w W0 := hW0 ▸ (Below.refl _ _).alloc (Nat.le_refl _) _
  have XA : W0.heap[w.heap.size]? = some (.cells #[.int .i64 k, .int .i64 n, .string t] 27 (0, 0)) := (hW0 ▸ heap_new' _ _ _ rfl : W0.heap[w.heap.size]? = _)
  have c0 : W0.cell? ⟨w.heap.size, 0, none⟩ = some (.int .i64 k) := slab_cell XA
  have c1 : W0.cell? ⟨w.heap.size, 1, none⟩ = some (.int .i64 n) := slab_cell XA
  have c2 : W0.cell? ⟨w.heap.size, 2, none⟩ = some (.string t) := slab_cell XA
  have hcall := fun w => cellOf_any k n t w
  have hlit := fun (h : okV k n t = true) w hT => literal_any k n t h hr w hT
  have HT : Hid (∀ w', Below w.heap.size w w' → Tb w') := fun w' b => hT.below b
  have HE : Hid (valA k n t = if okV k n t = true then .tuple #[.string (tx (litL k n t)), .int .i64 0] else .tuple #[.string ⟨#[]⟩, .int .i64 1]) := rfl
  clear XA hr hT
  generalize valA k n t = va at *
  cases hok : okV k n t with
  | false =>
    have hn : cellV k n t = .nilIface := by unfold cellV; rw [hok]; rfl
    rw [hn] at hcall
    rw [hok] at HE
    have HE2 : Hid (va = .tuple #[.string ⟨#[]⟩, .int .i64 1]) := HE.out
    clear hlit hok HE hn
    go_enter Tryd.func8, Tryd.ntmps8
    go_wp2_with fail
    refine (hcall _).mono ?_
    rintro e w1 ⟨rfl, b1⟩
    have B1 := below_step B0 (Nat.le_refl _) b1
    clear hcall
    go_wp2
    go_ret2
    exact ⟨ret_val HE2.out.symm, B1⟩
  | true =>
    have hl := hlit hok
    obtain ⟨u, x, hu⟩ := cell_held hok
    rw [hu] at hcall hl
    rw [hok] at HE
    have HE2 : Hid (va = .tuple #[.string (tx (litL k n t)), .int .i64 0]) := HE.out
    clear hlit hok HE hu
    generalize tx (litL k n t) = sl at *
    go_enter Tryd.func8, Tryd.ntmps8
    go_wp2_with fail
    refine (hcall _).mono ?_
    rintro e w1 ⟨rfl, b1⟩
    have B1 := below_step B0 (Nat.le_refl _) b1
    have hT1 := HT.out _ B1
    clear hcall
    go_wp2_with fail
    refine (hl _ hT1).mono ?_
    rintro e w2 ⟨rfl, b2⟩
    have B2 := below_step B1 (Nat.le_refl _) b2
    clear hl hT1
    go_wp2
    go_ret2
    exact ⟨ret_val HE2.out.symm, B2⟩

set_option maxRecDepth 100000 in
set_option maxHeartbeats 4000000 in
theorem lawValueText (k n : Int) (t : ByteArray) (hr : Rg n) (ht : t.size ≤ maxLen) (w : World) (hT : Tb w) : Calls Tryd.prog 3 #[VV k n t] w fun e w' => e = .returned (.bool true) ∧ Below w.heap.size w w' := by
  obtain ⟨W0, hW0⟩ : ∃ W0, w.alloc (.cells #[.int .i64 k, .int .i64 n, .string t] 23) = W0 := ⟨_, rfl⟩
  have B0 : Below w.heap.size w W0 := hW0 ▸ (Below.refl _ _).alloc (Nat.le_refl _) _
  have XA : W0.heap[w.heap.size]? = some (.cells #[.int .i64 k, .int .i64 n, .string t] 23 (0, 0)) := (hW0 ▸ heap_new' _ _ _ rfl : W0.heap[w.heap.size]? = _)
  have c0 : W0.cell? ⟨w.heap.size, 0, none⟩ = some (.int .i64 k) := slab_cell XA
  have c1 : W0.cell? ⟨w.heap.size, 1, none⟩ = some (.int .i64 n) := slab_cell XA
  have c2 : W0.cell? ⟨w.heap.size, 2, none⟩ = some (.string t) := slab_cell XA
  have HX : Hid (∀ w', Below W0.heap.size W0 w' → w'.heap[w.heap.size]? = some (.cells #[.int .i64 k, .int .i64 n, .string t] 23 (0, 0))) := fun w' hb => (hb.block _ (slab_lt XA)).trans XA
  have HB0 : Hid (Below w.heap.size w W0) := B0
  have HT : Hid (∀ w', Below w.heap.size w w' → Tb w') := fun w' b => hT.below b
  have HR : Hid (Rg n) := hr
  have hsz := fun w => szValue_any k n 1048576 t w (by omega) (by omega) ht
  have hbd := leftOf_bd 1048576 t (by omega)
  clear XA hr hT ht B0
  generalize leftOf 1048576 t = z at *
  go_enter Tryd.func3, Tryd.ntmps3
  go_wp2_with fail
  refine (hsz _).mono ?_
  rintro e w1 ⟨rfl, b1⟩
  have HB1 : Hid (Below W0.heap.size W0 w1) := b1
  have d0 : w1.cell? ⟨w.heap.size, 0, none⟩ = some (.int .i64 k) := slab_cell (HX.out _ b1)
  have d1 : w1.cell? ⟨w.heap.size, 1, none⟩ = some (.int .i64 n) := slab_cell (HX.out _ b1)
  have d2 : w1.cell? ⟨w.heap.size, 2, none⟩ = some (.string t) := slab_cell (HX.out _ b1)
  clear hsz b1 c0 c1 c2
  by_cases hz : z < 0
  · go_wp2
    go_ret
    exact ⟨rfl, below_step HB0.out (Nat.le_refl _) HB1.out⟩
  go_wp2_with fail
  refine (toValue_any k n t _).mono ?_
  rintro e w2 ⟨rfl, b2⟩
  have HB2 : Hid (Below W0.heap.size W0 w2) := below_step HB1.out (Nat.le_refl _) b2
  clear b2 d0 d1 d2
  go_wp2_with fail
  refine (specValueText_any k n t HR.out _).mono ?_
  rintro e w3 ⟨rfl, b3⟩
  have HB3 : Hid (Below W0.heap.size W0 w3) := below_step HB2.out (Nat.le_refl _) b3
  have d0 : w3.cell? ⟨w.heap.size, 0, none⟩ = some (.int .i64 k) := slab_cell (HX.out _ HB3.out)
  have d1 : w3.cell? ⟨w.heap.size, 1, none⟩ = some (.int .i64 n) := slab_cell (HX.out _ HB3.out)
  have d2 : w3.cell? ⟨w.heap.size, 2, none⟩ = some (.string t) := slab_cell (HX.out _ HB3.out)
  obtain ⟨sr, cr, hv⟩ := valA_pair k n t
  have HV : Hid (valA k n t = .tuple #[.string sr, .int .i64 cr]) := hv
  rw [hv]
  clear b3 hv
  go_wp2_with fail
  refine (toValue_any k n t _).mono ?_
  rintro e w4 ⟨rfl, b4⟩
  have HB4 : Hid (Below W0.heap.size W0 w4) := below_step HB3.out (Nat.le_refl _) b4
  clear b4 d0 d1 d2
  go_wp2_with fail
  refine (implValueText_any k n t HR.out _ (HT.out _ (HB0.out.trans (HB4.out.mono HB0.out.size)))).mono ?_
  rintro e w5 ⟨rfl, b5⟩
  rw [HV.out]
  have HB5 : Hid (Below w.heap.size w w5) := HB0.out.trans ((below_step HB4.out (Nat.le_refl _) b5).mono HB0.out.size)
  clear b5
  go_wp2
  go_ret
  exact ⟨rfl, HB5.out⟩
end Go.Proofs.YtiimegahhnjjkaaDoor
