/- The text of a row, impl's (stage 1). -/
import Derived.Test.YtiimegahhnjjkaaDoorVtG
namespace Go.Proofs.YtiimegahhnjjkaaDoor
open Go.RowKit

theorem okRow_all {vs : List V3} (h : okRow vs = true) : vs.length ≤ 8 ∧ ∀ v ∈ vs, okV3 v = true := by
  unfold okRow at h
  simpa using h
/-- The cells of a row, as rowCells hands them on. -/
def RowCl (w : World) (a : Option Addr) (vs : List V3) : Prop :=
  ∀ i, i < vs.length → ∃ b, a = some ⟨b, 0, none⟩ ∧ b < w.heap.size ∧ w.cell? ⟨b, i, none⟩ = some (cellW (nthV vs i))
theorem RowCl.below {w w' : World} {a : Option Addr} {vs : List V3} (h : RowCl w a vs) (hb : Below w.heap.size w w') : RowCl w' a vs := fun i hi => by
  obtain ⟨b, e, hlt, hc⟩ := h i hi
  exact ⟨b, e, Nat.lt_of_lt_of_le hlt hb.size, (hb.cell (p := ⟨b, i, none⟩) hlt).trans hc⟩
theorem own_row {u : World} {B : Nat} {v : Value} {vs : List V3} (h : u.ownsRow B 40 1 v vs.length (vs.map cellW)) : ∃ a c, v = .slice a vs.length c ∧ RowCl u a vs := by
  obtain ⟨hl, h⟩ := h
  rcases h with ⟨rfl, h0⟩ | ⟨g, cap, cur, rfl, _, hh, hn, _, hcs, htk⟩
  · exact ⟨none, 0, by rw [h0], fun i hi => by omega⟩
  · refine ⟨_, _, rfl, fun i hi => ⟨g, rfl, ?_, ?_⟩⟩
    · rcases Nat.lt_or_ge g u.heap.size with h | h
      · exact h
      · rw [Array.getElem?_eq_none h] at hh; cases hh
    · have hxi : (vs.map cellW)[i]? = cur[i]? := by rw [← htk, List.getElem?_take, if_pos (by omega), Array.getElem?_toList]
      rw [slab_cell hh, ← hxi, List.getElem?_map, List.getElem?_eq_getElem hi]
      unfold nthV
      rw [List.getD_eq_getElem?_getD, List.getElem?_eq_getElem hi]
      rfl
theorem nth_mem {vs : List V3} {k : Nat} (h : k < vs.length) : nthV vs k ∈ vs := by
  unfold nthV
  rw [List.getD_eq_getElem?_getD, List.getElem?_eq_getElem h]
  exact List.getElem_mem h


/-- The literal of a value. -/
def litW (v : V3) : List UInt8 := litL v.1 v.2.1 v.2.2
/-- The text of a row. -/
def rowL (vs : List V3) : List UInt8 := [40] ++ joinL (fun j => litW (nthV vs j)) vs.length ++ [41]

set_option maxRecDepth 100000 in
set_option maxHeartbeats 4000000 in
theorem joinCell_any (W1 : World) (b : Nat) (l0 : List UInt8) (a : Option Addr) (cap : Nat) (vs : List V3) (w : World) (hC : RowCl W1 a vs) (hWr : Tb W1) (bl : Below W1.heap.size W1 w) (h : Bd W1.heap.size b l0 w) (hl0 : l0.length ≤ 50000) (hn : vs.length ≤ 8)
    (hOK : ∀ j, j < vs.length → okV3 (nthV vs j) = true ∧ Rg (nthV vs j).2.1) :
    Calls Tryd.prog 32 #[.pointer (some ⟨b, 0, none⟩), .slice a vs.length cap, .func (Fn.func 17) #[] #[]] w fun e w' => e = .returned (.tuple #[]) ∧ Bd W1.heap.size b (l0 ++ joinL (fun j => litW (nthV vs j)) vs.length) w' ∧ Below W1.heap.size w w' := by
  have HC : Hid (RowCl W1 a vs ∧ Tb W1 ∧ Below W1.heap.size W1 w) := ⟨hC, hWr, bl⟩
  have HO : Hid (∀ j, j < vs.length → okV3 (nthV vs j) = true ∧ Rg (nthV vs j).2.1) := hOK
  have HJ : Hid (∀ k, k ≤ vs.length → (l0 ++ joinL (fun j => litW (nthV vs j)) k).length ≤ 60000) := fun k hk => by
    have := joinL_len (fun j => litW (nthV vs j)) 150 k (fun j hj => litL_len _ _ _ (hOK j (by omega)).1 (hOK j (by omega)).2)
    rw [List.length_append]
    have : k * 152 ≤ 8 * 152 := Nat.mul_le_mul (by omega) (Nat.le_refl _)
    omega
  have H0 : Hid (Bd W1.heap.size b (l0 ++ joinL (fun j => litW (nthV vs j)) 0) w) := h.eq (by simp [joinL])
  clear hC hWr bl hOK h hl0
  generalize hN : vs.length = n at *
  have HN : Hid (vs.length = n) := hN
  clear hN
  go_enter Tryd.func32, Tryd.ntmps32
  go_wp2
  go_loopw [10] (fun i wr => ∃ k : Nat, k ≤ n ∧ i = .int .i64 k ∧ Hid (Bd W1.heap.size b (l0 ++ joinL (fun j => litW (nthV vs j)) k) wr) ∧ Below W1.heap.size w wr) (fun i _ => n - (intOf i).toNat)
  case atStart => exact ⟨0, by omega, rfl, H0.out, Below.refl _ _⟩
  case round =>
    obtain ⟨k, hk, rfl, HK, hbl⟩ := hrel
    by_cases hlt : k < n
    · have hltI : (k : Int) < (n : Int) := by omega
      have hbw := HK.out.lt
      have HB : Hid (Below W1.heap.size W1 wr) := HC.out.2.2.trans hbl
      have HBl : Hid (Below W1.heap.size w wr) := hbl
      have HOk := HO.out k hlt
      have HL := HJ.out k (by omega)
      have hj : joinL (fun j => litW (nthV vs j)) (k + 1) = joinL (fun j => litW (nthV vs j)) k ++ (if 0 < k then [44, 32] else []) ++ litW (nthV vs k) := rfl
      have HJ2 : Hid (l0 ++ joinL (fun j => litW (nthV vs j)) (k + 1) = (l0 ++ joinL (fun j => litW (nthV vs j)) k) ++ (if 0 < k then [44, 32] else []) ++ litW (nthV vs k)) := by show _ = _; rw [hj]; simp
      clear hj
      obtain ⟨b', rfl, hlb, q0⟩ := (HC.out.1.below HB.out) k (by rw [HN.out]; exact hlt)
      generalize (l0 ++ joinL (fun j => litW (nthV vs j)) k) = lk at *
      generalize hk1 : (l0 ++ joinL (fun j => litW (nthV vs j)) (k + 1)) = lk1 at *
      have HK1 : Hid ((l0 ++ joinL (fun j => litW (nthV vs j)) (k + 1)) = lk1) := hk1
      clear hk1
      obtain ⟨W2, hW2⟩ : ∃ W2, wr = W2 := ⟨_, rfl⟩
      have HB2 := hW2 ▸ HB
      have HBl2 := hW2 ▸ HBl
      have HK2 := hW2 ▸ HK.out
      have HS2 : W1.heap.size ≤ W2.heap.size := HB2.out.size
      subst hW2
      have HF : Hid ((litW (nthV vs k)).length ≤ 200) := (by show _ ≤ _; have := litL_len _ _ _ HOk.1 HOk.2; exact Nat.le_trans this (by decide))
      by_cases hk0 : 0 < k
      · have hk0I : (0 : Int) < (k : Int) := by omega
        have HJ3 : Hid (lk1 = (lk ++ [44, 32]) ++ litW (nthV vs k)) := by show _ = _; rw [HJ2.out, if_pos hk0]
        clear HJ2 HK HB
        go_wp2_with fail
        refine (bd_string W1.heap.size b lk ⟨#[44, 32]⟩ wr HK2 (by omega) (by show 2 ≤ _; omega) HS2).mono ?_
        rintro e w3 ⟨v3, rfl, h3, b3, o3⟩
        have HB3 : Hid (Below W1.heap.size W1 w3) := HB2.out.trans b3
        have HBl3 : Hid (Below W1.heap.size w w3) := HBl2.out.trans b3
        have HK3 : Hid (Bd W1.heap.size b (lk ++ [44, 32]) w3) := h3
        clear HB2 HBl2 HK2 h3 b3 o3 HS2
        go_wp2_with fail
        refine (literal_any (nthV vs k).1 (nthV vs k).2.1 (nthV vs k).2.2 HOk.1 HOk.2 w3 (HC.out.2.1.below HB3.out)).mono ?_
        rintro e w4 ⟨rfl, b4⟩
        have HK4 := HK3.out.below b4
        have HB4 : Hid (Below W1.heap.size W1 w4) := below_step HB3.out (Nat.le_refl _) b4
        have HBl4 : Hid (Below W1.heap.size w w4) := below_step HBl3.out HC.out.2.2.size b4
        clear HK3 HB3 HBl3 b4
        have HS4 : W1.heap.size ≤ w4.heap.size := HB4.out.size
        go_wp2_with fail
        refine (bd_string W1.heap.size b _ (tx (litW (nthV vs k))) w4 HK4 (by rw [List.length_append]; show _ + 2 ≤ _; omega) (by rw [tx_size]; have := HF.out; omega) HS4).mono ?_
        rintro e w5 ⟨v5, rfl, h5, b5, _⟩
        have HK5 : Hid (Bd W1.heap.size b lk1 w5) := h5.eq (by rw [bt_tx]; exact HJ3.out.symm)
        have HBl5 : Hid (Below W1.heap.size w w5) := HBl4.out.trans b5
        clear h5 b5 HK4
        go_wp2
        go_roundw
        case rel => exact ⟨k + 1, by omega, by go_num, HK1.out ▸ HK5.out, HBl5.out⟩
        case measure => simp [intOf]; omega
      · have hk0I : ¬ (0 : Int) < (k : Int) := by omega
        have HJ3 : Hid (lk1 = lk ++ litW (nthV vs k)) := by show _ = _; rw [HJ2.out, if_neg hk0]; simp
        clear HJ2 HK HB 
        go_wp2_with fail
        refine (literal_any (nthV vs k).1 (nthV vs k).2.1 (nthV vs k).2.2 HOk.1 HOk.2 wr (HC.out.2.1.below HB2.out)).mono ?_
        rintro e w4 ⟨rfl, b4⟩
        have HK4 := HK2.below b4
        have HB4 : Hid (Below W1.heap.size W1 w4) := below_step HB2.out (Nat.le_refl _) b4
        have HBl4 : Hid (Below W1.heap.size w w4) := below_step HBl2.out HC.out.2.2.size b4
        clear HK2 HB2 HBl2 b4
        have HS4 : W1.heap.size ≤ w4.heap.size := HB4.out.size
        go_wp2_with fail
        refine (bd_string W1.heap.size b _ (tx (litW (nthV vs k))) w4 HK4 (by omega) (by rw [tx_size]; have := HF.out; omega) HS4).mono ?_
        rintro e w5 ⟨v5, rfl, h5, b5, _⟩
        have HK5 : Hid (Bd W1.heap.size b lk1 w5) := h5.eq (by rw [bt_tx]; exact HJ3.out.symm)
        have HBl5 : Hid (Below W1.heap.size w w5) := HBl4.out.trans b5
        clear h5 b5 HK4
        go_wp2
        go_roundw
        case rel => exact ⟨k + 1, by omega, by go_num, HK1.out ▸ HK5.out, HBl5.out⟩
        case measure => simp [intOf]; omega
    · have e : k = n := by omega
      subst e
      go_wp2
      go_end0
      exact ⟨rfl, HK.out, hbl⟩

set_option maxRecDepth 100000 in
theorem listCell_any (W1 : World) (b : Nat) (l0 : List UInt8) (a : Option Addr) (cap : Nat) (vs : List V3) (w : World) (hC : RowCl W1 a vs) (hWr : Tb W1) (bl : Below W1.heap.size W1 w) (h : Bd W1.heap.size b l0 w) (hl0 : l0.length ≤ 49000) (hn : vs.length ≤ 8)
    (hOK : ∀ j, j < vs.length → okV3 (nthV vs j) = true ∧ Rg (nthV vs j).2.1) :
    Calls Tryd.prog 21 #[.pointer (some ⟨b, 0, none⟩), .slice a vs.length cap, .func (Fn.func 17) #[] #[]] w fun e w' => e = .returned (.tuple #[]) ∧ Bd W1.heap.size b (l0 ++ [40] ++ joinL (fun j => litW (nthV vs j)) vs.length ++ [41]) w' ∧ Below W1.heap.size w w' := by
  have HJ : Hid ((l0 ++ [40] ++ joinL (fun j => litW (nthV vs j)) vs.length).length ≤ 90000) := by
    have := joinL_len (fun j => litW (nthV vs j)) 150 vs.length (fun j hj => litL_len _ _ _ (hOK j (by omega)).1 (hOK j (by omega)).2)
    have : vs.length * 152 ≤ 8 * 152 := Nat.mul_le_mul hn (Nat.le_refl _)
    show _ ≤ _
    rw [List.length_append, List.length_append]
    show _ + 1 + _ ≤ _
    omega
  have HP : Hid (RowCl W1 a vs) := hC
  have HO : Hid (∀ j, j < vs.length → okV3 (nthV vs j) = true ∧ Rg (nthV vs j).2.1) := hOK
  have HW := hWr
  clear hC hOK hWr
  go_enter Tryd.func21, Tryd.ntmps21
  go_wp2_with fail
  refine (bd_40 W1.heap.size b l0 w h (by omega) bl.size).mono ?_
  rintro e w1 ⟨rfl, h1, b1⟩
  have B1 := bl.trans b1
  go_wp2_with fail
  refine (joinCell_any W1 b _ a cap vs w1 HP.out HW B1 h1 (by rw [List.length_append]; show _ + 1 ≤ _; omega) hn HO.out).mono ?_
  rintro e w2 ⟨rfl, h2, b2⟩
  have B2 := B1.trans b2
  have HB2 : Hid (Below W1.heap.size w w2) := b1.trans b2
  clear b1 b2 h1 h B1
  go_wp2_with fail
  refine (bd_41 W1.heap.size b _ w2 h2 (by have := HJ.out; omega) B2.size).mono ?_
  rintro e w3 ⟨rfl, h3, b3⟩
  have HB3 : Hid (Below W1.heap.size w w3) := HB2.out.trans b3
  clear b3 h2 B2
  go_wp2
  go_end0
  exact ⟨rfl, h3, HB3.out⟩

/-- What both sides answer of a row. -/
def rowA (vs : List V3) : Value := if rowCode vs = 0 then .tuple #[.string (tx (rowL vs)), .int .i64 0] else .tuple #[.string ⟨#[]⟩, .int .i64 (rowCode vs)]
theorem rowA_pair (vs : List V3) : ∃ (s : ByteArray) (c : Int), rowA vs = .tuple #[.string s, .int .i64 c] := by
  unfold rowA
  split
  · exact ⟨_, _, rfl⟩
  · exact ⟨_, _, rfl⟩
/-- The numbers of a row are within their bounds. -/
def RgV (vs : List V3) : Prop := ∀ i, i < vs.length → Rg (nthV vs i).2.1
theorem row_ok {vs : List V3} (h : rowCode vs = 0) (hr : RgV vs) : vs.length ≤ 8 ∧ ∀ j, j < vs.length → okV3 (nthV vs j) = true ∧ Rg (nthV vs j).2.1 := by
  have hk : okRow vs = true := by
    unfold rowCode at h
    split at h
    · omega
    · split at h
      · rename_i _ h2; exact h2
      · omega
  obtain ⟨h8, ha⟩ := okRow_all hk
  exact ⟨h8, fun j hj => ⟨ha _ (nth_mem hj), hr j hj⟩⟩

set_option maxRecDepth 100000 in
set_option maxHeartbeats 4000000 in
theorem implRowText_any (a : Option Addr) (cap : Nat) (vs : List V3) (w : World) (hrow : RowV w a vs) (hlen : vs.length ≤ 1048576) (hr : RgV vs) (hT : Tb w) :
    Calls Tryd.prog 12 #[.slice a vs.length cap] w fun e w' => e = .returned (rowA vs) ∧ Below w.heap.size w w' := by
  have hcall := rowCells_any a cap vs w hrow hlen
  have HT : Hid (∀ w', Below w.heap.size w w' → Tb w') := fun w' b => hT.below b
  have HR : Hid (RgV vs) := hr
  clear hrow hlen hr hT
  by_cases hc : rowCode vs = 0
  · have HE : Hid (rowA vs = .tuple #[.string (tx (rowL vs)), .int .i64 0]) := if_pos hc
    have HOK : Hid (vs.length ≤ 8 ∧ ∀ j, j < vs.length → okV3 (nthV vs j) = true ∧ Rg (nthV vs j).2.1) := row_ok hc HR.out
    rw [hc] at hcall
    clear hc
    generalize rowA vs = ra at *
    go_enter Tryd.func12, Tryd.ntmps12
    go_wp2_with fail
    refine hcall.mono ?_
    rintro e W1 ⟨v, rfl, ho, b1⟩
    obtain ⟨a2, c2, rfl, hcl⟩ := own_row (ho trivial)
    have HCL : Hid (RowCl W1 a2 vs) := hcl
    have HB1 : Hid (Below w.heap.size w W1) := b1
    obtain ⟨W2, hW2⟩ : ∃ W2, W1.alloc (.cells #[.pointer none, .slice none 0 0] 51) = W2 := ⟨_, rfl⟩
    have B2 : Below W1.heap.size W1 W2 := hW2 ▸ (Below.refl _ _).alloc (Nat.le_refl _) _
    have hF : Bd W1.heap.size W1.heap.size [] W2 := hW2 ▸ Lib.fresh_isBuilder 51 5 W1
    clear hcall ho hcl b1
    go_wp2_with fail
    refine (listCell_any W1 W1.heap.size [] a2 c2 vs W2 HCL.out (HT.out _ HB1.out) B2 hF (by simp) HOK.out.1 HOK.out.2).mono ?_
    rintro e W3 ⟨rfl, h3, b3⟩
    have B3 := B2.trans b3
    have hs3 := B3.size
    clear B2 b3 hW2 hF W2
    go_wp2_with fail
    refine (Tryd.Builder_String_any W1.heap.size W1.heap.size _ W3 h3 hs3).mono ?_
    rintro e W4 ⟨rfl, b4⟩
    have HF4 : Hid (Below w.heap.size w W4) := HB1.out.trans ((B3.trans b4).mono HB1.out.size)
    clear B3 hs3 b4 h3
    go_wp2
    go_ret2
    exact ⟨ret_val HE.out.symm, HF4.out⟩
  · have HE : Hid (rowA vs = .tuple #[.string ⟨#[]⟩, .int .i64 (rowCode vs)]) := if_neg hc
    have hcb : (rowCode vs == 0) = false := by rw [beq_eq_false_iff_ne]; exact hc
    generalize rowA vs = ra at *
    generalize rowCode vs = rc at *
    go_enter Tryd.func12, Tryd.ntmps12
    go_wp2_with fail
    refine hcall.mono ?_
    rintro e W1 ⟨v, rfl, _, b1⟩
    have HB1 : Hid (Below w.heap.size w W1) := b1
    clear hcall b1
    go_wp2
    go_ret2
    exact ⟨ret_val HE.out.symm, HB1.out⟩
end Go.Proofs.YtiimegahhnjjkaaDoor
