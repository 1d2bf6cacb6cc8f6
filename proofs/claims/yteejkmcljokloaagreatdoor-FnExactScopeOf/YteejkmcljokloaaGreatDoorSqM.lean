/- impl's SqlOK (stage 11). -/
import Derived.Test.YteejkmcljokloaaGreatDoorSqK
namespace Go.Proofs.YteejkmcljokloaaGreatDoor
open Go.RowKit

set_option maxRecDepth 100000 in
set_option maxHeartbeats 4000000 in
theorem implSqlOK_any (x : ND) (ks : Fo) (ka : Option Addr) (kc : Nat) (w : World) (hrow : RowT 0 w ka 0 ks) (hsz : ks.size ≤ 1048576) (ht : TextsN maxLen x) :
    Calls Tryz.prog 51 #[ValT x (.slice ka ks.len kc)] w fun e w' => e = .returned (.bool (sqlB x ks)) ∧ Below w.heap.size w w' := by
  have B0 : Below w.heap.size w (w.alloc (.cells #[.int .i64 x.k, .int .i64 x.n, .string x.nm, .string x.of, .int .i64 x.vk, .int .i64 x.vn, .string x.vt, .slice ka ks.len kc] 38)) := (Below.refl _ _).alloc (Nat.le_refl _) _
  have X0 : Hid (BoxN w.heap.size x (.slice ka ks.len kc) (w.alloc (.cells #[.int .i64 x.k, .int .i64 x.n, .string x.nm, .string x.of, .int .i64 x.vk, .int .i64 x.vn, .string x.vt, .slice ka ks.len kc] 38))) := BoxN.new 38
  have HR : Hid (RowT 0 w ka 0 ks ∧ ks.size ≤ 1048576) := ⟨hrow, hsz⟩
  have HT : Hid (TextsN maxLen x) := ht
  have hc := within_any x ks ka kc _ hsz (hrow.below B0)
  have HE : Hid (sqlB x ks = (bndB ks && fieldB x && (if x.k = 1 then selB ks else if x.k = 2 then decide (0 < ks.len) && allE ks false else if x.k = 3 then endB true ks else if x.k = 4 then endB false ks else false))) := rfl
  have hlen : ks.len ≤ 1048576 := by have := ks.len_le; omega
  clear hrow hsz ht
  go_enter Tryz.func51, Tryz.ntmps51
  go_wp2_with fail
  refine hc.mono ?_
  rintro e w1 ⟨rfl, b1⟩
  have B1 := B0.trans (b1.mono B0.size)
  have X1 := X0.out.below b1
  clear B0 X0 b1 hc
  cases hb : bndB ks with
  | false =>
    have HN : Hid (sqlB x ks = false) := by show _ = _; rw [HE.out, hb]; rfl
    clear hb X1
    go_wp2
    go_ret
    exact ⟨ret_bool' HN.out.symm, B1⟩
  | true =>
  have Y1 : Hid (BoxN w.heap.size x (.slice ka ks.len kc) w1) := X1
  obtain ⟨⟨y0, y1, y2, y3, y4, y5, y6, y7⟩, _⟩ := X1
  have hc := fieldsOK_any x (.slice ka ks.len kc) w1 HT.out
  have HB : Hid (bndB ks = true) := hb
  clear hb
  go_wp2_with fail
  refine hc.mono ?_
  rintro e w2 ⟨rfl, b2⟩
  have B2 := below_step B1 (Nat.le_refl _) b2
  have X2 := Y1.out.below b2
  clear b2 hc B1 Y1 y0 y1 y2 y3 y4 y5 y6 y7
  cases hf : fieldB x with
  | false =>
    have HN : Hid (sqlB x ks = false) := by show _ = _; rw [HE.out, hf, Bool.and_false]; rfl
    clear hf X2
    go_wp2
    go_ret
    exact ⟨ret_bool' HN.out.symm, B2⟩
  | true =>
    have HN : Hid (sqlB x ks = if x.k = 1 then selB ks else if x.k = 2 then decide (0 < ks.len) && allE ks false else if x.k = 3 then endB true ks else if x.k = 4 then endB false ks else false) := by
      show _ = _
      rw [HE.out, hf, HB.out, Bool.true_and, Bool.true_and]
    have XH : Hid (BoxN w.heap.size x (.slice ka ks.len kc) w2) := X2
    clear hf HE HT
    obtain ⟨⟨y0, y1, y2, y3, y4, y5, y6, y7⟩, _⟩ := X2
    obtain ⟨k, n, nm, of, vk, vn, vt⟩ := x
    simp only at y0 y1 y2 y3 y4 y5 y6 HN
    obtain ⟨len, hL⟩ : ∃ m, ks.len = m := ⟨_, rfl⟩
    have HL : Hid (ks.len = len) := hL
    rw [hL] at y7 hlen HN XH ⊢
    clear hL
    by_cases h1 : k = 1
    · subst h1
      have HQ : Hid (sqlB ⟨1, n, nm, of, vk, vn, vt⟩ ks = selB ks) := by show _ = _; rw [HN.out]; rfl
      have hc : Calls Tryz.prog 74 #[.slice ka len kc] w2 fun e w' => e = .returned (.bool (selB ks)) ∧ Below w2.heap.size w2 w' := by
        rw [← HL.out]
        exact selectOK_any ks ka kc w2 (HR.out.1.below B2) HR.out.2
      clear HN
      go_wp2_with fail
      refine hc.mono ?_
      rintro e w3 ⟨rfl, b3⟩
      have B3 := below_step B2 (Nat.le_refl _) b3
      clear hc b3 y0 y1 y2 y3 y4 y5 y6 y7
      go_wp2
      go_ret
      exact ⟨ret_bool' HQ.out.symm, B3⟩
    by_cases h2 : k = 2
    · subst h2
      have HQ : Hid (sqlB ⟨2, n, nm, of, vk, vn, vt⟩ ks = (decide (0 < len) && allE ks false)) := by show _ = _; rw [HN.out]; rfl
      have hc : Calls Tryz.prog 75 #[.slice ka len kc, .bool false] w2 fun e w' => e = .returned (.bool (allE ks false)) ∧ Below w2.heap.size w2 w' := by
        rw [← HL.out]
        exact allRight_any ks ka kc false w2 (HR.out.1.below B2) (by rw [HL.out]; unfold maxLen; omega)
      clear HN
      by_cases hz : 0 < len
      · have hzI : (0 : Int) < (len : Int) := by omega
        have HF : Hid (sqlB ⟨2, n, nm, of, vk, vn, vt⟩ ks = allE ks false) := by show _ = _; rw [HQ.out, decide_eq_true hz]; rfl
        go_wp2_with fail
        refine hc.mono ?_
        rintro e w3 ⟨rfl, b3⟩
        have B3 := below_step B2 (Nat.le_refl _) b3
        clear hc b3 y0 y1 y2 y3 y4 y5 y6 y7
        go_wp2
        go_ret
        exact ⟨ret_bool' HF.out.symm, B3⟩
      · have hzI : ¬ (0 : Int) < (len : Int) := by omega
        have HF : Hid (sqlB ⟨2, n, nm, of, vk, vn, vt⟩ ks = false) := by show _ = _; rw [HQ.out, decide_eq_false hz]; rfl
        clear hc
        go_wp2
        go_ret
        exact ⟨ret_bool' HF.out.symm, B2⟩
    by_cases h3 : k = 3
    · subst h3
      have HQ : Hid (sqlB ⟨3, n, nm, of, vk, vn, vt⟩ ks = (asQ (EndP true ks) && allP ks)) := by show _ = _; rw [HN.out]; rfl
      have b3 : Below w2.heap.size w2 (w2.alloc (.cells #[.int .i64 12, .int .i64 8] 3)) := (Below.refl _ _).alloc (Nat.le_refl _) _
      have hcl : Calls Tryz.prog 76 #[.slice ka len kc, .slice (some ⟨w2.heap.size, 0, none⟩) 2 2] (w2.alloc (.cells #[.int .i64 12, .int .i64 8] 3)) (RetC (w2.alloc (.cells #[.int .i64 12, .int .i64 8] 3)) ks [12, 8]) := by
        rw [← HL.out]
        exact countParts_any ks ka kc [12, 8] (some ⟨w2.heap.size, 0, none⟩) 2 _ ((HR.out.1.below B2).below b3) (by rw [HL.out]; exact hlen) (fun j hj => by
          have hj' : j < 2 := hj
          refine ⟨w2.heap.size, 0, rfl, by simp, (slab_cell (heap_new' _ _ _ rfl)).trans ?_⟩
          rw [Nat.zero_add]
          match j, hj' with
          | 0, _ => rfl
          | 1, _ => rfl) (by decide)
      have HB3 : Hid (Below w2.heap.size w2 (w2.alloc (.cells #[.int .i64 12, .int .i64 8] 3))) := b3
      clear HN b3
      go_wp2_with fail
      refine hcl.mono ?_
      rintro e w4 ⟨g, c, i, rfl, hg, hC, hi, hJ, b4⟩
      have b24 : Below w2.heap.size w2 w4 := HB3.out.trans (b4.mono HB3.out.size)
      have HB4 : Hid (Below w.heap.size w w4) := below_step B2 (Nat.le_refl _) b24
      obtain ⟨⟨_, _, _, _, _, _, _, v7⟩, _⟩ := XH.out.below b24
      have hrn : rn [12, 8] (kindsF ks) = if i = len then some [c 0, c 1] else none := by
        have := hJ.last (by rw [kindsF_len]; exact hi)
        rwa [kindsF_len, HL.out] at this
      rw [HL.out] at hi
      have m0 : w4.cell? ⟨g, 0, none⟩ = some (.int .i64 (c 0 : Nat)) := hC.cell (j := 0) (by decide)
      have m1 : w4.cell? ⟨g, 1, none⟩ = some (.int .i64 (c 1 : Nat)) := hC.cell (j := 1) (by decide)
      have HP : Hid ((i = len ∧ 0 < c 0 ∧ c 1 ≤ 1) ↔ EndP true ks) := by
        show _ ↔ _
        rw [endP_upd]
        constructor
        · intro h
          exact ⟨c 0, c 1, hrn.trans (if_pos h.1), h.2⟩
        · intro h
          obtain ⟨a, b, h1, h2, h3⟩ := h
          by_cases e : i = len
          · rw [hrn, if_pos e] at h1
            have := Option.some.inj h1
            simp at this
            exact ⟨e, by omega, by omega⟩
          · rw [hrn, if_neg e] at h1
            cases h1
      have hall : i = len → Calls Tryz.prog 77 #[.slice ka len kc] w4 fun e w' => e = .returned (.bool (allP ks)) ∧ Below w4.heap.size w4 w' := fun e => by
        rw [← HL.out]
        refine allParts_any ks (fun j hj => ?_) ka kc w4 (HR.out.1.below HB4.out) HR.out.2
        have := rn_kinds (hrn.trans (if_pos e)) j hj
        simp at this
        omega
      rw [HL.out, show ([12, 8] : List Int).length = 2 from rfl]
      clear hC hJ b4 hcl b24 y0 y1 y2 y3 y4 y5 y6 y7 hrn hg HB3
      generalize c 0 = z0 at *
      generalize c 1 = z1 at *
      by_cases hil : i = len
      · subst hil
        have hcall := hall rfl
        clear hall
        by_cases hcd : 0 < z0 ∧ z1 ≤ 1
        · have HF : Hid (sqlB ⟨3, n, nm, of, vk, vn, vt⟩ ks = allP ks) := by show _ = _; rw [HQ.out, asQ_true (HP.out.1 ⟨rfl, hcd⟩)]; rfl
          have i0 : (0 : Int) < (z0 : Int) := by omega
          have i1 : (z1 : Int) ≤ 1 := by omega
          go_wp2_with fail
          refine hcall.mono ?_
          rintro e w5 ⟨rfl, b5⟩
          have B5 : Below w.heap.size w w5 := below_step HB4.out (Nat.le_refl _) b5
          clear b5 hcall v7
          go_wp2
          go_ret
          exact ⟨ret_bool' HF.out.symm, B5⟩
        · have HF : Hid (sqlB ⟨3, n, nm, of, vk, vn, vt⟩ ks = false) := by show _ = _; rw [HQ.out, asQ_false fun h => hcd (HP.out.2 h).2]; rfl
          clear hcall
          by_cases hz : 0 < z0
          · have i0 : (0 : Int) < (z0 : Int) := by omega
            have i1 : ¬ (z1 : Int) ≤ 1 := by omega
            go_wp2
            go_ret
            exact ⟨ret_bool' HF.out.symm, HB4.out⟩
          · have i0 : ¬ (0 : Int) < (z0 : Int) := by omega
            go_wp2
            go_ret
            exact ⟨ret_bool' HF.out.symm, HB4.out⟩
      · have hil' : ¬ ((i : Int) = (len : Int)) := by omega
        have HF : Hid (sqlB ⟨3, n, nm, of, vk, vn, vt⟩ ks = false) := by show _ = _; rw [HQ.out, asQ_false fun h => hil (HP.out.2 h).1]; rfl
        clear hall
        go_wp2
        go_ret
        exact ⟨ret_bool' HF.out.symm, HB4.out⟩
    by_cases h4 : k = 4
    · subst h4
      have HQ : Hid (sqlB ⟨4, n, nm, of, vk, vn, vt⟩ ks = (asQ (EndP false ks) && allP ks)) := by show _ = _; rw [HN.out]; rfl
      have b3 : Below w2.heap.size w2 (w2.alloc (.cells #[.int .i64 8] 3)) := (Below.refl _ _).alloc (Nat.le_refl _) _
      have hcl : Calls Tryz.prog 76 #[.slice ka len kc, .slice (some ⟨w2.heap.size, 0, none⟩) 1 1] (w2.alloc (.cells #[.int .i64 8] 3)) (RetC (w2.alloc (.cells #[.int .i64 8] 3)) ks [8]) := by
        rw [← HL.out]
        exact countParts_any ks ka kc [8] (some ⟨w2.heap.size, 0, none⟩) 1 _ ((HR.out.1.below B2).below b3) (by rw [HL.out]; exact hlen) (fun j hj => by
          have hj' : j < 1 := hj
          refine ⟨w2.heap.size, 0, rfl, by simp, (slab_cell (heap_new' _ _ _ rfl)).trans ?_⟩
          rw [Nat.zero_add]
          match j, hj' with
          | 0, _ => rfl) (by decide)
      have HB3 : Hid (Below w2.heap.size w2 (w2.alloc (.cells #[.int .i64 8] 3))) := b3
      clear HN b3
      go_wp2_with fail
      refine hcl.mono ?_
      rintro e w4 ⟨g, c, i, rfl, hg, hC, hi, hJ, b4⟩
      have b24 : Below w2.heap.size w2 w4 := HB3.out.trans (b4.mono HB3.out.size)
      have HB4 : Hid (Below w.heap.size w w4) := below_step B2 (Nat.le_refl _) b24
      obtain ⟨⟨_, _, _, _, _, _, _, v7⟩, _⟩ := XH.out.below b24
      have hrn : rn [8] (kindsF ks) = if i = len then some [c 0] else none := by
        have := hJ.last (by rw [kindsF_len]; exact hi)
        rwa [kindsF_len, HL.out] at this
      rw [HL.out] at hi
      have m0 : w4.cell? ⟨g, 0, none⟩ = some (.int .i64 (c 0 : Nat)) := hC.cell (j := 0) (by decide)
      have HP : Hid ((i = len ∧ c 0 ≤ 1) ↔ EndP false ks) := by
        show _ ↔ _
        rw [endP_del]
        constructor
        · intro h
          exact ⟨c 0, hrn.trans (if_pos h.1), h.2⟩
        · intro h
          obtain ⟨a, h1, h2⟩ := h
          by_cases e : i = len
          · rw [hrn, if_pos e] at h1
            have := Option.some.inj h1
            simp at this
            exact ⟨e, by omega⟩
          · rw [hrn, if_neg e] at h1
            cases h1
      have hall : i = len → Calls Tryz.prog 77 #[.slice ka len kc] w4 fun e w' => e = .returned (.bool (allP ks)) ∧ Below w4.heap.size w4 w' := fun e => by
        rw [← HL.out]
        refine allParts_any ks (fun j hj => ?_) ka kc w4 (HR.out.1.below HB4.out) HR.out.2
        have := rn_kinds (hrn.trans (if_pos e)) j hj
        simp at this
        omega
      rw [HL.out, show ([8] : List Int).length = 1 from rfl]
      clear hC hJ b4 hcl b24 y0 y1 y2 y3 y4 y5 y6 y7 hrn hg HB3
      generalize c 0 = z0 at *
      by_cases hil : i = len
      · subst hil
        have hcall := hall rfl
        clear hall
        by_cases hcd : z0 ≤ 1
        · have HF : Hid (sqlB ⟨4, n, nm, of, vk, vn, vt⟩ ks = allP ks) := by show _ = _; rw [HQ.out, asQ_true (HP.out.1 ⟨rfl, hcd⟩)]; rfl
          have i0 : (z0 : Int) ≤ 1 := by omega
          go_wp2_with fail
          refine hcall.mono ?_
          rintro e w5 ⟨rfl, b5⟩
          have B5 : Below w.heap.size w w5 := below_step HB4.out (Nat.le_refl _) b5
          clear b5 hcall v7
          go_wp2
          go_ret
          exact ⟨ret_bool' HF.out.symm, B5⟩
        · have HF : Hid (sqlB ⟨4, n, nm, of, vk, vn, vt⟩ ks = false) := by show _ = _; rw [HQ.out, asQ_false fun h => hcd (HP.out.2 h).2]; rfl
          clear hcall
          have i0 : ¬ (z0 : Int) ≤ 1 := by omega
          go_wp2
          go_ret
          exact ⟨ret_bool' HF.out.symm, HB4.out⟩
      · have hil' : ¬ ((i : Int) = (len : Int)) := by omega
        have HF : Hid (sqlB ⟨4, n, nm, of, vk, vn, vt⟩ ks = false) := by show _ = _; rw [HQ.out, asQ_false fun h => hil (HP.out.2 h).1]; rfl
        clear hall
        go_wp2
        go_ret
        exact ⟨ret_bool' HF.out.symm, HB4.out⟩
    have HF : Hid (sqlB ⟨k, n, nm, of, vk, vn, vt⟩ ks = false) := by show _ = _; rw [HN.out, if_neg h1, if_neg h2, if_neg h3, if_neg h4]
    clear HN
    go_wp2
    go_ret
    exact ⟨ret_bool' HF.out.symm, B2⟩
end Go.Proofs.YteejkmcljokloaaGreatDoor
