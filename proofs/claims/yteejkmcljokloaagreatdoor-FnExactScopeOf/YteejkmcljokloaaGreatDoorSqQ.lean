/- The specification's SqlOK (stage 11). -/
import Derived.Test.YteejkmcljokloaaGreatDoorSqN
import Derived.Test.YteejkmcljokloaaGreatDoorSqP
import Derived.Test.YteejkmcljokloaaGreatDoorSqM
namespace Go.Proofs.YteejkmcljokloaaGreatDoor
open Go.RowKit

theorem leftOK_bnd (ks : Fo) : LeftOK ks 120 1 ↔ bndB ks = true := by
  unfold LeftOK bndB
  simp
  omega
theorem sqlB_bad {k n : Int} {nm of : ByteArray} {vk vn : Int} {vt : ByteArray} {ks : Fo} (h : ¬ (n = 0 ∧ of.toList = [] ∧ vk = 0 ∧ vn = 0 ∧ vt.toList = [])) : sqlB ⟨k, n, nm, of, vk, vn, vt⟩ ks = false := by
  have hf : k = 1 ∨ k = 2 ∨ k = 3 ∨ k = 4 → fieldB ⟨k, n, nm, of, vk, vn, vt⟩ = false := by
    intro hk
    cases e : fieldB ⟨k, n, nm, of, vk, vn, vt⟩ with
    | false => rfl
    | true =>
      rcases hk with rfl | rfl | rfl | rfl <;> exact absurd (by simp [fieldB, noV, emp] at e; simp_all) h
  unfold sqlB
  by_cases h1 : k = 1 ∨ k = 2 ∨ k = 3 ∨ k = 4
  · rw [hf h1, Bool.and_false, Bool.false_and]
  · have : ¬ k = 1 ∧ ¬ k = 2 ∧ ¬ k = 3 ∧ ¬ k = 4 := ⟨fun e => h1 (.inl e), fun e => h1 (.inr (.inl e)), fun e => h1 (.inr (.inr (.inl e))), fun e => h1 (.inr (.inr (.inr e)))⟩
    simp [this.1, this.2.1, this.2.2.1, this.2.2.2]

set_option maxRecDepth 100000 in
set_option maxHeartbeats 4000000 in
theorem specSqlOK_any (x : ND) (ks : Fo) (ka : Option Addr) (kc : Nat) (w : World) (hrow : RowT 0 w ka 0 ks) (hsz : ks.size ≤ 1048576) (ht : TextsN maxLen x) :
    Calls Tryz.prog 21 #[ValT x (.slice ka ks.len kc)] w fun e w' => e = .returned (.bool (sqlB x ks)) ∧ Below w.heap.size w w' := by
  have B0 : Below w.heap.size w (w.alloc (.cells #[.int .i64 x.k, .int .i64 x.n, .string x.nm, .string x.of, .int .i64 x.vk, .int .i64 x.vn, .string x.vt, .slice ka ks.len kc] 38)) := (Below.refl _ _).alloc (Nat.le_refl _) _
  have X0 : Hid (BoxN w.heap.size x (.slice ka ks.len kc) (w.alloc (.cells #[.int .i64 x.k, .int .i64 x.n, .string x.nm, .string x.of, .int .i64 x.vk, .int .i64 x.vn, .string x.vt, .slice ka ks.len kc] 38))) := BoxN.new 38
  have HR : Hid (RowT 0 w ka 0 ks ∧ ks.size ≤ 1048576) := ⟨hrow, hsz⟩
  have HT : Hid (TextsN maxLen x) := ht
  have hc := l10Left_all _ x ks ka kc 120 1 _ (Nat.le_refl _) hsz (by omega) (by omega) (by omega) (by omega) (hrow.below B0)
  have HE : Hid (sqlB x ks = (bndB ks && fieldB x && (if x.k = 1 then selB ks else if x.k = 2 then decide (0 < ks.len) && allE ks false else if x.k = 3 then endB true ks else if x.k = 4 then endB false ks else false))) := rfl
  have hlen : ks.len ≤ 1048576 := by have := ks.len_le; omega
  clear hrow hsz ht
  go_enter Tryz.func21, Tryz.ntmps21
  go_wp2_with fail
  refine hc.mono ?_
  rintro e w1 ⟨r, rfl, r0, r1, r2, b1⟩
  have B1 := B0.trans (b1.mono B0.size)
  have X1 := X0.out.below b1
  clear B0 X0 b1 hc
  by_cases hb : bndB ks = true
  case neg =>
    have HN : Hid (sqlB x ks = false) := by show _ = _; rw [HE.out, Bool.eq_false_iff.2 hb]; rfl
    have hr : r < 0 := r2 fun h => hb ((leftOK_bnd ks).1 h)
    clear hb X1 r1 r2
    go_wp2
    go_ret
    exact ⟨ret_bool' HN.out.symm, B1⟩
  case pos =>
    have hr : ¬ r < 0 := by
      have h := (leftOK_bnd ks).2 hb
      have := r1 h
      unfold LeftOK at h
      omega
    have HG : Hid (bndB ks = true) := hb
    have XH : Hid (BoxN w.heap.size x (.slice ka ks.len kc) w1) := X1
    have HB1 : Hid (Below w.heap.size w w1) := B1
    clear hb r1 r2 B1
    obtain ⟨⟨y0, y1, y2, y3, y4, y5, y6, y7⟩, _⟩ := X1
    obtain ⟨k, n, nm, of, vk, vn, vt⟩ := x
    simp only at y0 y1 y2 y3 y4 y5 y6 HE HT
    obtain ⟨len, hL⟩ : ∃ m, ks.len = m := ⟨_, rfl⟩
    have HL : Hid (ks.len = len) := hL
    rw [hL] at y7 hlen HE XH ⊢
    clear hL
    by_cases hbad : n = 0 ∧ of.toList = [] ∧ vk = 0 ∧ vn = 0 ∧ vt.toList = []
    case neg =>
      have HF : Hid (sqlB ⟨k, n, nm, of, vk, vn, vt⟩ ks = false) := sqlB_bad hbad
      clear HE XH
      by_cases e1 : n = 0
      · subst e1
        by_cases e2 : of.toList = []
        · by_cases e3 : vk = 0
          · subst e3
            by_cases e4 : vn = 0
            · subst e4
              have e5 : ¬ vt.toList = [] := fun e => hbad ⟨rfl, e2, rfl, rfl, e⟩
              clear hbad
              go_wp2
              go_ret
              exact ⟨ret_bool' HF.out.symm, HB1.out⟩
            · clear hbad
              go_wp2
              go_ret
              exact ⟨ret_bool' HF.out.symm, HB1.out⟩
          · clear hbad
            go_wp2
            go_ret
            exact ⟨ret_bool' HF.out.symm, HB1.out⟩
        · clear hbad
          go_wp2
          go_ret
          exact ⟨ret_bool' HF.out.symm, HB1.out⟩
      · clear hbad
        go_wp2
        go_ret
        exact ⟨ret_bool' HF.out.symm, HB1.out⟩
    case pos =>
    obtain ⟨rfl, ho, rfl, rfl, hv⟩ := hbad
    have HF1 : Hid (∀ b : Bool, (true && b) = b) := fun b => Bool.true_and b
    by_cases h1 : k = 1
    · subst h1
      have HQ : Hid (sqlB ⟨1, 0, nm, of, 0, 0, vt⟩ ks = (emp nm && selB ks)) := by show _ = _; rw [HE.out, HG.out, HF1.out]; simp [fieldB, noV, emp, ho, hv]
      by_cases hn : nm.toList = []
      · have HF : Hid (sqlB ⟨1, 0, nm, of, 0, 0, vt⟩ ks = selB ks) := by show _ = _; rw [HQ.out]; simp [emp, hn]
        have hc : Calls Tryz.prog 41 #[ValT ⟨1, 0, nm, of, 0, 0, vt⟩ (.slice ka len kc)] w1 fun e w' => e = .returned (.bool (selB ks)) ∧ Below w1.heap.size w1 w' := by
          rw [← HL.out]
          exact l10Shape_any _ ks ka kc w1 (HR.out.1.below HB1.out) HR.out.2
        clear HE HQ XH
        go_wp2_with fail
        refine hc.mono ?_
        rintro e w3 ⟨rfl, b3⟩
        have B3 := below_step HB1.out (Nat.le_refl _) b3
        clear hc b3 y0 y1 y2 y3 y4 y5 y6 y7
        go_wp2
        go_ret
        exact ⟨ret_bool' HF.out.symm, B3⟩
      · have HF : Hid (sqlB ⟨1, 0, nm, of, 0, 0, vt⟩ ks = false) := by show _ = _; rw [HQ.out]; simp [emp, hn]
        clear HE HQ XH
        go_wp2
        go_ret
        exact ⟨ret_bool' HF.out.symm, HB1.out⟩
    by_cases h3 : k = 3
    · subst h3
      have HQ : Hid (sqlB ⟨3, 0, nm, of, 0, 0, vt⟩ ks = (givenB nm && endB true ks)) := by show _ = _; rw [HE.out, HG.out, HF1.out]; simp [fieldB, noV, emp, ho, hv]
      have hn := l09Name_any nm w1 HT.out.1
      cases hg : givenB nm with
      | false =>
        have HF : Hid (sqlB ⟨3, 0, nm, of, 0, 0, vt⟩ ks = false) := by show _ = _; rw [HQ.out, hg]; rfl
        rw [hg] at hn
        clear hg
        go_wp2_with fail
        refine hn.mono ?_
        rintro e w2 ⟨rfl, b2⟩
        have B2 := below_step HB1.out (Nat.le_refl _) b2
        clear hn b2
        go_wp2
        go_ret
        exact ⟨ret_bool' HF.out.symm, B2⟩
      | true =>
        have HF : Hid (sqlB ⟨3, 0, nm, of, 0, 0, vt⟩ ks = endB true ks) := by show _ = _; rw [HQ.out, hg]; rfl
        rw [hg] at hn
        clear hg
        go_wp2_with fail
        refine hn.mono ?_
        rintro e w2 ⟨rfl, b2⟩
        have B2 := below_step HB1.out (Nat.le_refl _) b2
        obtain ⟨⟨v0, v1, v2, v3, v4, v5, v6, v7⟩, _⟩ := XH.out.below b2
        have hc : Calls Tryz.prog 44 #[ValT ⟨3, 0, nm, of, 0, 0, vt⟩ (.slice ka len kc), .bool true] w2 fun e w' => e = .returned (.bool (endB true ks)) ∧ Below w2.heap.size w2 w' := by
          rw [← HL.out]
          exact l10Ends_any _ ks true ka kc w2 (HR.out.1.below B2) HR.out.2
        clear hn b2 y0 y1 y2 y3 y4 y5 y6 y7
        go_wp2_with fail
        refine hc.mono ?_
        rintro e w3 ⟨rfl, b3⟩
        have B3 := below_step B2 (Nat.le_refl _) b3
        clear hc b3 v0 v1 v2 v3 v4 v5 v6 v7
        go_wp2
        go_ret
        exact ⟨ret_bool' HF.out.symm, B3⟩
    by_cases h4 : k = 4
    · subst h4
      have HQ : Hid (sqlB ⟨4, 0, nm, of, 0, 0, vt⟩ ks = (givenB nm && endB false ks)) := by show _ = _; rw [HE.out, HG.out, HF1.out]; simp [fieldB, noV, emp, ho, hv]
      have hn := l09Name_any nm w1 HT.out.1
      cases hg : givenB nm with
      | false =>
        have HF : Hid (sqlB ⟨4, 0, nm, of, 0, 0, vt⟩ ks = false) := by show _ = _; rw [HQ.out, hg]; rfl
        rw [hg] at hn
        clear hg
        go_wp2_with fail
        refine hn.mono ?_
        rintro e w2 ⟨rfl, b2⟩
        have B2 := below_step HB1.out (Nat.le_refl _) b2
        clear hn b2
        go_wp2
        go_ret
        exact ⟨ret_bool' HF.out.symm, B2⟩
      | true =>
        have HF : Hid (sqlB ⟨4, 0, nm, of, 0, 0, vt⟩ ks = endB false ks) := by show _ = _; rw [HQ.out, hg]; rfl
        rw [hg] at hn
        clear hg
        go_wp2_with fail
        refine hn.mono ?_
        rintro e w2 ⟨rfl, b2⟩
        have B2 := below_step HB1.out (Nat.le_refl _) b2
        obtain ⟨⟨v0, v1, v2, v3, v4, v5, v6, v7⟩, _⟩ := XH.out.below b2
        have hc : Calls Tryz.prog 44 #[ValT ⟨4, 0, nm, of, 0, 0, vt⟩ (.slice ka len kc), .bool false] w2 fun e w' => e = .returned (.bool (endB false ks)) ∧ Below w2.heap.size w2 w' := by
          rw [← HL.out]
          exact l10Ends_any _ ks false ka kc w2 (HR.out.1.below B2) HR.out.2
        clear hn b2 y0 y1 y2 y3 y4 y5 y6 y7
        go_wp2_with fail
        refine hc.mono ?_
        rintro e w3 ⟨rfl, b3⟩
        have B3 := below_step B2 (Nat.le_refl _) b3
        clear hc b3 v0 v1 v2 v3 v4 v5 v6 v7
        go_wp2
        go_ret
        exact ⟨ret_bool' HF.out.symm, B3⟩
    by_cases h2 : k = 2
    · subst h2
      have HQ : Hid (sqlB ⟨2, 0, nm, of, 0, 0, vt⟩ ks = (givenB nm && (decide (0 < len) && allE ks false))) := by show _ = _; rw [HE.out, HG.out, HF1.out]; simp [fieldB, noV, emp, ho, hv]
      have hn := l09Name_any nm w1 HT.out.1
      cases hg : givenB nm with
      | false =>
        have HF : Hid (sqlB ⟨2, 0, nm, of, 0, 0, vt⟩ ks = false) := by show _ = _; rw [HQ.out, hg]; rfl
        rw [hg] at hn
        clear hg
        go_wp2_with fail
        refine hn.mono ?_
        rintro e w2 ⟨rfl, b2⟩
        have B2 := below_step HB1.out (Nat.le_refl _) b2
        clear hn b2
        go_wp2
        go_ret
        exact ⟨ret_bool' HF.out.symm, B2⟩
      | true =>
        have HF : Hid (sqlB ⟨2, 0, nm, of, 0, 0, vt⟩ ks = (decide (0 < len) && allE ks false)) := by show _ = _; rw [HQ.out, hg]; rfl
        rw [hg] at hn
        clear hg
        go_wp2_with fail
        refine hn.mono ?_
        rintro e w2 ⟨rfl, b2⟩
        have XQ : Hid (OneB w w.heap.size ⟨2, 0, nm, of, 0, 0, vt⟩ (.slice ka len kc) w2) := ⟨XH.out.below b2, below_step HB1.out (Nat.le_refl _) b2⟩
        clear hn b2 y0 y1 y2 y3 y4 y5 y6 y7 XH HQ HE
        obtain ⟨y0, y1, y2, y3, y4, y5, y6, y7⟩ := XQ.out.facts
        simp only at y0 y1 y2 y3 y4 y5 y6 y7
        by_cases hz : 0 < len
        · have hzI : ¬ ((len : Int) = 0) := by omega
          have hzB : ((len : Int) == 0) = false := by simpa using hzI
          have HF2 : Hid (sqlB ⟨2, 0, nm, of, 0, 0, vt⟩ ks = allE ks false) := by show _ = _; rw [HF.out, decide_eq_true hz]; rfl
          clear HF
          go_wp2
          go_loopw [3] (fun i wr => ∃ k : Nat, k ≤ len ∧ i = .int .i64 k ∧ Hid (∀ j, j < k → exprB (ks.node j) (ks.kids j) false = true) ∧ Hid (OneB w w.heap.size ⟨2, 0, nm, of, 0, 0, vt⟩ (.slice ka len kc) wr)) (fun i _ => len - (intOf i).toNat)
          case atStart => exact ⟨0, by omega, rfl, fun j hj => by omega, XQ⟩
          case round =>
            clear XQ y0 y1 y2 y3 y4 y5 y6 y7
            obtain ⟨k, hk, rfl, HS, X⟩ := hrel
            obtain ⟨y0, y1, y2, y3, y4, y5, y6, y7⟩ := X.out.facts
            simp only at y0 y1 y2 y3 y4 y5 y6 y7
            by_cases hlt : k < len
            · have hkf : k < ks.len := by rw [HL.out]; exact hlt
              obtain ⟨b, off, ca, cc, rfl, hlb, ⟨c0, c1, c2, c3, c4, c5, c6, c7⟩, hkr, htx⟩ := el_cells (HR.out.1.below X.out.2) HL.out hlt
              have hc := exS_any (ks.node k) (ks.kids k) ca cc false wr hkr htx
              have HA : Hid (exprB (ks.node k) (ks.kids k) false = false → sqlB ⟨2, 0, nm, of, 0, 0, vt⟩ ks = false) := fun h => by rw [HF2.out, allE_false k hkf h]
              have HS' : Hid (exprB (ks.node k) (ks.kids k) false = true → ∀ j, j < k + 1 → exprB (ks.node j) (ks.kids j) false = true) := fun h j hj => by
                by_cases e : j = k
                · rw [e]; exact h
                · exact HS.out j (by omega)
              clear hkr htx hkf HS
              go_wp2_with fail
              refine hc.mono ?_
              rintro e w3 ⟨rfl, b3⟩
              have X3 : Hid (OneB w w.heap.size ⟨2, 0, nm, of, 0, 0, vt⟩ (.slice (some ⟨b, off, none⟩) len kc) w3) := X.out.keep b3
              clear c0 c1 c2 c3 c4 c5 c6 c7 y0 y1 y2 y3 y4 y5 y6 y7 b3 hc X
              cases hx : exprB (ks.node k) (ks.kids k) false with
              | false =>
                have HF3 : Hid (sqlB ⟨2, 0, nm, of, 0, 0, vt⟩ ks = false) := HA.out hx
                clear hx HA HS'
                go_wp2
                go_ret
                exact ⟨ret_bool' HF3.out.symm, X3.out.2⟩
              | true =>
                have HN : Hid (∀ j, j < k + 1 → exprB (ks.node j) (ks.kids j) false = true) := HS'.out hx
                clear hx HA HS'
                go_wp2
                go_roundw
                case rel => exact ⟨k + 1, by omega, by go_num, HN, X3⟩
                case measure => simp [intOf]; omega
            · obtain rfl : k = len := by omega
              have HF3 : Hid (sqlB ⟨2, 0, nm, of, 0, 0, vt⟩ ks = true) := by
                show _ = _
                rw [HF2.out]
                exact allE_true (by rw [HL.out]; exact HS.out)
              go_wp2
              go_ret
              exact ⟨ret_bool' HF3.out.symm, X.out.2⟩
        · obtain rfl : len = 0 := by omega
          have HF2 : Hid (sqlB ⟨2, 0, nm, of, 0, 0, vt⟩ ks = false) := by show _ = _; rw [HF.out, decide_eq_false hz]; rfl
          go_wp2
          go_ret
          exact ⟨ret_bool' HF2.out.symm, XQ.out.2⟩
    have HF : Hid (sqlB ⟨k, 0, nm, of, 0, 0, vt⟩ ks = false) := by show _ = _; rw [HE.out, if_neg h1, if_neg h2, if_neg h3, if_neg h4, Bool.and_false]
    clear HE XH
    go_wp2
    go_ret
    exact ⟨ret_bool' HF.out.symm, HB1.out⟩
end Go.Proofs.YteejkmcljokloaaGreatDoor
