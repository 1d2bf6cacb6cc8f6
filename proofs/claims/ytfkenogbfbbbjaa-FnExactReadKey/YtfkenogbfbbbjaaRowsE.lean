/- What both CompareRows functions answer. -/
import Derived.Test.YtfkenogbfbbbjaaRowsD
namespace Go.Proofs.Ytfkenogbfbbbjaa
open Go.RowKit

theorem rowOK_any (a : Option Addr) (cap : Nat) (vs : List V3) (w : World) (hrow : RowV w a vs) (hlen : vs.length ≤ 4096) :
    Calls Try.prog 61 #[.slice a vs.length cap] w fun e w' => e = .returned (.bool (okRow vs)) ∧ Below w.heap.size w w' := by
  by_cases hok : okRow vs = true
  · have HR : Hid (okRow vs = true) := hok
    have hcode : rowCode vs = 0 := by unfold rowCode; rw [if_neg (by omega), hok]; rfl
    clear hok
    go_enter Try.func61, Try.ntmps61
    go_wp2_with fail
    refine (rowCells_any a cap vs w hrow (by omega)).mono ?_
    rintro e w1 ⟨v, rfl, _, hb⟩
    clear hrow
    go_wp2
    go_ret
    exact ⟨ret_bool' HR.out.symm, hb⟩
  · have hok' : okRow vs = false := by simpa using hok
    have HR : Hid (okRow vs = false) := hok'
    have hcode : rowCode vs = 1 := by unfold rowCode; rw [if_neg (by omega), hok']; rfl
    clear hok hok'
    go_enter Try.func61, Try.ntmps61
    go_wp2_with fail
    refine (rowCells_any a cap vs w hrow (by omega)).mono ?_
    rintro e w1 ⟨v, rfl, _, hb⟩
    clear hrow
    go_wp2
    go_ret
    exact ⟨ret_bool' HR.out.symm, hb⟩

set_option maxRecDepth 100000 in
set_option maxHeartbeats 2000000 in
theorem compareFunc_any (a1 a2 : Option Addr) (c1 c2 : Nat) (vs us : List V3) (w : World) (h1 : RowV w a1 vs) (h2 : RowV w a2 us) (hl1 : vs.length ≤ 4096) (hl2 : us.length ≤ 4096) :
    Calls Try.prog 62 #[.slice a1 vs.length c1, .slice a2 us.length c2, .func (Fn.func 50) #[] #[]] w fun e w' => e = .returned (.int .i64 (cmpRows vs us)) ∧ Below w.heap.size w w' := by
  have H1 : Hid (RowV w a1 vs) := h1
  have H2 : Hid (RowV w a2 us) := h2
  clear h1 h2
  generalize hL : vs.length = len at *
  have HL : Hid (vs.length = len) := hL
  clear hL
  generalize hM : us.length = men at *
  have HM : Hid (us.length = men) := hM
  clear hM
  go_enter Try.func62, Try.ntmps62
  go_wp2
  go_loopw [13] (fun i wr => ∃ k : Nat, k ≤ len ∧ k ≤ men ∧ i = .int .i64 k ∧ Hid (cmpRows vs us = cmpRows (vs.drop k) (us.drop k)) ∧ Below w.heap.size w wr) (fun i _ => len - (intOf i).toNat)
  case atStart => exact ⟨0, by omega, by omega, rfl, rfl, Below.refl _ _⟩
  case round =>
    obtain ⟨k, hk, hk2, rfl, HA, hbl⟩ := hrel
    by_cases hlt1 : k < len
    · obtain ⟨b1, o1, rfl, hlb1, hc1, hsz⟩ := (H1.out.below hbl) k (by rw [HL.out]; exact hlt1)
      have hltI : (k : Int) < (len : Int) := by omega
      by_cases hlt2 : k < men
      · obtain ⟨b2, o2, rfl, hlb2, hc2, _⟩ := (H2.out.below hbl) k (by rw [HM.out]; exact hlt2)
        have HH : Hid (cmp3 (nthV vs k) (nthV us k) ≠ 0 → cmp3 (nthV vs k) (nthV us k) = cmpRows vs us) := cmpRows_hit (by rw [HL.out]; exact hlt1) (by rw [HM.out]; exact hlt2) HA.out
        have HN : Hid (cmp3 (nthV vs k) (nthV us k) = 0 → cmpRows vs us = cmpRows (vs.drop (k + 1)) (us.drop (k + 1))) := cmpRows_on (by rw [HL.out]; exact hlt1) (by rw [HM.out]; exact hlt2) HA.out
        generalize nthV vs k = v at *
        generalize nthV us k = u at *
        obtain ⟨x, y, t⟩ := v
        obtain ⟨p, q, s⟩ := u
        have hltJ : (k : Int) < (men : Int) := by omega
        obtain ⟨d0, d1, d2⟩ := hc1
        obtain ⟨f0, f1, f2⟩ := hc2
        have hW : Below w.heap.size w ((wr.alloc (.cells #[.int .i64 x, .int .i64 y, .string t] 24)).alloc (.cells #[.int .i64 p, .int .i64 q, .string s] 24)) := (hbl.alloc hbl.size _).alloc (by have := hbl.size; simp; omega) _
        by_cases hz : cmpV x y t p q s = 0
        · have HZ : Hid (cmpV x y t p q s = 0) := hz
          have hb0 : (cmpV x y t p q s != 0) = false := by simp [hz]
          clear hz
          go_wp2_with fail
          refine (valueOrder_any _ _ _ _ _ _ _).mono ?_
          rintro e wA ⟨rfl, hb⟩
          have hB := hW.trans (hb.mono hW.size)
          clear d0 d1 d2 f0 f1 f2 hb hW
          go_wp2
          go_roundw
          case rel => exact ⟨k + 1, by omega, by omega, by go_num, HN.out HZ.out, hB⟩
          case measure => simp [intOf]; omega
        · have HZ : Hid (¬ cmpV x y t p q s = 0) := hz
          have hb0 : (cmpV x y t p q s != 0) = true := by simpa using hz
          clear hz
          go_wp2_with fail
          refine (valueOrder_any _ _ _ _ _ _ _).mono ?_
          rintro e wA ⟨rfl, hb⟩
          have hB := hW.trans (hb.mono hW.size)
          clear d0 d1 d2 f0 f1 f2 hb hW
          go_wp2
          go_ret
          exact ⟨ret_int' (HH.out HZ.out), hB⟩
      · have HE : Hid (cmpRows vs us = 1) := by
          have := cmpRows_end HA.out (.inr (by rw [HM.out]; omega)) (by rw [HL.out]; exact hk) (by rw [HM.out]; exact hk2)
          rw [HL.out, HM.out, if_neg (by omega), if_neg (by omega)] at this
          exact this
        obtain ⟨d0, d1, d2⟩ := hc1
        go_wp2
        go_ret
        exact ⟨ret_int' HE.out.symm, hbl.alloc hbl.size _⟩
    · have e : k = len := by omega
      subst e
      have hE := cmpRows_end HA.out (.inl HL.out.symm) (by rw [HL.out]; exact hk) (by rw [HM.out]; exact hk2)
      rw [HL.out, HM.out] at hE
      by_cases e1 : k < men
      · have HE : Hid (cmpRows vs us = -1) := by show _ = _; rw [hE, if_pos e1]
        clear hE
        go_wp2
        go_ret
        exact ⟨ret_int' HE.out.symm, hbl⟩
      · have HE : Hid (cmpRows vs us = 0) := by show _ = _; rw [hE, if_neg e1, if_pos (by omega)]
        clear hE
        go_wp2
        go_ret
        exact ⟨ret_int' HE.out.symm, hbl⟩

/-- What CompareRows answers: the order, and the code. -/
def crC (vs us : List V3) : Int := if 4096 < vs.length ∨ 4096 < us.length then 2 else if okB (okRow vs) (okRow us) then 0 else 1
def crR (vs us : List V3) : Int := if crC vs us = 0 then cmpRows vs us else 0
theorem cr_long {vs us : List V3} (h : 4096 < vs.length ∨ 4096 < us.length) : 0 = crR vs us ∧ 2 = crC vs us := by
  have : crC vs us = 2 := by unfold crC; rw [if_pos h]
  exact ⟨by unfold crR; rw [this]; simp, this.symm⟩
theorem cr_bad {vs us : List V3} (h : ¬ (4096 < vs.length ∨ 4096 < us.length)) (h2 : okB (okRow vs) (okRow us) = false) : 0 = crR vs us ∧ 1 = crC vs us := by
  have : crC vs us = 1 := by unfold crC; rw [if_neg h, h2]; simp
  exact ⟨by unfold crR; rw [this]; simp, this.symm⟩
theorem cr_ok {vs us : List V3} (h : ¬ (4096 < vs.length ∨ 4096 < us.length)) (h2 : okB (okRow vs) (okRow us) = true) : cmpRows vs us = crR vs us ∧ 0 = crC vs us := by
  have : crC vs us = 0 := by unfold crC; rw [if_neg h, h2]; simp
  exact ⟨by unfold crR; rw [this]; simp, this.symm⟩

set_option maxRecDepth 100000 in
set_option maxHeartbeats 2000000 in
theorem specCompareRows_any (a1 a2 : Option Addr) (c1 c2 : Nat) (vs us : List V3) (w : World) (h1 : RowV w a1 vs) (h2 : RowV w a2 us) (hl1 : vs.length ≤ 1048576) (hl2 : us.length ≤ 1048576) :
    Calls Try.prog 31 #[.slice a1 vs.length c1, .slice a2 us.length c2] w fun e w' => e = .returned (.tuple #[.int .i64 (crR vs us), .int .i64 (crC vs us)]) ∧ Below w.heap.size w w' := by
  have H1 : Hid (RowV w a1 vs) := h1
  have H2 : Hid (RowV w a2 us) := h2
  clear h1 h2
  by_cases hlong : 4096 < vs.length ∨ 4096 < us.length
  · have HC : Hid (0 = crR vs us ∧ 2 = crC vs us) := cr_long hlong
    by_cases e1 : 4096 < vs.length
    · clear hlong
      go_enter Try.func31, Try.ntmps31
      go_wp2
      go_ret2
      exact ⟨ret_two HC.out.1 HC.out.2, Below.refl _ _⟩
    · have e2 : 4096 < us.length := by omega
      clear hlong
      go_enter Try.func31, Try.ntmps31
      go_wp2
      go_ret2
      exact ⟨ret_two HC.out.1 HC.out.2, Below.refl _ _⟩
  · have g1 : vs.length ≤ 4096 := by omega
    have g2 : us.length ≤ 4096 := by omega
    by_cases ok1 : okRow vs = true
    · by_cases ok2 : okRow us = true
      · have HC : Hid (cmpRows vs us = crR vs us ∧ 0 = crC vs us) := cr_ok hlong (by rw [ok1, ok2]; rfl)
        clear hlong hl1 hl2
        go_enter Try.func31, Try.ntmps31
        go_wp2_with fail
        refine (l01Row_any a1 c1 vs w H1.out (by omega)).mono ?_
        rintro e w1 ⟨rfl, hb1⟩
        go_wp2_with fail
        refine (l01Row_any a2 c2 us w1 (H2.out.below hb1) (by omega)).mono ?_
        rintro e w2 ⟨rfl, hb2⟩
        have hB2 := below_step hb1 (Nat.le_refl _) hb2
        clear hb1 hb2
        go_wp2_with fail
        refine (l01Rows_any a1 a2 c1 c2 vs us w2 (H1.out.below hB2) (H2.out.below hB2) g1 g2).mono ?_
        rintro e w3 ⟨rfl, hb3⟩
        have hB3 := below_step hB2 (Nat.le_refl _) hb3
        clear hB2 hb3
        go_wp2
        go_ret2
        exact ⟨ret_two HC.out.1 HC.out.2, hB3⟩
      · have ok2' : okRow us = false := by simpa using ok2
        have HC : Hid (0 = crR vs us ∧ 1 = crC vs us) := cr_bad hlong (by rw [ok1, ok2']; rfl)
        clear hlong hl1 hl2 ok2
        go_enter Try.func31, Try.ntmps31
        go_wp2_with fail
        refine (l01Row_any a1 c1 vs w H1.out (by omega)).mono ?_
        rintro e w1 ⟨rfl, hb1⟩
        go_wp2_with fail
        refine (l01Row_any a2 c2 us w1 (H2.out.below hb1) (by omega)).mono ?_
        rintro e w2 ⟨rfl, hb2⟩
        have hB2 := below_step hb1 (Nat.le_refl _) hb2
        clear hb1 hb2
        go_wp2
        go_ret2
        exact ⟨ret_two HC.out.1 HC.out.2, hB2⟩
    · have ok1' : okRow vs = false := by simpa using ok1
      have HC : Hid (0 = crR vs us ∧ 1 = crC vs us) := cr_bad hlong (by rw [ok1']; rfl)
      clear hlong hl1 hl2 ok1
      go_enter Try.func31, Try.ntmps31
      go_wp2_with fail
      refine (l01Row_any a1 c1 vs w H1.out (by omega)).mono ?_
      rintro e w1 ⟨rfl, hb1⟩
      go_wp2
      go_ret2
      exact ⟨ret_two HC.out.1 HC.out.2, hb1⟩

set_option maxRecDepth 100000 in
set_option maxHeartbeats 2000000 in
theorem implCompareRows_any (a1 a2 : Option Addr) (c1 c2 : Nat) (vs us : List V3) (w : World) (h1 : RowV w a1 vs) (h2 : RowV w a2 us) (hl1 : vs.length ≤ 1048576) (hl2 : us.length ≤ 1048576) :
    Calls Try.prog 22 #[.slice a1 vs.length c1, .slice a2 us.length c2] w fun e w' => e = .returned (.tuple #[.int .i64 (crR vs us), .int .i64 (crC vs us)]) ∧ Below w.heap.size w w' := by
  have H1 : Hid (RowV w a1 vs) := h1
  have H2 : Hid (RowV w a2 us) := h2
  clear h1 h2
  by_cases hlong : 4096 < vs.length ∨ 4096 < us.length
  · have HC : Hid (0 = crR vs us ∧ 2 = crC vs us) := cr_long hlong
    by_cases e1 : 4096 < vs.length
    · clear hlong
      go_enter Try.func22, Try.ntmps22
      go_wp2
      go_ret2
      exact ⟨ret_two HC.out.1 HC.out.2, Below.refl _ _⟩
    · have e2 : 4096 < us.length := by omega
      clear hlong
      go_enter Try.func22, Try.ntmps22
      go_wp2
      go_ret2
      exact ⟨ret_two HC.out.1 HC.out.2, Below.refl _ _⟩
  · have g1 : vs.length ≤ 4096 := by omega
    have g2 : us.length ≤ 4096 := by omega
    by_cases ok1 : okRow vs = true
    · by_cases ok2 : okRow us = true
      · have HC : Hid (cmpRows vs us = crR vs us ∧ 0 = crC vs us) := cr_ok hlong (by rw [ok1, ok2]; rfl)
        clear hlong hl1 hl2
        go_enter Try.func22, Try.ntmps22
        go_wp2_with fail
        refine (rowOK_any a1 c1 vs w H1.out g1).mono ?_
        rintro e w1 ⟨rfl, hb1⟩
        go_wp2_with fail
        refine (rowOK_any a2 c2 us w1 (H2.out.below hb1) g2).mono ?_
        rintro e w2 ⟨rfl, hb2⟩
        have hB2 := below_step hb1 (Nat.le_refl _) hb2
        clear hb1 hb2
        go_wp2_with fail
        refine (compareFunc_any a1 a2 c1 c2 vs us w2 (H1.out.below hB2) (H2.out.below hB2) g1 g2).mono ?_
        rintro e w3 ⟨rfl, hb3⟩
        have hB3 := below_step hB2 (Nat.le_refl _) hb3
        clear hB2 hb3
        go_wp2
        go_ret2
        exact ⟨ret_two HC.out.1 HC.out.2, hB3⟩
      · have ok2' : okRow us = false := by simpa using ok2
        have HC : Hid (0 = crR vs us ∧ 1 = crC vs us) := cr_bad hlong (by rw [ok1, ok2']; rfl)
        clear hlong hl1 hl2 ok2
        go_enter Try.func22, Try.ntmps22
        go_wp2_with fail
        refine (rowOK_any a1 c1 vs w H1.out g1).mono ?_
        rintro e w1 ⟨rfl, hb1⟩
        go_wp2_with fail
        refine (rowOK_any a2 c2 us w1 (H2.out.below hb1) g2).mono ?_
        rintro e w2 ⟨rfl, hb2⟩
        have hB2 := below_step hb1 (Nat.le_refl _) hb2
        clear hb1 hb2
        go_wp2
        go_ret2
        exact ⟨ret_two HC.out.1 HC.out.2, hB2⟩
    · have ok1' : okRow vs = false := by simpa using ok1
      have HC : Hid (0 = crR vs us ∧ 1 = crC vs us) := cr_bad hlong (by rw [ok1']; rfl)
      clear hlong hl1 hl2 ok1
      go_enter Try.func22, Try.ntmps22
      go_wp2_with fail
      refine (rowOK_any a1 c1 vs w H1.out g1).mono ?_
      rintro e w1 ⟨rfl, hb1⟩
      go_wp2
      go_ret2
      exact ⟨ret_two HC.out.1 HC.out.2, hb1⟩

end Go.Proofs.Ytfkenogbfbbbjaa
