/- The order of rows on both sides. -/
import Derived.Test.YtfkenogbfbbbjaaRowsC
namespace Go.Proofs.Ytfkenogbfbbbjaa
open Go.RowKit

def cmp3 (v u : V3) : Int := cmpV v.1 v.2.1 v.2.2 u.1 u.2.1 u.2.2
/-- The order of rows: by their first values that differ, a beginning ahead. -/
def cmpRows : List V3 → List V3 → Int
  | [], [] => 0
  | [], _ :: _ => -1
  | _ :: _, [] => 1
  | x :: xs, y :: ys => if cmp3 x y ≠ 0 then cmp3 x y else cmpRows xs ys

theorem drop_nth {vs : List V3} {k : Nat} (h : k < vs.length) : vs.drop k = nthV vs k :: vs.drop (k + 1) := by
  rw [List.drop_eq_getElem_cons h]
  unfold nthV
  rw [List.getD_eq_getElem?_getD, List.getElem?_eq_getElem h]
  rfl
theorem cmpRows_hit {vs us : List V3} {k : Nat} (h1 : k < vs.length) (h2 : k < us.length) (h : cmpRows vs us = cmpRows (vs.drop k) (us.drop k)) (hc : cmp3 (nthV vs k) (nthV us k) ≠ 0) : cmp3 (nthV vs k) (nthV us k) = cmpRows vs us := by
  rw [h, drop_nth h1, drop_nth h2, cmpRows, if_pos hc]
theorem cmpRows_on {vs us : List V3} {k : Nat} (h1 : k < vs.length) (h2 : k < us.length) (h : cmpRows vs us = cmpRows (vs.drop k) (us.drop k)) (hc : cmp3 (nthV vs k) (nthV us k) = 0) : cmpRows vs us = cmpRows (vs.drop (k + 1)) (us.drop (k + 1)) := by
  rw [h, drop_nth h1, drop_nth h2, cmpRows, if_neg (by simp [hc])]
theorem cmpRows_end {vs us : List V3} {k : Nat} (h : cmpRows vs us = cmpRows (vs.drop k) (us.drop k)) (hk : k = vs.length ∨ k = us.length) (h1 : k ≤ vs.length) (h2 : k ≤ us.length) :
    cmpRows vs us = if vs.length < us.length then -1 else if vs.length = us.length then 0 else 1 := by
  rw [h]
  rcases hk with rfl | rfl
  · rw [List.drop_length]
    by_cases e : vs.length < us.length
    · rw [if_pos e, drop_nth e]; rfl
    · rw [if_neg e, if_pos (by omega), List.drop_eq_nil_of_le (by omega)]; rfl
  · rw [List.drop_length]
    by_cases e : us.length < vs.length
    · rw [if_neg (by omega), if_neg (by omega), drop_nth e]; rfl
    · rw [if_neg (by omega), if_pos (by omega), List.drop_eq_nil_of_le (by omega)]; rfl

set_option maxRecDepth 100000 in
set_option maxHeartbeats 2000000 in
theorem l01Rows_any (a1 a2 : Option Addr) (c1 c2 : Nat) (vs us : List V3) (w : World) (h1 : RowV w a1 vs) (h2 : RowV w a2 us) (hl1 : vs.length ≤ 4096) (hl2 : us.length ≤ 4096) :
    Calls Try.prog 68 #[.slice a1 vs.length c1, .slice a2 us.length c2] w fun e w' => e = .returned (.int .i64 (cmpRows vs us)) ∧ Below w.heap.size w w' := by
  have H1 : Hid (RowV w a1 vs) := h1
  have H2 : Hid (RowV w a2 us) := h2
  clear h1 h2
  generalize hL : vs.length = len at *
  have HL : Hid (vs.length = len) := hL
  clear hL
  generalize hM : us.length = men at *
  have HM : Hid (us.length = men) := hM
  clear hM
  go_enter Try.func68, Try.ntmps68
  go_wp2
  go_loopw [5] (fun i wr => ∃ k : Nat, k ≤ len ∧ k ≤ men ∧ i = .int .i64 k ∧ Hid (cmpRows vs us = cmpRows (vs.drop k) (us.drop k)) ∧ Below w.heap.size w wr) (fun i _ => len - (intOf i).toNat)
  case atStart => exact ⟨0, by omega, by omega, rfl, rfl, Below.refl _ _⟩
  case round =>
    obtain ⟨k, hk, hk2, rfl, HA, hbl⟩ := hrel
    by_cases hlt : k < len ∧ k < men
    · obtain ⟨hlt1, hlt2⟩ := hlt
      obtain ⟨b1, o1, rfl, hlb1, hc1, hsz⟩ := (H1.out.below hbl) k (by rw [HL.out]; exact hlt1)
      obtain ⟨b2, o2, rfl, hlb2, hc2, _⟩ := (H2.out.below hbl) k (by rw [HM.out]; exact hlt2)
      have HH : Hid (cmp3 (nthV vs k) (nthV us k) ≠ 0 → cmp3 (nthV vs k) (nthV us k) = cmpRows vs us) := cmpRows_hit (by rw [HL.out]; exact hlt1) (by rw [HM.out]; exact hlt2) HA.out
      have HN : Hid (cmp3 (nthV vs k) (nthV us k) = 0 → cmpRows vs us = cmpRows (vs.drop (k + 1)) (us.drop (k + 1))) := cmpRows_on (by rw [HL.out]; exact hlt1) (by rw [HM.out]; exact hlt2) HA.out
      generalize nthV vs k = v at *
      generalize nthV us k = u at *
      obtain ⟨x, y, t⟩ := v
      obtain ⟨p, q, s⟩ := u
      have hP : Pair w b1 (o1 + k * 3) (x, y, t) b2 (o2 + k * 3) (p, q, s) wr.drew := ⟨hc1, hc2, hlb1, hlb2, hbl.drew⟩
      have hltI : (k : Int) < (len : Int) := by omega
      have hltJ : (k : Int) < (men : Int) := by omega
      clear hc1 hc2
      by_cases hz : cmpV x y t p q s = 0
      · have HZ : Hid (cmpV x y t p q s = 0) := hz
        have hb0 : (cmpV x y t p q s != 0) = false := by simp [hz]
        clear hz
        go_wp2_with fail
        go_region_held3 (Pair w b1 (o1 + k * 3) (x, y, t) b2 (o2 + k * 3) (p, q, s)) (first | exact hP | exact Pair.keep (by assumption) hb) (first | (go_at_call 51; refine (l01Compare_any _ _ _ _ _ _ _).mono ?_; rintro e wA ⟨rfl, hb⟩))
        rename_i hPL
        have hB := hPL.2.2.2.2
        clear hP hPL
        go_wp2
        go_roundw
        case rel => exact ⟨k + 1, by omega, by omega, by go_num, HN.out HZ.out, hB⟩
        case measure => simp [intOf]; omega
      · have HZ : Hid (¬ cmpV x y t p q s = 0) := hz
        have hb0 : (cmpV x y t p q s != 0) = true := by simpa using hz
        clear hz
        go_wp2_with fail
        go_region_held3 (Pair w b1 (o1 + k * 3) (x, y, t) b2 (o2 + k * 3) (p, q, s)) (first | exact hP | exact Pair.keep (by assumption) hb) (first | (go_at_call 51; refine (l01Compare_any _ _ _ _ _ _ _).mono ?_; rintro e wA ⟨rfl, hb⟩))
        rename_i hPL
        have hB := hPL.2.2.2.2
        clear hP hPL
        go_wp2
        go_ret
        exact ⟨ret_int' (HH.out HZ.out), hB⟩
    · have HE : Hid (cmpRows vs us = if len < men then -1 else if len = men then 0 else 1) := by
        have := cmpRows_end HA.out (by rw [HL.out, HM.out]; omega) (by rw [HL.out]; exact hk) (by rw [HM.out]; exact hk2)
        rw [HL.out, HM.out] at this
        exact this
      rcases (show k = len ∨ (k < len ∧ k = men) by omega) with rfl | ⟨hA, rfl⟩
      · clear hlt
        by_cases e1 : k < men
        · have e2 : ((k : Int) == (men : Int)) = false := beq_eq_false_iff_ne.2 (by omega)
          go_wp2_with (go_at_call 84; refine (l01Sign_any _ _ _).mono ?_; rintro e w' ⟨rfl, rfl⟩)
          go_ret
          exact ⟨ret_int' (by rw [HE.out, if_pos e1]), hbl⟩
        · have e2 : k = men := by omega
          subst e2
          go_wp2_with (go_at_call 84; refine (l01Sign_any _ _ _).mono ?_; rintro e w' ⟨rfl, rfl⟩)
          go_ret
          exact ⟨ret_int' (by rw [HE.out, if_neg e1]; simp), hbl⟩
      · have e2 : ((len : Int) == (k : Int)) = false := beq_eq_false_iff_ne.2 (by omega)
        clear hlt
        go_wp2_with (go_at_call 84; refine (l01Sign_any _ _ _).mono ?_; rintro e w' ⟨rfl, rfl⟩)
        go_ret
        exact ⟨ret_int' (by rw [HE.out, if_neg (by omega), if_neg (by omega)]), hbl⟩
end Go.Proofs.Ytfkenogbfbbbjaa
