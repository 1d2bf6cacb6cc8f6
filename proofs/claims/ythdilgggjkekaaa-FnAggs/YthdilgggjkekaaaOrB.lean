/- How both sides order two rows (stage 13). -/
import Derived.Test.YthdilgggjkekaaaOrA
namespace Go.Proofs.Ythdilgggjkekaaa.R
open Go.RowKit

def cmp3 (v u : V3) : Int := cmpV v.1 v.2.1 v.2.2 u.1 u.2.1 u.2.2
/-- The order of rows: by their first values that differ, a beginning ahead. -/
def cmpRows : List V3 → List V3 → Int
  | [], [] => 0
  | [], _ :: _ => -1
  | _ :: _, [] => 1
  | x :: xs, y :: ys => if cmp3 x y ≠ 0 then cmp3 x y else cmpRows xs ys

theorem drop_nth {vs : List V3} {k : Nat} (h : k < vs.length) : vs.drop k = nthV vs k :: vs.drop (k + 1) := by
  rw [List.drop_eq_getElem_cons h]
  unfold nthV
  rw [List.getD_eq_getElem?_getD, List.getElem?_eq_getElem h]
  rfl
theorem cmpRows_hit {vs us : List V3} {k : Nat} (h1 : k < vs.length) (h2 : k < us.length) (h : cmpRows vs us = cmpRows (vs.drop k) (us.drop k)) (hc : cmp3 (nthV vs k) (nthV us k) ≠ 0) : cmp3 (nthV vs k) (nthV us k) = cmpRows vs us := by
  rw [h, drop_nth h1, drop_nth h2, cmpRows, if_pos hc]
theorem cmpRows_on {vs us : List V3} {k : Nat} (h1 : k < vs.length) (h2 : k < us.length) (h : cmpRows vs us = cmpRows (vs.drop k) (us.drop k)) (hc : cmp3 (nthV vs k) (nthV us k) = 0) : cmpRows vs us = cmpRows (vs.drop (k + 1)) (us.drop (k + 1)) := by
  rw [h, drop_nth h1, drop_nth h2, cmpRows, if_neg (by simp [hc])]
theorem cmpRows_end {vs us : List V3} {k : Nat} (h : cmpRows vs us = cmpRows (vs.drop k) (us.drop k)) (hk : k = vs.length ∨ k = us.length) (h1 : k ≤ vs.length) (h2 : k ≤ us.length) :
    cmpRows vs us = if vs.length < us.length then -1 else if vs.length = us.length then 0 else 1 := by
  rw [h]
  rcases hk with rfl | rfl
  · rw [List.drop_length]
    by_cases e : vs.length < us.length
    · rw [if_pos e, drop_nth e]; rfl
    · rw [if_neg e, if_pos (by omega), List.drop_eq_nil_of_le (by omega)]; rfl
  · rw [List.drop_length]
    by_cases e : us.length < vs.length
    · rw [if_neg (by omega), if_neg (by omega), drop_nth e]; rfl
    · rw [if_neg (by omega), if_pos (by omega), List.drop_eq_nil_of_le (by omega)]; rfl

end Go.Proofs.Ythdilgggjkekaaa.R
