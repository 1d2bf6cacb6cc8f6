/- Aggregates of turned lists: plain mathematics (towards FnAggs, stage 12). -/
import Derived.Test.YthdilgggjkekaaaAgF
namespace Go.Proofs.Ythdilgggjkekaaa
open Go.RowKit

theorem vals_rev (os : List (Option Int)) : vals os.reverse = (vals os).reverse := by unfold vals; rw [List.filterMap_reverse]
theorem vals_app (a b : List (Option Int)) : vals (a ++ b) = vals a ++ vals b := by unfold vals; rw [List.filterMap_append]
theorem vals_cut (os : List (Option Int)) (k : Nat) : (vals (os.take k)).length + (vals (os.drop k)).length = (vals os).length := by
  rw [← List.length_append, ← vals_app, List.take_append_drop]
/-- What a list gathers by a function whose order does not matter, from its first value on. -/
theorem foldF (f : Int → Int → Int) (ha : ∀ a b c, f (f a b) c = f a (f b c)) : ∀ (l : List Int) (b : Int), l.foldl (fun b x => some (match b with | none => x | some y => f y x)) (some b) = some (match bestF f l with | none => b | some y => f b y)
  | [], b => rfl
  | z :: l, b => by
    have h1 := foldF f ha l (f b z)
    have h2 : bestF f (z :: l) = some (match bestF f l with | none => z | some y => f z y) := foldF f ha l z
    rw [h2]
    show l.foldl _ (some (f b z)) = _
    rw [h1]
    cases bestF f l with
    | none => rfl
    | some y => simp only [ha]
theorem bestF_cons (f : Int → Int → Int) (ha : ∀ a b c, f (f a b) c = f a (f b c)) (x : Int) (l : List Int) : bestF f (x :: l) = some (match bestF f l with | none => x | some y => f x y) := foldF f ha l x
theorem bestF_rev (f : Int → Int → Int) (ha : ∀ a b c, f (f a b) c = f a (f b c)) (hc : ∀ a b, f a b = f b a) (l : List Int) : bestF f l.reverse = bestF f l := by
  induction l with
  | nil => rfl
  | cons x l ih =>
    rw [List.reverse_cons, bestF_snoc, bestF_cons f ha, ih]
    cases bestF f l with
    | none => rfl
    | some y => simp only [hc]
theorem minF_a (a b c : Int) : minF (minF a b) c = minF a (minF b c) := by unfold minF; repeat' split
                                                                           all_goals omega
theorem minF_c (a b : Int) : minF a b = minF b a := by unfold minF; split <;> split <;> omega
theorem maxF_a (a b c : Int) : maxF (maxF a b) c = maxF a (maxF b c) := by unfold maxF; repeat' split
                                                                           all_goals omega
theorem maxF_c (a b : Int) : maxF a b = maxF b a := by unfold maxF; split <;> split <;> omega
theorem sumF_a (a b c : Int) : sumF (sumF a b) c = sumF a (sumF b c) := by unfold sumF; omega
theorem sumF_c (a b : Int) : sumF a b = sumF b a := by unfold sumF; omega
end Go.Proofs.Ythdilgggjkekaaa
