/- Kinds that stand in an order, and how many there are of each (stage 11). -/
import Derived.Test.YteejkmcljokloaaGreatDoorTrA
namespace Go.Proofs.YteejkmcljokloaaGreatDoor
open Go.RowKit

def inc : List Nat → List Nat
  | [] => []
  | n :: cs => (n + 1) :: cs
def rn1 (o : Int) (k : List Int → Option (List Nat)) : List Int → Option (List Nat)
  | [] => (k []).map (0 :: ·)
  | x :: L => if x = o then (rn1 o k L).map inc else (k (x :: L)).map (0 :: ·)
/-- How many there are of each kind, if they stand in this order and no others do. -/
def rn : List Int → List Int → Option (List Nat)
  | [], [] => some []
  | [], _ :: _ => none
  | o :: os, L => rn1 o (rn os) L
def add0 (n : Nat) : List Nat → List Nat
  | [] => []
  | m :: cs => (n + m) :: cs
theorem add0_zero : ∀ cs : List Nat, add0 0 cs = cs
  | [] => rfl
  | m :: cs => by simp [add0]
def ct (c : Nat → Nat) (p : Nat) (cs : List Nat) : List Nat := (List.range p).map c ++ add0 (c p) cs
def upd (c : Nat → Nat) (p : Nat) : Nat → Nat := fun j => if j = p then c p + 1 else c j
/-- The first i were counted, by the first kinds up to the p-th. -/
structure JP (O L : List Int) (c : Nat → Nat) (p i : Nat) : Prop where
  eq : rn O L = (rn (O.drop p) (L.drop i)).map (ct c p)
  zero : ∀ j, p < j → c j = 0
  le : ∀ j, c j ≤ i
theorem JP.start (O L : List Int) : JP O L (fun _ => 0) 0 0 := by
  refine ⟨?_, fun _ _ => rfl, fun _ => Nat.le_refl _⟩
  have : ct (fun _ => 0) 0 = id := by
    funext cs
    simp [ct, add0_zero]
  rw [List.drop_zero, List.drop_zero, this, Option.map_id]
  rfl
theorem ct_inc (c : Nat → Nat) (p : Nat) (cs : List Nat) : ct c p (inc cs) = ct (upd c p) p cs := by
  have h1 : (List.range p).map (upd c p) = (List.range p).map c := List.map_congr_left fun j hj => by
    have : j < p := by simpa using hj
    unfold upd
    rw [if_neg (by omega)]
  have h2 : upd c p p = c p + 1 := by simp [upd]
  unfold ct
  rw [h1, h2]
  cases cs with
  | nil => rfl
  | cons n cs => simp only [inc, add0]; rw [show c p + (n + 1) = c p + 1 + n by omega]
theorem JP.hit {O L : List Int} {c : Nat → Nat} {p i : Nat} (h : JP O L c p i) (hp : p < O.length) (hi : i < L.length) (he : L[i] = O[p]) : JP O L (upd c p) p (i + 1) := by
  refine ⟨?_, fun j hj => ?_, fun j => ?_⟩
  · rw [h.eq, List.drop_eq_getElem_cons hp, List.drop_eq_getElem_cons hi, he]
    show (rn1 _ _ _).map _ = (rn1 _ _ _).map _
    rw [rn1, if_pos rfl, Option.map_map]
    congr 1
    funext cs
    exact ct_inc c p cs
  · unfold upd
    rw [if_neg (by omega)]
    exact h.zero j hj
  · unfold upd
    split
    · have := h.le p; omega
    · have := h.le j; omega
theorem ct_zero {c : Nat → Nat} {p : Nat} (h : c (p + 1) = 0) (cs : List Nat) : ct c p (0 :: cs) = ct c (p + 1) cs := by
  unfold ct
  rw [h, add0_zero, List.range_succ, List.map_append, List.append_assoc]
  rfl
theorem JP.move {O L : List Int} {c : Nat → Nat} {p i : Nat} (h : JP O L c p i) (hp : p < O.length) (hn : ∀ hi : i < L.length, L[i] ≠ O[p]) : JP O L c (p + 1) i := by
  refine ⟨?_, fun j hj => h.zero j (by omega), h.le⟩
  rw [h.eq, List.drop_eq_getElem_cons hp]
  have : rn1 O[p] (rn (O.drop (p + 1))) (L.drop i) = (rn (O.drop (p + 1)) (L.drop i)).map (0 :: ·) := by
    by_cases hi : i < L.length
    · rw [List.drop_eq_getElem_cons hi, rn1, if_neg (hn hi)]
    · have e : L.drop i = [] := List.drop_eq_nil_of_le (by omega)
      rw [e, rn1]
  show (rn1 _ _ _).map _ = _
  rw [this, Option.map_map]
  congr 1
  funext cs
  exact ct_zero (h.zero _ (by omega)) cs
theorem JP.skip {O L : List Int} {c : Nat → Nat} {i : Nat} (hi : L.length ≤ i) : ∀ (d p : Nat), JP O L c p i → p + d = O.length → JP O L c O.length i
  | 0, p, h, e => by rw [← e]; exact h
  | d + 1, p, h, e => JP.skip hi d (p + 1) (h.move (by omega) fun hl => absurd hl (by omega)) (by omega)
theorem JP.last {O L : List Int} {c : Nat → Nat} {i : Nat} (h : JP O L c O.length i) (hi : i ≤ L.length) : rn O L = if i = L.length then some ((List.range O.length).map c) else none := by
  rw [h.eq, List.drop_length]
  by_cases e : i = L.length
  · rw [if_pos e, e, List.drop_length]
    show some _ = _
    simp [ct, add0]
  · rw [if_neg e, List.drop_eq_getElem_cons (by omega)]
    rfl

/-- The kinds of a list of trees. -/
def kindsF : Fo → List Int
  | .nil => []
  | .cons x _ r => x.k :: kindsF r
theorem kindsF_len : ∀ f : Fo, (kindsF f).length = f.len
  | .nil => rfl
  | .cons _ _ r => by simp [kindsF, Fo.len, kindsF_len r]
theorem kindsF_get : ∀ (f : Fo) (i : Nat) (h : i < (kindsF f).length), (kindsF f)[i] = (f.node i).k
  | .nil, _, h => by simp [kindsF] at h
  | .cons _ _ _, 0, _ => rfl
  | .cons _ _ r, i + 1, h => by
    have := kindsF_get r i (by simpa [kindsF] using h)
    simpa [kindsF, Fo.node] using this

/-- One kind alone. -/
theorem rn_one (o : Int) : ∀ L : List Int, rn [o] L = if L.all (· == o) then some [L.length] else none
  | [] => rfl
  | x :: L => by
    have ih := rn_one o L
    show rn1 o (rn []) (x :: L) = _
    have ih' : rn1 o (rn []) L = _ := ih
    rw [rn1, ih']
    by_cases h : x = o
    · subst h
      rw [if_pos rfl]
      by_cases ha : L.all (· == x) = true
      · rw [if_pos ha, if_pos (by simpa using ha)]
        rfl
      · rw [if_neg ha, if_neg (by simpa using ha)]
        rfl
    · rw [if_neg h, if_neg (by simp [h])]
      rfl
end Go.Proofs.YteejkmcljokloaaGreatDoor
