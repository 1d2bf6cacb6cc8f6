/- The order of rows is one order; impl's rowOrder (stage 13). -/
import Derived.Test.YtmcjgncpblbhpaaOrB
import Derived.Test.YtmcjgncpblbhpaaSoI
namespace Go.Proofs.Ytmcjgncpblbhpaa
open Go.RowKit

theorem toList_one {a b : ByteArray} (h : a.toList = b.toList) : a = b := by
  rw [ByteArray.toList_eq, ByteArray.toList_eq] at h
  exact ByteArray.ext (Array.toList_inj.1 h)
theorem cmp3_neg (x y : V3) : cmp3 x y = -cmp3 y x := by unfold cmp3; exact cmpV_neg ..
theorem cmp3_zero (x y : V3) : cmp3 x y = 0 ↔ x = y := by
  unfold cmp3
  rw [cmpV_zero]
  constructor
  · rintro ⟨h1, h2, h3⟩
    obtain ⟨k, n, t⟩ := x
    obtain ⟨k', n', t'⟩ := y
    simp only at h1 h2 h3
    subst h1 h2
    have : t = t' := toList_one h3
    rw [this]
  · rintro rfl
    exact ⟨rfl, rfl, rfl⟩
theorem cmp3_trans (x y z : V3) (h1 : cmp3 x y ≤ 0) (h2 : cmp3 y z ≤ 0) : cmp3 x z ≤ 0 := by unfold cmp3 at h1 h2 ⊢; exact cmpV_trans _ _ _ _ _ _ _ _ _ h1 h2
theorem cmp3_trans' (x y z : V3) (h1 : cmp3 x y ≤ 0) (h2 : cmp3 y z ≤ 0) (h3 : cmp3 x z = 0) : cmp3 x y = 0 ∧ cmp3 y z = 0 := by
  rw [cmp3_zero] at h3
  subst h3
  have := cmp3_neg x y
  omega
theorem cmpRows_cons (x y : V3) (xs ys : List V3) : cmpRows (x :: xs) (y :: ys) = lexI (cmp3 x y) (cmpRows xs ys) := rfl
theorem cmpRows_neg : ∀ xs ys : List V3, cmpRows xs ys = -cmpRows ys xs
  | [], [] => rfl
  | [], _ :: _ => rfl
  | _ :: _, [] => rfl
  | x :: xs, y :: ys => by rw [cmpRows_cons, cmpRows_cons, cmpRows_neg xs ys, cmp3_neg x y, lexI_neg]
theorem cmpRows_zero : ∀ xs ys : List V3, cmpRows xs ys = 0 ↔ xs = ys
  | [], [] => by simp [cmpRows]
  | [], _ :: _ => by simp [cmpRows]
  | _ :: _, [] => by simp [cmpRows]
  | x :: xs, y :: ys => by rw [cmpRows_cons, lexI_zero, cmp3_zero, cmpRows_zero xs ys]; simp
theorem cmpRows_trans : ∀ xs ys zs : List V3, cmpRows xs ys ≤ 0 → cmpRows ys zs ≤ 0 → cmpRows xs zs ≤ 0
  | [], [], [] => by simp [cmpRows]
  | [], [], _ :: _ => by simp [cmpRows]
  | [], _ :: _, [] => by simp [cmpRows]
  | [], _ :: _, _ :: _ => by simp [cmpRows]
  | _ :: _, [], _ => by simp [cmpRows]
  | _ :: _, _ :: _, [] => by simp [cmpRows]
  | x :: xs, y :: ys, z :: zs => by
    rw [cmpRows_cons, cmpRows_cons, cmpRows_cons]
    exact lexI_trans (cmp3_trans x y z) (cmp3_trans' x y z) (cmpRows_trans xs ys zs)
theorem rows_lto (rs : Rs) : LtO (ltF fun x y => cmpRows (nthR rs x) (nthR rs y)) where
  asym x y h := by
    have := cmpRows_neg (nthR rs x) (nthR rs y)
    simp only [decide_eq_true_eq, decide_eq_false_iff_not] at h ⊢
    omega
  trans x y z h1 h2 := by
    simp only [decide_eq_false_iff_not] at h1 h2 ⊢
    have a1 := cmpRows_neg (nthR rs x) (nthR rs y)
    have a2 := cmpRows_neg (nthR rs y) (nthR rs z)
    have a3 := cmpRows_neg (nthR rs x) (nthR rs z)
    have := cmpRows_trans (nthR rs x) (nthR rs y) (nthR rs z) (by omega) (by omega)
    omega
set_option maxRecDepth 100000 in
theorem rowOrder_any (a1 a2 : Option Addr) (c1 c2 : Nat) (vs us : List V3) (w : World) (h1 : RowV w a1 vs) (h2 : RowV w a2 us) (hl1 : vs.length ≤ 4096) (hl2 : us.length ≤ 4096) :
    Calls Try.prog 43 #[.slice a1 vs.length c1, .slice a2 us.length c2] w fun e w' => e = .returned (.int .i64 (cmpRows vs us)) ∧ Below w.heap.size w w' := by
  have C := compareFunc_any a1 a2 c1 c2 vs us w h1 h2 hl1 hl2
  clear h1 h2
  generalize cmpRows vs us = cc at *
  generalize vs.length = n1 at *
  generalize us.length = n2 at *
  go_enter Try.func43, Try.ntmps43
  go_wp2_with fail
  refine C.mono ?_
  rintro e w1 ⟨rfl, b1⟩
  clear C
  go_wp2
  go_ret
  exact ⟨rfl, b1⟩
theorem ent43 : Ent 43 := enters_of Try.func43 (by kernel_rfl) rfl
/-- A row that lies in another block stays. -/
theorem RowV.kept {w w' : World} {g b o : Nat} {vs : List V3} (h : RowV w (some ⟨b, o, none⟩) vs) (hK : Kept (fun x => x = g) w w') (hb : b ≠ g) : RowV w' (some ⟨b, o, none⟩) vs := fun i hi => by
  obtain ⟨b', o', e, hlt, ⟨c0, c1, c2⟩, hs⟩ := h i hi
  cases e
  have e : w'.heap[b]? = w.heap[b]? := hK.block b hlt hb
  exact ⟨b, o, rfl, Nat.lt_of_lt_of_le hlt hK.size, ⟨(World.cell?_of_block (a := ⟨b, o + i * 3, none⟩) e).trans c0, (World.cell?_of_block (a := ⟨b, o + i * 3 + 1, none⟩) e).trans c1, (World.cell?_of_block (a := ⟨b, o + i * 3 + 2, none⟩) e).trans c2⟩, hs⟩
end Go.Proofs.Ytmcjgncpblbhpaa
