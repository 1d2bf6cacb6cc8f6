/- A cell as the specification reads it, held against a cell as impl reads it: plain mathematics. -/
import Derived.Test.YtfkenogbfbbbjaaRdF
namespace Go.Proofs.Ytfkenogbfbbbjaa
open Go.RowKit

/-- A cell as the specification reads it, and where the reader then is. -/
def specCell (f : Nat → Int) (n : Nat) (s : Nat × Bool) : V3 × Nat × Bool :=
  let p := oneR f n s
  if p.1 = 1 then ((1, (oneR f n p.2).1, ⟨#[]⟩), (oneR f n p.2).2)
  else if p.1 = 2 then ((2, int8 (takeF f n 8 p.2), ⟨#[]⟩), takeS n 8 p.2)
  else if p.1 = 3 ∨ p.1 = 4 then ((p.1, 0, txt (takeF f n (oneR f n p.2).1.toNat (oneR f n p.2).2) (takeN n (oneR f n p.2).1.toNat (oneR f n p.2).2)), takeS n (oneR f n p.2).1.toNat (oneR f n p.2).2)
  else ((p.1, 0, ⟨#[]⟩), p.2)

theorem oneR_bad (f : Nat → Int) (n o : Nat) : oneR f n (o, true) = (0, o, true) := by unfold oneR; rw [if_pos (.inl rfl)]
theorem oneR_end (f : Nat → Int) {n o : Nat} (h : n ≤ o) : oneR f n (o, false) = (0, o, true) := by unfold oneR; rw [if_pos (.inr h)]
theorem oneR_go (f : Nat → Int) {n o : Nat} (h : o < n) : oneR f n (o, false) = (f o, o + 1, false) := by unfold oneR; rw [if_neg (by simp; omega)]

/-- Nothing is left: the reader is wrong. -/
theorem specCell_end (f : Nat → Int) {n o : Nat} (h : n ≤ o) : (specCell f n (o, false)).2 = (o, true) := by
  unfold specCell
  simp only [oneR_end f h]
  simp

theorem txt_ext {f g : Nat → Int} {n : Nat} (h : ∀ i, i < n → f i = g i) : txt f n = txt g n := by
  unfold txt
  congr 1
  exact List.map_congr_left (fun i hi => h i (by simpa using hi))

/-- What a cell's two readings have to do with one another. -/
def Alike (n o : Nat) (p : V3 × Nat × Bool) (q : V3 × Int) : Prop :=
  (p.2.2 = false ∧ okV3 p.1 = true ∧ q.1 = p.1 ∧ q.2 = (p.2.1 : Int) - o ∧ o < p.2.1 ∧ p.2.1 ≤ n) ∨ ((p.2.2 = true ∨ okV3 p.1 = false) ∧ q.2 = 0 ∧ p.2.1 ≤ n)

theorem ok_empty : (⟨#[]⟩ : ByteArray).toList.isEmpty = true := by kernel_rfl

/-- A right cell is read alike; what is no right cell, impl reads as none. -/
theorem specCell_go {f : Nat → Int} {n o : Nat} (hf : Bys f n) (h : o < n) : Alike n o (specCell f n (o, false)) (cellRd rowTx (shB f o) (n - o)) := by
  obtain ⟨v0, v1⟩ := hf o h
  have e0 : shB f o 0 = f o := by simp [shB]
  have e1 : shB f o 1 = f (o + 1) := rfl
  by_cases k0 : f o = 0
  · left
    have hs : specCell f n (o, false) = ((0, 0, ⟨#[]⟩), o + 1, false) := by unfold specCell; simp [oneR_go f h, k0]
    have hc : cellRd rowTx (shB f o) (n - o) = ((0, 0, ⟨#[]⟩), 1) := by unfold cellRd; rw [e0, if_pos k0]
    rw [hs, hc]
    refine ⟨rfl, ?_, rfl, by simp only; omega, by simp only; omega, by simp only; omega⟩
    show okV 0 0 ⟨#[]⟩ = true
    unfold okV
    rw [if_pos rfl, ok_empty]
    rfl
  by_cases k1 : f o = 1
  · by_cases h2 : o + 1 < n
    · obtain ⟨w0, w1⟩ := hf (o + 1) h2
      have hs : specCell f n (o, false) = ((1, f (o + 1), ⟨#[]⟩), o + 1 + 1, false) := by unfold specCell; simp only [oneR_go f h]; rw [if_pos k1]; simp only [oneR_go f h2]
      by_cases h3 : f (o + 1) ≤ 1
      · left
        have hc : cellRd rowTx (shB f o) (n - o) = ((1, f (o + 1), ⟨#[]⟩), 2) := by unfold cellRd; rw [e0, e1, if_neg k0, if_pos k1, if_pos ⟨by omega, h3⟩]
        rw [hs, hc]
        refine ⟨rfl, ?_, rfl, by simp only; omega, by simp only; omega, by simp only; omega⟩
        show okV 1 (f (o + 1)) ⟨#[]⟩ = true
        unfold okV inB
        rw [if_neg (by omega), if_pos rfl, ok_empty, Bool.and_true]
        exact decide_eq_true ⟨w0, h3⟩
      · right
        have hc : cellRd rowTx (shB f o) (n - o) = ((0, 0, ⟨#[]⟩), 0) := by unfold cellRd; rw [e0, e1, if_neg k0, if_pos k1, if_neg (fun x => h3 x.2)]
        rw [hs, hc]
        refine ⟨.inr ?_, rfl, by simp only; omega⟩
        show okV 1 (f (o + 1)) ⟨#[]⟩ = false
        unfold okV inB
        rw [if_neg (by omega), if_pos rfl, ok_empty, Bool.and_true]
        exact decide_eq_false (fun x => h3 x.2)
    · right
      have hs : specCell f n (o, false) = ((1, 0, ⟨#[]⟩), o + 1, true) := by unfold specCell; simp only [oneR_go f h]; rw [if_pos k1]; simp only [oneR_end f (show n ≤ o + 1 by omega)]
      have hc : cellRd rowTx (shB f o) (n - o) = ((0, 0, ⟨#[]⟩), 0) := by unfold cellRd; rw [e0, if_neg k0, if_pos k1, if_neg (fun x => by omega)]
      rw [hs, hc]
      exact ⟨.inl rfl, rfl, by simp only; omega⟩
  by_cases k2 : f o = 2
  · have hs : specCell f n (o, false) = ((2, int8 (takeF f n 8 (o + 1, false)), ⟨#[]⟩), takeS n 8 (o + 1, false)) := by unfold specCell; simp only [oneR_go f h]; rw [if_neg k1, if_pos k2]
    by_cases h2 : 8 < n - o
    · left
      have ht : takeS n 8 (o + 1, false) = (o + 1 + 8, false) := by unfold takeS; rw [if_neg (by simp; omega)]
      have hF : takeF f n 8 (o + 1, false) = fun i => shB f o (1 + i) := by
        unfold takeF
        rw [if_neg (by simp; omega)]
        funext i
        show f (o + 1 + i) = f (o + (1 + i))
        rw [Nat.add_assoc]
      have hc : cellRd rowTx (shB f o) (n - o) = ((2, int8 (fun i => shB f o (1 + i)), ⟨#[]⟩), 9) := by unfold cellRd; rw [e0, if_neg k0, if_neg k1, if_pos k2, if_pos h2]
      rw [hs, hc, ht, hF]
      refine ⟨rfl, ?_, rfl, by simp only; omega, by simp only; omega, by simp only; omega⟩
      show okV 2 _ ⟨#[]⟩ = true
      unfold okV
      rw [if_neg (by omega), if_neg (by omega), if_pos rfl, ok_empty]
    · right
      have ht : takeS n 8 (o + 1, false) = (o + 1, true) := by unfold takeS; rw [if_pos (.inr (by simp only; omega))]
      have hc : cellRd rowTx (shB f o) (n - o) = ((0, 0, ⟨#[]⟩), 0) := by unfold cellRd; rw [e0, if_neg k0, if_neg k1, if_pos k2, if_neg h2]
      rw [hs, hc, ht]
      exact ⟨.inl rfl, rfl, by simp only; omega⟩
  by_cases k3 : f o = 3 ∨ f o = 4
  · have hc0 : cellRd rowTx (shB f o) (n - o) = if 0 < (rowTx (fun i => shB f o (1 + i)) (n - o - 1)).2 ∧ (rowTx (fun i => shB f o (1 + i)) (n - o - 1)).1.size ≤ 60 then ((f o, 0, (rowTx (fun i => shB f o (1 + i)) (n - o - 1)).1), 1 + (rowTx (fun i => shB f o (1 + i)) (n - o - 1)).2) else ((0, 0, ⟨#[]⟩), 0) := by
      unfold cellRd; rw [e0, if_neg k0, if_neg k1, if_neg k2, if_pos k3]
    by_cases h2 : o + 1 < n
    · obtain ⟨w0, w1⟩ := hf (o + 1) h2
      obtain ⟨z, hz⟩ := Int.eq_ofNat_of_zero_le w0
      have e2 : (fun i => shB f o (1 + i)) 0 = (z : Int) := hz
      have hs : specCell f n (o, false) = ((f o, 0, txt (takeF f n z (o + 1 + 1, false)) (takeN n z (o + 1 + 1, false))), takeS n z (o + 1 + 1, false)) := by
        unfold specCell; simp only [oneR_go f h]; rw [if_neg k1, if_neg k2, if_pos k3]; simp only [oneR_go f h2, hz]; rfl
      by_cases h3 : n < o + 1 + 1 + z
      · right
        have ht : takeS n z (o + 1 + 1, false) = (o + 1 + 1, true) := by unfold takeS; rw [if_pos (.inr h3)]
        have hT : rowTx (fun i => shB f o (1 + i)) (n - o - 1) = (⟨#[]⟩, 0) := by unfold rowTx; rw [e2, if_neg (fun x => by omega)]
        rw [hs, ht, hc0, hT]
        exact ⟨.inl rfl, rfl, by simp only; omega⟩
      · have ht : takeS n z (o + 1 + 1, false) = (o + 1 + 1 + z, false) := by unfold takeS; rw [if_neg (by simp; omega)]
        have hN : takeN n z (o + 1 + 1, false) = z := by unfold takeN; rw [if_neg (by simp; omega)]
        have hF : takeF f n z (o + 1 + 1, false) = shB f (o + 1 + 1) := by unfold takeF; rw [if_neg (by simp; omega)]
        have hT : rowTx (fun i => shB f o (1 + i)) (n - o - 1) = (txt (shB f (o + 1 + 1)) z, 1 + (z : Int)) := by
          unfold rowTx
          rw [e2, if_pos ⟨by omega, by omega⟩]
          have : (fun i => (fun i => shB f o (1 + i)) (1 + i)) = shB f (o + 1 + 1) := by funext i; show f (o + (1 + (1 + i))) = f (o + 1 + 1 + i); congr 1; omega
          rw [this]
          rfl
        rw [hs, ht, hN, hF, hc0, hT]
        have hsz := txt_size (shB f (o + 1 + 1)) z
        have hok : okV (f o) 0 (txt (shB f (o + 1 + 1)) z) = decide ((z : Int) ≤ 60) := by
          unfold okV
          rw [if_neg k0, if_neg k1, if_neg k2, if_pos k3, hsz]
          rfl
        by_cases h4 : z ≤ 60
        · left
          rw [if_pos ⟨by simp only; omega, by simp only; omega⟩]
          refine ⟨rfl, ?_, rfl, by simp only; omega, by simp only; omega, by simp only; omega⟩
          show okV (f o) 0 _ = true
          rw [hok]
          exact decide_eq_true (by omega)
        · right
          rw [if_neg (fun x => by have := x.2; simp only at this; omega)]
          refine ⟨.inr ?_, rfl, by simp only; omega⟩
          show okV (f o) 0 _ = false
          rw [hok]
          exact decide_eq_false (by omega)
    · right
      have hs : (specCell f n (o, false)).2 = (o + 1, true) := by
        unfold specCell; simp only [oneR_go f h]; rw [if_neg k1, if_neg k2, if_pos k3]; simp only [oneR_end f (show n ≤ o + 1 by omega)]
        unfold takeS
        rw [if_pos (.inl rfl)]
      have hT : rowTx (fun i => shB f o (1 + i)) (n - o - 1) = (⟨#[]⟩, 0) := by unfold rowTx; rw [if_neg (fun x => by omega)]
      rw [hc0, hT, hs]
      exact ⟨.inl rfl, rfl, by simp only; omega⟩
  · right
    have hs : specCell f n (o, false) = ((f o, 0, ⟨#[]⟩), o + 1, false) := by unfold specCell; simp only [oneR_go f h]; rw [if_neg k1, if_neg k2, if_neg k3]
    have hc : cellRd rowTx (shB f o) (n - o) = ((0, 0, ⟨#[]⟩), 0) := by unfold cellRd; rw [e0, if_neg k0, if_neg k1, if_neg k2, if_neg k3]
    rw [hs, hc]
    refine ⟨.inr ?_, rfl, by simp only; omega⟩
    show okV (f o) 0 _ = false
    unfold okV
    rw [if_neg k0, if_neg k1, if_neg k2, if_neg k3]
end Go.Proofs.Ytfkenogbfbbbjaa
