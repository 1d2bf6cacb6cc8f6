/- The specification's product (stage 13). -/
import Derived.Test.YthdilgggjkekaaaPrD
import Derived.Deep.RegionLaw
namespace Go.Proofs.Ythdilgggjkekaaa.R
open Go.RowKit

theorem OwnV.shape {w : World} {B : Nat} {u : Value} {l : List V3} (h : OwnV w B u l) : ∃ a n cap, u = .slice a n cap := by
  obtain ⟨a, cap, e, _⟩ := h.slab
  exact ⟨a, _, cap, e⟩
/-- What a product asks of its sides: few rows of few values. -/
def FitR (aa bb : Rs) : Prop := aa.length ≤ 400 ∧ bb.length ≤ 400 ∧ aa.length * bb.length ≤ 400 ∧ (∀ i, i < aa.length → (nthR aa i).length ≤ 8) ∧ ∀ i, i < bb.length → (nthR bb i).length ≤ 8
theorem prodK_few {aa bb : Rs} (h : FitR aa bb) {i k : Nat} (hi : i < aa.length) (hk : k < bb.length) : (prodK aa bb i k).length < 400 := by
  rw [prodK_len (by omega) (by omega)]
  have h1 : (i + 1) * bb.length ≤ aa.length * bb.length := Nat.mul_le_mul_right _ hi
  rw [Nat.add_mul] at h1
  have := h.2.2.1
  omega
theorem BldR.base {w : World} {B B' hi : Nat} {v : Value} {rs : Rs} (h : BldR w B hi v rs) (hB : B' ≤ B) : BldR w B' hi v rs := by
  obtain ⟨xs, gs, ns, cs, ax, ⟨h1, h2⟩, hc, hd⟩ := h
  refine ⟨xs, gs, ns, cs, ax, ⟨h1, ?_⟩, fun i hi => ⟨(hc i hi).1, fun h0 => by obtain ⟨q1, q2, q3, q4, q5⟩ := (hc i hi).2 h0; exact ⟨q1, by omega, q3, q4, q5⟩⟩, hd⟩
  rcases h2 with h | ⟨g, cap, cur, e, hg, r⟩
  · exact .inl h
  · exact .inr ⟨g, cap, cur, e, by omega, r⟩
/-- The code of a product. -/
def prC (aa bb : Rs) : Int := if 4096 < aa.length ∨ 4096 < bb.length then 2 else if okRs 8 aa = true ∧ okRs 8 bb = true then (if 400 < aa.length * bb.length then 6 else 0) else 1
/-- Its rows. -/
def prR (aa bb : Rs) : Rs := if prC aa bb = 0 then prodL aa bb else []
/-- What a product answers: rows of its own, and a code. -/
def RetP (aa bb : Rs) (w : World) (r : Ending) (w' : World) : Prop := ∃ v hi, r = .returned (.tuple #[v, .int .i64 (prC aa bb)]) ∧ BldR w' w.heap.size hi v (prR aa bb) ∧ Below w.heap.size w w'
theorem RetP.bad {aa bb : Rs} {w w' : World} {c : Int} {v : Value} {hi : Nat} (hc : prC aa bb = c) (h : c ≠ 0) (hv : BldR w' w.heap.size hi v []) (hb : Below w.heap.size w w') : RetP aa bb w (.returned (.tuple #[v, .int .i64 c])) w' := by
  refine ⟨v, hi, by rw [hc], ?_, hb⟩
  have : prR aa bb = [] := if_neg (by rw [hc]; exact h)
  rw [this]; exact hv
theorem RetP.good {aa bb : Rs} {w w' : World} {v : Value} {hi : Nat} (hc : prC aa bb = 0) (hv : BldR w' w.heap.size hi v (prodL aa bb)) (hb : Below w.heap.size w w') : RetP aa bb w (.returned (.tuple #[v, .int .i64 0])) w' := by
  refine ⟨v, hi, by rw [hc], ?_, hb⟩
  have : prR aa bb = prodL aa bb := if_pos hc
  rw [this]; exact hv
theorem fit_of {aa bb : Rs} (h1 : okRs 8 aa = true) (h2 : okRs 8 bb = true) (h3 : ¬ 400 < aa.length * bb.length) : FitR aa bb :=
  ⟨(okRs_small h1).1, (okRs_small h2).1, by omega, (okRs_small h1).2, (okRs_small h2).2⟩
end Go.Proofs.Ythdilgggjkekaaa.R
