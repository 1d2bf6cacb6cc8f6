/- What impl.readRow and impl.ReadRow answer. -/
import Derived.Test.YtfkenogbfbbbjaaRdC
namespace Go.Proofs.Ytfkenogbfbbbjaa
open Go.RowKit

/-- The code and the values that n bytes are. -/
def rowR (f : Nat → Int) (n : Nat) : Int × List V3 :=
  if 65536 < n then (2, []) else if n = 0 then (3, []) else
    match cellsRd rowTx 8 (shB f 1) (n - 1) with
    | none => (3, [])
    | some vs => if (vs.length : Int) = f 0 then (0, vs) else (3, [])

abbrev RetW (w : World) (p : Int × List V3) (e : Ending) (w' : World) : Prop := ∃ v, e = .returned (.tuple #[v, .int .i64 p.1]) ∧ w'.ownsRow w.heap.size 24 3 v p.2.length (cells3 p.2) ∧ Below w.heap.size w w'

/-- Just k cells that n bytes begin with, and how many bytes they are. -/
def cntRd (T : (Nat → Int) → Nat → ByteArray × Int) : Nat → (Nat → Int) → Nat → Option (List V3 × Nat)
  | 0, _, _ => some ([], 0)
  | k + 1, f, n => if n = 0 ∨ (cellRd T f n).2 = 0 then none else (cntRd T k (shB f (cellRd T f n).2.toNat) (n - (cellRd T f n).2.toNat)).map fun p => ((cellRd T f n).1 :: p.1, (cellRd T f n).2.toNat + p.2)
theorem cntRd_stop {T : (Nat → Int) → Nat → ByteArray × Int} (k : Nat) {f : Nat → Int} {n : Nat} (h : n = 0 ∨ (cellRd T f n).2 = 0) : cntRd T (k + 1) f n = none := if_pos h
theorem cntRd_next {T : (Nat → Int) → Nat → ByteArray × Int} (k : Nat) {f : Nat → Int} {n : Nat} (h : ¬ (n = 0 ∨ (cellRd T f n).2 = 0)) : cntRd T (k + 1) f n = (cntRd T k (shB f (cellRd T f n).2.toNat) (n - (cellRd T f n).2.toNat)).map fun p => ((cellRd T f n).1 :: p.1, (cellRd T f n).2.toNat + p.2) := if_neg h

theorem cells_of_cnt {T : (Nat → Int) → Nat → ByteArray × Int} (hT : TOk T) : ∀ (k j : Nat) (f : Nat → Int) (n : Nat) (vs : List V3), Bys f n → k ≤ j → cntRd T k f n = some (vs, n) → cellsRd T j f n = some vs ∧ vs.length = k
  | 0, j, f, n, vs, _, _, h => by
    cases h
    exact ⟨cellsRd_zero T j f, rfl⟩
  | k + 1, j, f, n, vs, hf, hj, h => by
    obtain ⟨j, rfl⟩ : ∃ i, j = i + 1 := ⟨j - 1, by omega⟩
    by_cases h0 : n = 0 ∨ (cellRd T f n).2 = 0
    · rw [cntRd_stop k h0] at h; cases h
    · rw [cntRd_next k h0] at h
      obtain ⟨p, hp, he⟩ := Option.map_eq_some_iff.1 h
      obtain ⟨l, z⟩ := p
      simp only [Prod.mk.injEq] at he
      obtain ⟨rfl, hz⟩ := he
      have hc := cellRd_ok hT hf (n := n) (by omega)
      have e : z = n - (cellRd T f n).2.toNat := by omega
      rw [e] at hp
      have := cells_of_cnt hT k j _ _ l (hf.sh _) (by omega) hp
      refine ⟨?_, by simp [this.2]⟩
      rw [cellsRd_next j (by omega) (fun e => h0 (.inr e)), this.1]
      rfl
theorem cnt_of_cells {T : (Nat → Int) → Nat → ByteArray × Int} (hT : TOk T) : ∀ (j : Nat) (f : Nat → Int) (n : Nat) (vs : List V3), Bys f n → cellsRd T j f n = some vs → vs.length ≤ j ∧ cntRd T vs.length f n = some (vs, n)
  | 0, f, n, vs, _, h => by
    by_cases h0 : n = 0
    · subst h0
      rw [cellsRd_zero] at h
      cases h
      exact ⟨Nat.le_refl _, rfl⟩
    · rw [cellsRd_full (by omega)] at h; cases h
  | j + 1, f, n, vs, hf, h => by
    by_cases h0 : n = 0
    · subst h0
      rw [cellsRd_zero] at h
      cases h
      exact ⟨Nat.zero_le _, rfl⟩
    · by_cases h1 : (cellRd T f n).2 = 0
      · rw [cellsRd_bad _ (by omega) h1] at h; cases h
      · rw [cellsRd_next j (by omega) h1] at h
        obtain ⟨l, hl, rfl⟩ := Option.map_eq_some_iff.1 h
        have hc := cellRd_ok hT hf (n := n) (by omega)
        have := cnt_of_cells hT j _ _ l (hf.sh _) hl
        refine ⟨by simp; omega, ?_⟩
        show cntRd T (l.length + 1) f n = _
        rw [cntRd_next _ (by omega), this.2]
        simp
        omega

/-- The row that n bytes begin with, and how many bytes it is. -/
def rowRd (f : Nat → Int) (n : Nat) : Option (List V3 × Nat) :=
  if n = 0 ∨ 8 < f 0 then none else (cntRd rowTx (f 0).toNat (shB f 1) (n - 1)).map fun p => (p.1, 1 + p.2)
theorem rowR_of {f : Nat → Int} {n : Nat} (hf : Bys f n) (hn : n ≤ 65536) : rowR f n = match rowRd f n with | none => (3, []) | some p => if p.2 = n then (0, p.1) else (3, []) := by
  unfold rowR
  rw [if_neg (by omega)]
  by_cases h0 : n = 0
  · unfold rowRd
    rw [if_pos h0, if_pos (.inl h0)]
  · rw [if_neg h0]
    have hb := hf 0 (by omega)
    have key : ∀ vs, rowRd f n = some (vs, n) → cellsRd rowTx 8 (shB f 1) (n - 1) = some vs ∧ (vs.length : Int) = f 0 := fun vs h => by
      unfold rowRd at h
      by_cases h8 : n = 0 ∨ 8 < f 0
      · rw [if_pos h8] at h; cases h
      · rw [if_neg h8] at h
        obtain ⟨p, hp, he⟩ := Option.map_eq_some_iff.1 h
        obtain ⟨l, z⟩ := p
        simp only [Prod.mk.injEq] at he
        obtain ⟨rfl, hz⟩ := he
        have e : z = n - 1 := by omega
        rw [e] at hp
        obtain ⟨h1, h2⟩ := cells_of_cnt rowTx_ok _ 8 _ _ l (hf.sh 1) (by omega) hp
        exact ⟨h1, by omega⟩
    cases hr : rowRd f n with
    | none =>
      simp only
      cases hc : cellsRd rowTx 8 (shB f 1) (n - 1) with
      | none => rfl
      | some vs =>
        simp only
        obtain ⟨g1, g2⟩ := cnt_of_cells rowTx_ok _ _ _ _ (hf.sh 1) hc
        rw [if_neg]
        intro e
        unfold rowRd at hr
        rw [if_neg (by omega), ← e, Int.toNat_natCast, g2] at hr
        cases hr
    | some p =>
      obtain ⟨l, z⟩ := p
      simp only
      by_cases hz : z = n
      · rw [if_pos hz]
        subst hz
        obtain ⟨h1, h2⟩ := key l hr
        rw [h1]
        simp only
        rw [if_pos h2]
      · rw [if_neg hz]
        cases hc : cellsRd rowTx 8 (shB f 1) (n - 1) with
        | none => rfl
        | some vs =>
          simp only
          rw [if_neg]
          intro e
          obtain ⟨g1, g2⟩ := cnt_of_cells rowTx_ok _ _ _ _ (hf.sh 1) hc
          unfold rowRd at hr
          rw [if_neg (by omega), ← e, Int.toNat_natCast, g2] at hr
          simp at hr
          omega
end Go.Proofs.Ytfkenogbfbbbjaa
