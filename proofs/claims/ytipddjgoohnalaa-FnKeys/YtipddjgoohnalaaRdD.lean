/- What impl.ReadRow answers. -/
import Derived.Test.YtipddjgoohnalaaRdC
namespace Go.Proofs.Ytipddjgoohnalaa
open Go.RowKit

/-- The code and the values that n bytes are. -/
def rowR (f : Nat → Int) (n : Nat) : Int × List V3 :=
  if 65536 < n then (2, []) else if n = 0 then (3, []) else
    match cellsRd rowTx 8 (shB f 1) (n - 1) with
    | none => (3, [])
    | some vs => if (vs.length : Int) = f 0 then (0, vs) else (3, [])

abbrev RetW (w : World) (p : Int × List V3) (e : Ending) (w' : World) : Prop := ∃ v, e = .returned (.tuple #[v, .int .i64 p.1]) ∧ w'.ownsRow w.heap.size 24 3 v p.2.length (cells3 p.2) ∧ Below w.heap.size w w'

set_option maxRecDepth 100000 in
set_option maxHeartbeats 4000000 in
theorem implReadRow_any (a : Option Addr) (c n : Nat) (f : Nat → Int) (w : World) (h : ReadB w a n f) (hf : Bys f n) (hc : n ≤ c) (hn : n ≤ 1048576) :
    Calls Try.prog 44 #[.slice a n c] w (RetW w (rowR f n)) := by
  by_cases h1 : 65536 < n
  · have E : Hid (rowR f n = (2, [])) := by show _ = _; unfold rowR; rw [if_pos h1]
    clear h hf
    go_enter Try.func44, Try.ntmps44
    go_wp2
    go_ret2
    rw [E.out]
    exact ⟨_, rfl, World.ownsRow_nil _ _ _ _, Below.refl _ _⟩
  by_cases h2 : n = 0
  · have E : Hid (rowR f n = (3, [])) := by show _ = _; unfold rowR; rw [if_neg h1, if_pos h2]
    subst h2
    clear h hf
    go_enter Try.func44, Try.ntmps44
    go_wp2
    go_ret2
    rw [E.out]
    exact ⟨_, rfl, World.ownsRow_nil _ _ _ _, Below.refl _ _⟩
  have HR : Hid (ReadB w a n f) := h
  obtain ⟨b, off, rfl, hlt, hc0⟩ := h 0 (by omega)
  simp only [Nat.add_zero] at hc0
  obtain ⟨v0, v1⟩ := hf 0 (by omega)
  have HF : Hid (Bys (shB f 1) (n - 1)) := hf.sh 1
  have HE : Hid (rowR f n = match cellsRd rowTx 8 (shB f 1) (n - 1) with | none => (3, []) | some vs => if (vs.length : Int) = f 0 then (0, vs) else (3, [])) := by show _ = _; unfold rowR; rw [if_neg h1, if_neg h2]
  have q1 : ((n : Int) == 0) = false := by simp; omega
  have q2 : ¬ (65536 : Int) < n := by omega
  obtain ⟨p, c1, hp, hR1, hc1⟩ : ∃ p c1, (if c = 1 then (⟨b, off, none⟩ : Addr) else ⟨b, off + 1, none⟩) = p ∧ ReadB w (some p) (n - 1) (shB f 1) ∧ n - 1 ≤ c1 ∧ c1 = c - 1 := by
    by_cases hcc : c = 1
    · exact ⟨⟨b, off, none⟩, c - 1, by rw [if_pos hcc], fun i hi => by omega, by omega, rfl⟩
    · exact ⟨⟨b, off + 1, none⟩, c - 1, by rw [if_neg hcc], HR.out.cut (k := 1) rfl, by omega, rfl⟩
  have HR1 : Hid (ReadB w (some p) (n - 1) (shB f 1)) := hR1
  generalize hv : f 0 = v at *
  clear h hf hv hR1
  by_cases hcc : c = 1
  · rw [if_pos hcc] at hp
    subst hp hcc
    obtain rfl : n = 1 := by omega
    go_enter Try.func44, Try.ntmps44
    go_wp2_with fail
    refine (readCells_any _ _ 0 (shB f 1) w HR1.out HF.out (by omega) (by omega)).mono ?_
    rintro e w1 ⟨⟨vs, r, (⟨hp1, rfl, hl, ho⟩ | ⟨hp1, rfl⟩)⟩, hb⟩
    · have HO : Hid (w1.ownsRow w.heap.size 24 3 r vs.length (cells3 vs)) := ho
      obtain ⟨ra, rc, rfl⟩ := own_shape ho
      have hc1' := (hb.cell (p := ⟨b, off, none⟩) hlt).trans hc0
      by_cases hv : (vs.length : Int) = v
      · have E : Hid (rowR f 1 = (0, vs)) := by show _ = _; rw [HE.out]; simp only [hp1]; rw [if_pos hv]
        have hv' : ¬ ((vs.length : Int) ≠ v) := by omega
        clear ho hc0 hp1
        subst hv
        go_wp2
        go_ret2
        rw [E.out]
        exact ⟨_, rfl, HO.out, hb⟩
      · have E : Hid (rowR f 1 = (3, [])) := by show _ = _; rw [HE.out]; simp only [hp1]; rw [if_neg hv]
        clear ho hc0 hp1
        go_wp2
        go_ret2
        rw [E.out]
        exact ⟨_, rfl, World.ownsRow_nil _ _ _ _, hb⟩
    · have E : Hid (rowR f 1 = (3, [])) := by show _ = _; rw [HE.out]; simp only [hp1]
      clear hc0 hp1
      go_wp2
      go_ret2
      rw [E.out]
      exact ⟨_, rfl, World.ownsRow_nil _ _ _ _, hb⟩
  · rw [if_neg hcc] at hp
    subst hp
    go_enter Try.func44, Try.ntmps44
    go_wp2_with fail
    refine (readCells_any _ _ (n - 1) (shB f 1) w HR1.out HF.out (by omega) (by omega)).mono ?_
    rintro e w1 ⟨⟨vs, r, (⟨hp1, rfl, hl, ho⟩ | ⟨hp1, rfl⟩)⟩, hb⟩
    · have HO : Hid (w1.ownsRow w.heap.size 24 3 r vs.length (cells3 vs)) := ho
      obtain ⟨ra, rc, rfl⟩ := own_shape ho
      have hc1' := (hb.cell (p := ⟨b, off, none⟩) hlt).trans hc0
      by_cases hv : (vs.length : Int) = v
      · have E : Hid (rowR f n = (0, vs)) := by show _ = _; rw [HE.out]; simp only [hp1]; rw [if_pos hv]
        have hv' : ¬ ((vs.length : Int) ≠ v) := by omega
        clear ho hc0 hp1
        subst hv
        go_wp2
        go_ret2
        rw [E.out]
        exact ⟨_, rfl, HO.out, hb⟩
      · have E : Hid (rowR f n = (3, [])) := by show _ = _; rw [HE.out]; simp only [hp1]; rw [if_neg hv]
        clear ho hc0 hp1
        go_wp2
        go_ret2
        rw [E.out]
        exact ⟨_, rfl, World.ownsRow_nil _ _ _ _, hb⟩
    · have E : Hid (rowR f n = (3, [])) := by show _ = _; rw [HE.out]; simp only [hp1]
      clear hc0 hp1
      go_wp2
      go_ret2
      rw [E.out]
      exact ⟨_, rfl, World.ownsRow_nil _ _ _ _, hb⟩
end Go.Proofs.Ytipddjgoohnalaa
