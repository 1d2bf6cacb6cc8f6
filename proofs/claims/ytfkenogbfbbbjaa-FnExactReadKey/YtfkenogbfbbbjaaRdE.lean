/- The specification's reader: a byte, and some bytes. -/
import Derived.Test.YtfkenogbfbbbjaaRdD
namespace Go.Proofs.Ytfkenogbfbbbjaa
open Go.RowKit

/-- The reader's block: the bytes, the place, and whether something was wrong. -/
def Rdr (w : World) (rb : Nat) (a : Option Addr) (n c : Nat) (s : Nat × Bool) : Prop := w.heap[rb]? = some (.cells #[.slice a n c, .int .i64 (s.1 : Nat), .bool s.2] 85 (0, 0))
theorem Rdr.c0 {w : World} {rb n c : Nat} {a : Option Addr} {s : Nat × Bool} (h : Rdr w rb a n c s) : w.cell? ⟨rb, 0, none⟩ = some (.slice a n c) := by rw [rowCell h]; rfl
theorem Rdr.c1 {w : World} {rb n c : Nat} {a : Option Addr} {s : Nat × Bool} (h : Rdr w rb a n c s) : w.cell? ⟨rb, 1, none⟩ = some (.int .i64 (s.1 : Nat)) := by rw [rowCell h]; rfl
theorem Rdr.c2 {w : World} {rb n c : Nat} {a : Option Addr} {s : Nat × Bool} (h : Rdr w rb a n c s) : w.cell? ⟨rb, 2, none⟩ = some (.bool s.2) := by rw [rowCell h]; rfl
theorem Rdr.free {w : World} {rb n c : Nat} {a : Option Addr} {s : Nat × Bool} (h : Rdr w rb a n c s) (o : Nat) : w.frozen? ⟨rb, o, none⟩ = false := slab_free h
theorem Rdr.bad {w : World} {rb n c : Nat} {a : Option Addr} {s : Nat × Bool} (h : Rdr w rb a n c s) : Rdr (w.setCell ⟨rb, 2, none⟩ (.bool true)) rb a n c (s.1, true) := by
  have := slab_set (o := 2) h (.bool true); simpa [Rdr] using this
theorem Rdr.go {w : World} {rb n c : Nat} {a : Option Addr} {s : Nat × Bool} (h : Rdr w rb a n c s) (k : Nat) : Rdr (w.setCell ⟨rb, 1, none⟩ (.int .i64 (k : Nat))) rb a n c (k, s.2) := by
  have := slab_set (o := 1) h (.int .i64 (k : Nat)); simpa [Rdr] using this
theorem Rdr.drewN {w : World} {rb n c : Nat} {a : Option Addr} {s : Nat × Bool} (h : Rdr w rb a n c s) (k : Nat) : Rdr (w.drewN k) rb a n c s := h
theorem Rdr.lt {w : World} {rb n c : Nat} {a : Option Addr} {s : Nat × Bool} (h : Rdr w rb a n c s) : rb < w.heap.size := by
  rcases Nat.lt_or_ge rb w.heap.size with h' | h'
  · exact h'
  · unfold Rdr at h; rw [Array.getElem?_eq_none h'] at h; cases h
theorem Rdr.below {w w' : World} {rb n c : Nat} {a : Option Addr} {s : Nat × Bool} (h : Rdr w rb a n c s) (hb : Below w.heap.size w w') : Rdr w' rb a n c s := (hb.block rb h.lt).trans h

def oneR (f : Nat → Int) (n : Nat) (s : Nat × Bool) : Int × Nat × Bool := if s.2 = true ∨ n ≤ s.1 then (0, s.1, true) else (f s.1, s.1 + 1, false)

set_option maxRecDepth 100000 in
set_option maxHeartbeats 4000000 in
theorem one_any (rb : Nat) (a : Option Addr) (n c : Nat) (f : Nat → Int) (s : Nat × Bool) (w : World) (h : Rdr w rb a n c s) (hr : ReadB w a n f) (hf : Bys f n) (hne : ∀ p, a = some p → p.block ≠ rb) (hn : n ≤ 65536) (hs : s.1 ≤ n) :
    Calls Try.prog 91 #[.pointer (some ⟨rb, 0, none⟩)] w fun e w' => e = .returned (.int .i64 (oneR f n s).1) ∧ Rdr w' rb a n c (oneR f n s).2 ∧ But rb w w' := by
  have HR : Hid (Rdr w rb a n c s) := h
  have HB : Hid (ReadB w a n f) := hr
  have z0 := h.c0
  have z1 := h.c1
  have z2 := h.c2
  have f1 := h.free 1
  have f2 := h.free 2
  clear h hr
  obtain ⟨o, bad⟩ := s
  simp only at z1 z2 hs
  cases bad with
  | true =>
    have E : Hid (oneR f n (o, true) = (0, o, true)) := by show _ = _; unfold oneR; rw [if_pos (.inl rfl)]
    go_enter Try.func91, Try.ntmps91
    go_wp2_with fail
    go_quiet (fail)
    go_wp2
    go_ret
    rw [E.out]
    exact ⟨rfl, (HR.out.drewN _).bad, ((But.refl _ _).drewN _).setCell _ _⟩
  | false =>
    by_cases ho : n ≤ o
    · have E : Hid (oneR f n (o, false) = (0, o, true)) := by show _ = _; unfold oneR; rw [if_pos (.inr ho)]
      have hoI : (n : Int) ≤ (o : Int) := by omega
      go_enter Try.func91, Try.ntmps91
      go_wp2_with fail
      go_quiet (fail)
      go_wp2
      go_ret
      rw [E.out]
      exact ⟨rfl, (HR.out.drewN _).bad, ((But.refl _ _).drewN _).setCell _ _⟩
    · have E : Hid (oneR f n (o, false) = (f o, o + 1, false)) := by show _ = _; unfold oneR; rw [if_neg (by simp; omega)]
      obtain ⟨b, off, rfl, hlb, hc⟩ := HB.out o (by omega)
      have hbr : ¬ b = rb := hne _ rfl
      have hoI : ¬ (n : Int) ≤ (o : Int) := by omega
      have hoL : (o : Int) < (n : Int) := by omega
      obtain ⟨v0, v1⟩ := hf o (by omega)
      clear hf
      generalize f o = v at *
      go_enter Try.func91, Try.ntmps91
      go_wp2_with fail
      go_quiet (fail)
      go_wp2_with fail
      have hsub : (o : Int) + 1 - 1 = (o : Int) := by omega
      go_quiet (fail)
      go_wp2
      go_ret
      rw [E.out]
      refine ⟨rfl, ?_, ?_⟩
      · exact HR.out.go (o + 1)
      · exact ((((But.refl _ _).drewN _).setCell _ _).drewN _)
end Go.Proofs.Ytfkenogbfbbbjaa
