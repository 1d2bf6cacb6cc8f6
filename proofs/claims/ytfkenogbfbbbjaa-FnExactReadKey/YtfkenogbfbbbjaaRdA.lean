/- How impl reads a row's text, and a cell. -/
import Derived.Test.YtfkenogbfbbbjaaIntOf
import Derived.Laws.BytesArg
namespace Go.Proofs.Ytfkenogbfbbbjaa
open Go.RowKit

/-- The text of n bytes. -/
def txt (f : Nat → Int) (n : Nat) : ByteArray := strOfNums ((List.range n).map f)
theorem txt_size (f : Nat → Int) (n : Nat) : (txt f n).size = n := by
  unfold txt strOfNums
  show Array.size _ = n
  simp
theorem conv_text (w : World) (a : Option Addr) (n cap : Nat) (f : Nat → Int) (h : ReadB w a n f) : (convert 22 9 (.slice a n cap)).run Try.prog w = .ok (.string (txt f n)) w := by
  cases n with
  | zero =>
    cases a with
    | none =>
      rw [run_convert_bytes_nil w 22 5 Try.underlying22 Try.underlying5 0 cap 9 Try.underlying9]
      rfl
    | some a =>
      rw [run_convert_bytes_string w 22 9 5 _ 0 cap Try.underlying22 Try.underlying5 Try.underlying9]
      have hl := run_loadCells_list (P := Try.prog) w a [] (fun j v hj => by simp at hj)
      rw [run_bytesToString w a 0 cap [] hl]
      rfl
  | succ n =>
    obtain ⟨b, off, rfl, _, _⟩ := h 0 (by omega)
    refine run_convert_bytes_arg w 22 5 Try.underlying22 Try.underlying5 b off (n + 1) cap _ (by simp) (fun i hi => ?_) 9 Try.underlying9
    obtain ⟨b', off', e, _, hc⟩ := h i hi
    cases e
    rw [hc]
    simp [List.getD_eq_getElem?_getD, hi]

/-- What is left behind the first k bytes. -/
theorem ReadB.cut {w : World} {a : Option Addr} {n : Nat} {f : Nat → Int} (h : ReadB w a n f) {b off k : Nat} (ha : a = some ⟨b, off, none⟩) : ReadB w (some ⟨b, off + k, none⟩) (n - k) (fun i => f (k + i)) := fun i hi => by
  obtain ⟨b', off', e, hlt, hc⟩ := h (k + i) (by omega)
  rw [ha] at e
  cases e
  exact ⟨b, off + k, rfl, hlt, by rw [Nat.add_assoc]; exact hc⟩

/-- A text of a row: its size ahead. -/
def rowTx (f : Nat → Int) (n : Nat) : ByteArray × Int := if 1 ≤ n ∧ f 0 < n then (txt (fun i => f (1 + i)) (f 0).toNat, 1 + f 0) else (⟨#[]⟩, 0)

set_option maxRecDepth 100000 in
set_option maxHeartbeats 2000000 in
theorem readRowText_any (a : Option Addr) (c n : Nat) (f : Nat → Int) (w : World) (h : ReadB w a n f) (hf : Bys f n) (hc : n ≤ c) (hn : n ≤ 65536) :
    Calls Try.prog 97 #[.slice a n c] w fun e w' => e = .returned (.tuple #[.string (rowTx f n).1, .int .i64 (rowTx f n).2]) ∧ w' = w := by
  have H : Hid (ReadB w a n f) := h
  by_cases h1 : n = 0
  · subst h1
    have E : Hid (rowTx f 0 = (⟨#[]⟩, 0)) := by show _ = _; unfold rowTx; rw [if_neg (by omega)]
    clear h hf
    go_enter Try.func97, Try.ntmps97
    go_wp2
    go_ret2
    rw [E.out]
    exact ⟨rfl, rfl⟩
  · obtain ⟨b, off, rfl, hlt, hc0⟩ := h 0 (by omega)
    simp only [Nat.add_zero] at hc0
    obtain ⟨v0, v1⟩ := hf 0 (by omega)
    by_cases h2 : f 0 < n
    · have E : Hid (rowTx f n = (txt (fun i => f (1 + i)) (f 0).toNat, 1 + f 0)) := by show _ = _; unfold rowTx; rw [if_pos ⟨by omega, h2⟩]
      obtain ⟨m, hm⟩ := Int.eq_ofNat_of_zero_le v0
      rw [hm] at hc0 h2 v0 v1 E
      have q1 : ((n : Int) == 0) = false := by simp; omega
      have q2 : ¬ n ≤ m := by omega
      have R : Hid (ReadB w (some ⟨b, off + 1, none⟩) m (fun i => f (1 + i))) := fun i hi => (h.cut (k := 1) rfl) i (by omega)
      clear h hf
      by_cases hc1 : c = 1
      · obtain rfl : n = 1 := by omega
        obtain rfl : m = 0 := by omega
        subst hc1
        have hcv := conv_text w (some ⟨b, off, none⟩) 0 0 (fun i => f (1 + i)) (fun i hi => by omega)
        go_enter Try.func97, Try.ntmps97
        go_wp2
        go_ret2
        rw [E.out]
        exact ⟨rfl, rfl⟩
      · have hcv := conv_text w (some ⟨b, off + 1, none⟩) m (c - 1) (fun i => f (1 + i)) R.out
        go_enter Try.func97, Try.ntmps97
        go_wp2
        go_ret2
        rw [E.out]
        exact ⟨rfl, rfl⟩
    · have E : Hid (rowTx f n = (⟨#[]⟩, 0)) := by show _ = _; unfold rowTx; rw [if_neg (by omega)]
      generalize f 0 = v at *
      clear h hf
      go_enter Try.func97, Try.ntmps97
      go_wp2
      go_ret2
      rw [E.out]
      exact ⟨rfl, rfl⟩
end Go.Proofs.Ytfkenogbfbbbjaa
