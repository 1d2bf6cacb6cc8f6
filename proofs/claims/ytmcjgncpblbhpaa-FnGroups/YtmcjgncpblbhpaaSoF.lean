/- Merging, whatever the lists (stage 13). -/
import Derived.Test.YtmcjgncpblbhpaaSoE
namespace Go.Proofs.Ytmcjgncpblbhpaa
open Go.RowKit

theorem mrg_all (g N cap n nn : Nat) (k : Cel) (cf : Nat → Nat → Int) (ho : LtO (ltF cf)) (fg : Nat) (cp : Array Value) (hN : n ≤ 4096) : ∀ L, MrgL g N cap n nn k cf fg cp L
  | 0 => fun P s1 s2 S w hL h1 h2 => by omega
  | L + 1 => fun P s1 s2 S w hL h1 h2 hD hn hs p1 p2 hi hF => by
    by_cases e1 : s1.length = 1
    · obtain ⟨x, rfl⟩ : ∃ x, s1 = [x] := List.length_eq_one_iff.1 e1
      refine (sym_one g N cap n nn k cf ho P s2 S x fg cp w hD hn hN hs p2 (fun y hy => hi x (by simp) y hy) hF).mono ?_
      rintro e w' ⟨rfl, hK, s', h3, h4, h5⟩
      exact ⟨rfl, hK, s', h3, h4, h5⟩
    · by_cases e2 : s2.length = 1
      · obtain ⟨y, rfl⟩ : ∃ y, s2 = [y] := List.length_eq_one_iff.1 e2
        refine (sym_last g N cap n nn k cf ho P s1 S y fg cp w hD hn hN (by omega) (fun x hx => hs x (by rcases List.mem_cons.1 hx with rfl | h; exact List.mem_append_right _ (by simp); exact List.mem_append_left _ h)) p1 (fun x hx => hi x hx y (by simp)) hF).mono ?_
        rintro e w' ⟨rfl, hK, s', h3, h4, h5⟩
        exact ⟨rfl, hK, s', h3, h4, h5⟩
      · exact sym_two g N cap n nn k cf ho fg cp hN L (mrg_all g N cap n nn k cf ho fg cp hN L) P s1 s2 S w hL (by omega) (by omega) hD hn hs p1 p2 hi hF
/-- Some of a list, from lo on. -/
def sg (zs : List Nat) (lo len : Nat) : List Nat := (zs.drop lo).take len
/-- Some that lie from lo on, sorted. -/
def Srt (lt : Nat → Nat → Bool) (lo : Nat) (s : List Nat) : Prop := s.Pairwise (RO lt) ∧ ∀ x ∈ s, lo ≤ x ∧ x < lo + s.length
theorem sg_left {P T : List Nat} {lo len : Nat} (h : lo + len ≤ P.length) : sg (P ++ T) lo len = sg P lo len := by
  unfold sg
  rw [List.drop_append_of_le_length (by omega), List.take_append_of_le_length (by rw [List.length_drop]; omega)]
theorem sg_right {P T : List Nat} {lo len : Nat} (h : P.length ≤ lo) : sg (P ++ T) lo len = sg T (lo - P.length) len := by
  unfold sg
  rw [List.drop_append, List.drop_of_length_le h, List.nil_append]
theorem sg_cut (zs : List Nat) (lo len : Nat) : zs = zs.take lo ++ (sg zs lo len ++ zs.drop (lo + len)) := by
  unfold sg
  rw [← List.drop_drop, List.take_append_drop, List.take_append_drop]
theorem sg_len {zs : List Nat} {lo len : Nat} (h : lo + len ≤ zs.length) : (sg zs lo len).length = len := by
  unfold sg
  rw [List.length_take, List.length_drop]; omega
end Go.Proofs.Ytmcjgncpblbhpaa
