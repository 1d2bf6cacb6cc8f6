/- The specification's reader: some bytes. -/
import Derived.Test.YtfkenogbfbbbjaaRdE
import Derived.Laws.OwnMore
namespace Go.Proofs.Ytfkenogbfbbbjaa
open Go.RowKit

/-- What 'take' leaves. -/
def takeS (n k : Nat) (s : Nat × Bool) : Nat × Bool := if s.2 = true ∨ n < s.1 + k then (s.1, true) else (s.1 + k, false)
/-- The bytes that 'take' gives, and how many. -/
def takeF (f : Nat → Int) (n k : Nat) (s : Nat × Bool) : Nat → Int := if s.2 = true ∨ n < s.1 + k then (fun _ => 0) else shB f s.1
def takeN (n k : Nat) (s : Nat × Bool) : Nat := if s.2 = true ∨ n < s.1 + k then min k 8 else k

/-- Zero bytes, made. -/
theorem zeros_read {w : World} {B g l : Nat} (h : w.ownsRow B 5 1 (.slice (some ⟨g, 0, none⟩) l l) l (List.replicate l (.int .u8 0))) : ReadB w (some ⟨g, 0, none⟩) l (fun _ => 0) := fun i hi => by
  rcases h.2 with ⟨e, _⟩ | ⟨g', cap, cur, e, _, hh, _, _, hcs, htk⟩
  · cases e
  · cases e
    refine ⟨g, 0, rfl, ?_, ?_⟩
    · rcases Nat.lt_or_ge g w.heap.size with h' | h'
      · exact h'
      · rw [Array.getElem?_eq_none h'] at hh; cases hh
    · rw [rowCell hh, Nat.zero_add]
      have h1 : (cur.toList.take (l * 1))[i]? = some (.int .u8 0) := by rw [htk]; simp [hi]
      rw [List.getElem?_take_of_lt (by omega)] at h1
      simpa using h1

set_option maxRecDepth 100000 in
set_option maxHeartbeats 4000000 in
theorem take_any (rb b off n c k : Nat) (f : Nat → Int) (s : Nat × Bool) (w : World) (h : Rdr w rb (some ⟨b, off, none⟩) n c s) (hr : ReadB w (some ⟨b, off, none⟩) n f) (hne : b ≠ rb) (hn : n ≤ 65536) (hc : n ≤ c) (hk : k ≤ 255) (hs : s.1 ≤ n) :
    Calls Try.prog 93 #[.pointer (some ⟨rb, 0, none⟩), .int .i64 (k : Nat)] w fun e w' => ∃ a' c', e = .returned (.slice a' (takeN n k s) c') ∧ ReadB w' a' (takeN n k s) (takeF f n k s) ∧ Rdr w' rb (some ⟨b, off, none⟩) n c (takeS n k s) ∧ But rb w w' := by
  have HR : Hid (Rdr w rb (some ⟨b, off, none⟩) n c s) := h
  have HB : Hid (ReadB w (some ⟨b, off, none⟩) n f) := hr
  have z0 := h.c0
  have z1 := h.c1
  have z2 := h.c2
  have f1 := h.free 1
  have f2 := h.free 2
  obtain ⟨i0, hi, hz0, hz1, hz2⟩ := info_parts info5
  clear h hr
  obtain ⟨o, bad⟩ := s
  simp only at z1 z2 hs
  have hkI : ¬ (k : Int) < 0 := by omega
  have hkd : decide ((k : Int) < 0) = false := decide_eq_false hkI
  have HMX : Hid (max 0 (min (k : Int) 8) = ((min k 8 : Nat) : Int)) := by show _ = _; omega
  have hwr : IntKind.i64.wrap ((o : Int) + (k : Int)) = (o : Int) + (k : Int) := by rw [wrap_i64]; unfold wrap64; omega
  cases bad with
  | true =>
    have E1 : Hid (takeS n k (o, true) = (o, true)) := by show _ = _; unfold takeS; rw [if_pos (.inl rfl)]
    have E2 : Hid (takeF f n k (o, true) = fun _ => 0) := by show _ = _; unfold takeF; rw [if_pos (.inl rfl)]
    have E3 : Hid (takeN n k (o, true) = min k 8) := by show _ = _; unfold takeN; rw [if_pos (.inl rfl)]
    go_enter Try.func93, Try.ntmps93
    go_wp2_with fail
    go_quiet (fail)
    go_wp2_with (at_make; refine wpList_make_full _ rfl _ _ 22 rfl w.heap.size 5 i0 _ 1 Try.underlying22 hi hz0 hz1 .i64 .i64 _ _ (min k 8) rfl rfl HMX.out HMX.out ?m1 ?m2 ?m3 ?_)
    case m1 => rw [hz2]; omega
    case m2 => unfold maxLen; omega
    case m3 => simp [World.setCell]
    intro w1 hown hgr
    have hB : But rb w w1 := But.trans (((But.refl _ _).drewN _).setCell _ _) (But.of_below ((Below.refl _ _).grown hgr (Nat.le_refl _) (fun k hk => by cases hk)))
    have hD : Rdr w1 rb (some ⟨b, off, none⟩) n c (o, true) := Rdr.below (HR.out.drewN _).bad ((Below.refl _ _).grown hgr (Nat.le_refl _) (fun k hk => by cases hk))
    rw [toList_madeCells_one] at hown
    have HZ : Hid (ReadB w1 _ (min k 8) (fun _ => 0)) := zeros_read hown
    clear hown hgr hi hz0 hz1 hz2
    go_wp2
    go_ret
    rw [E1.out, E2.out, E3.out]
    exact ⟨_, _, rfl, HZ.out, hD, hB⟩
  | false =>
    by_cases ho : n < o + k
    · have hoI : (n : Int) < (o : Int) + (k : Int) := by omega
      have E1 : Hid (takeS n k (o, false) = (o, true)) := by show _ = _; unfold takeS; rw [if_pos (.inr ho)]
      have E2 : Hid (takeF f n k (o, false) = fun _ => 0) := by show _ = _; unfold takeF; rw [if_pos (.inr ho)]
      have E3 : Hid (takeN n k (o, false) = min k 8) := by show _ = _; unfold takeN; rw [if_pos (.inr ho)]
      go_enter Try.func93, Try.ntmps93
      go_wp2_with fail
      go_quiet (fail)
      go_wp2_with (at_make; refine wpList_make_full _ rfl _ _ 22 rfl w.heap.size 5 i0 _ 1 Try.underlying22 hi hz0 hz1 .i64 .i64 _ _ (min k 8) rfl rfl HMX.out HMX.out ?m1 ?m2 ?m3 ?_)
      case m1 => rw [hz2]; omega
      case m2 => unfold maxLen; omega
      case m3 => simp [World.setCell]
      intro w1 hown hgr
      have hB : But rb w w1 := But.trans (((But.refl _ _).drewN _).setCell _ _) (But.of_below ((Below.refl _ _).grown hgr (Nat.le_refl _) (fun k hk => by cases hk)))
      have hD : Rdr w1 rb (some ⟨b, off, none⟩) n c (o, true) := Rdr.below (HR.out.drewN _).bad ((Below.refl _ _).grown hgr (Nat.le_refl _) (fun k hk => by cases hk))
      rw [toList_madeCells_one] at hown
      have HZ : Hid (ReadB w1 _ (min k 8) (fun _ => 0)) := zeros_read hown
      clear hown hgr hi hz0 hz1 hz2
      go_wp2
      go_ret
      rw [E1.out, E2.out, E3.out]
      exact ⟨_, _, rfl, HZ.out, hD, hB⟩
    · have E1 : Hid (takeS n k (o, false) = (o + k, false)) := by show _ = _; unfold takeS; rw [if_neg (by simp; omega)]
      have E2 : Hid (takeF f n k (o, false) = shB f o) := by show _ = _; unfold takeF; rw [if_neg (by simp; omega)]
      have E3 : Hid (takeN n k (o, false) = k) := by show _ = _; unfold takeN; rw [if_neg (by simp; omega)]
      have hoI : ¬ (n : Int) < (o : Int) + (k : Int) := by omega
      have hsub : (o : Int) + (k : Int) - (k : Int) = (o : Int) := by omega
      have hok : (o : Int) ≤ (o : Int) + (k : Int) := by omega
      clear hi hz0 hz1 hz2
      go_enter Try.func93, Try.ntmps93
      go_wp2_with fail
      go_quiet (fail)
      go_wp2_with fail
      by_cases hco : c = o
      · go_quiet (fail)
        go_wp2
        go_ret
        rw [E1.out, E2.out, E3.out]
        refine ⟨_, _, ret_val (by rw [Nat.add_sub_cancel_left]; rfl), ?_, ?_, ?_⟩
        · intro i hi; omega
        · exact HR.out.go (o + k)
        · exact ((((But.refl _ _).drewN _).setCell _ _).drewN _)
      · go_quiet (fail)
        go_wp2
        go_ret
        rw [E1.out, E2.out, E3.out]
        refine ⟨_, _, ret_val (by rw [Nat.add_sub_cancel_left]; rfl), ?_, ?_, ?_⟩
        · have hb1 := HB.out.cut (k := o) rfl
          intro i hi
          obtain ⟨b', off', e, hlt, hcc⟩ := hb1 i (by omega)
          cases e
          refine ⟨b, off + o, rfl, by simpa [World.setCell] using hlt, ?_⟩
          have hB := (But.refl rb w).setCell 1 (.int .i64 ((o : Int) + (k : Int)))
          exact (hB.cell (p := ⟨b, off + o + i, none⟩) hlt hne).trans hcc
        · exact HR.out.go (o + k)
        · exact ((((But.refl _ _).drewN _).setCell _ _).drewN _)
end Go.Proofs.Ytfkenogbfbbbjaa
