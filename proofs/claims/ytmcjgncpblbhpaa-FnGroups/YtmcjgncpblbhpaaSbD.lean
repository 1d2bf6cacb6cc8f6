/- impl's SameBag, and what both answer (stage 13). -/
import Derived.Test.YtmcjgncpblbhpaaSbC
namespace Go.Proofs.Ytmcjgncpblbhpaa
open Go.RowKit

/-- What SameBag answers. -/
def RetB (aa bb : Rs) (w : World) (r : Ending) (w' : World) : Prop := r = .returned (.tuple #[.bool (sbR aa bb), .int .i64 (sbC aa bb)]) ∧ Below w.heap.size w w'
theorem RetB.bad {aa bb : Rs} {w w' : World} {c : Int} (hc : sbC aa bb = c) (h : c ≠ 0) (hb : Below w.heap.size w w') : RetB aa bb w (.returned (.tuple #[.bool false, .int .i64 c])) w' := by
  refine ⟨?_, hb⟩
  have : sbR aa bb = false := by unfold sbR; exact decide_eq_false (fun h2 => h (hc.symm.trans h2.1))
  rw [this, hc]
theorem RetB.good {aa bb : Rs} {w w' : World} {x : Bool} (hc : sbC aa bb = 0) (h : x = true ↔ aa.Perm bb) (hb : Below w.heap.size w w') : RetB aa bb w (.returned (.tuple #[.bool x, .int .i64 0])) w' := by
  refine ⟨?_, hb⟩
  have : sbR aa bb = x := by
    unfold sbR
    cases x with
    | true => exact decide_eq_true ⟨hc, h.1 rfl⟩
    | false => exact decide_eq_false (fun h2 => by have := h.2 h2.2; cases this)
  rw [this, hc]
theorem small16 {rs : Rs} (h : okRs 16 rs = true) : rs.length ≤ 400 ∧ ∀ i, i < rs.length → (nthR rs i).length ≤ 4096 := ⟨(okRs_small h).1, fun i hi => by have := (okRs_small h).2 i hi; omega⟩
set_option maxRecDepth 100000 in
set_option maxHeartbeats 8000000 in
theorem implSame_any (g1 g2 ca cb : Nat) (aa bb : Rs) (w : World) (ha : RowA w (some ⟨g1, 0, none⟩) aa) (hb : RowA w (some ⟨g2, 0, none⟩) bb) (sa : SmallR aa) (sb : SmallR bb) (l1 : g1 < w.heap.size) (l2 : g2 < w.heap.size) :
    Calls Try.prog 13 #[.slice (some ⟨g1, 0, none⟩) aa.length ca, .slice (some ⟨g2, 0, none⟩) bb.length cb] w (RetB aa bb w) := by
  have la := sa.1
  have lb := sb.1
  by_cases h1 : 4096 < aa.length ∨ 4096 < bb.length
  · have HC : Hid (sbC aa bb = 2) := if_pos h1
    clear ha hb sa sb
    generalize aa.length = n at *
    generalize bb.length = m at *
    by_cases h2 : 4096 < n
    · have h2I : (4096 : Int) < (n : Int) := by omega
      go_enter Try.func13, Try.ntmps13
      go_wp2
      go_ret2
      exact RetB.bad HC.out (by omega) (Below.refl _ _)
    · have h2I : ¬ (4096 : Int) < (n : Int) := by omega
      have h3I : (4096 : Int) < (m : Int) := by omega
      go_enter Try.func13, Try.ntmps13
      go_wp2
      go_ret2
      exact RetB.bad HC.out (by omega) (Below.refl _ _)
  have A1 := rowsOK_any 16 aa (some ⟨g1, 0, none⟩) ca w ha.row sa
  have A2 := fun W (hW : Below w.heap.size w W) => rowsOK_any 16 bb (some ⟨g2, 0, none⟩) cb W (hb.row.below hW) sb
  have HC0 : Hid (sbC aa bb = if okRs 16 aa = true ∧ okRs 16 bb = true then 0 else 1) := if_neg h1
  have PF : Hid (okRs 16 aa = true → okRs 16 bb = true → ∀ W, Below w.heap.size w W → (Calls Try.prog 42 #[.slice (some ⟨g1, 0, none⟩) aa.length ca, .func (.func 43) #[] #[]] W fun e w' => ∃ a c ts, e = .returned (.slice a aa.length c) ∧ SrtR aa ts ∧ ts.length = aa.length ∧ RowR w' a ts ∧ Below W.heap.size W w') ∧ (Calls Try.prog 42 #[.slice (some ⟨g2, 0, none⟩) bb.length cb, .func (.func 43) #[] #[]] W fun e w' => ∃ a c ts, e = .returned (.slice a bb.length c) ∧ SrtR bb ts ∧ ts.length = bb.length ∧ RowR w' a ts ∧ Below W.heap.size W w')) := fun p1 p2 W hW => ⟨sortedBy_any g1 0 ca aa W (ha.below hW) (small16 p1).1 (small16 p1).2 (Nat.lt_of_lt_of_le l1 hW.size), sortedBy_any g2 0 cb bb W (hb.below hW) (small16 p2).1 (small16 p2).2 (Nat.lt_of_lt_of_le l2 hW.size)⟩
  have hn : ¬ (4096 : Int) < (aa.length : Int) := by omega
  have hm : ¬ (4096 : Int) < (bb.length : Int) := by omega
  clear ha hb sa sb h1
  cases o1 : okRs 16 aa with
  | false =>
    have HC : Hid (sbC aa bb = 1) := by show _ = _; rw [HC0.out, o1]; simp
    rw [o1] at A1
    clear A2 HC0 PF o1
    generalize aa.length = n at *
    generalize bb.length = m at *
    go_enter Try.func13, Try.ntmps13
    go_wp2_with (go_at_call 39; refine A1.mono ?_; rintro e w1 ⟨rfl, b1⟩)
    go_ret2
    exact RetB.bad HC.out (by omega) b1
  | true =>
    cases o2 : okRs 16 bb with
    | false =>
      have HC : Hid (sbC aa bb = 1) := by show _ = _; rw [HC0.out, o2]; simp
      rw [o1] at A1
      rw [o2] at A2
      clear HC0 PF o1 o2
      generalize aa.length = n at *
      generalize bb.length = m at *
      go_enter Try.func13, Try.ntmps13
      go_wp2_with (first | (go_at_call 39; refine A1.mono ?_; rintro e w1 ⟨rfl, b1⟩; clear A1) | (go_at_call 39; refine (A2 _ b1).mono ?_; rintro e w2 ⟨rfl, b2⟩))
      go_ret2
      exact RetB.bad HC.out (by omega) (below_step b1 (Nat.le_refl _) b2)
    | true =>
      have HC : Hid (sbC aa bb = 0) := by show _ = _; rw [HC0.out, o1, o2]; simp
      have PP : Hid (∀ W, Below w.heap.size w W → (Calls Try.prog 42 #[.slice (some ⟨g1, 0, none⟩) aa.length ca, .func (.func 43) #[] #[]] W fun e w' => ∃ a c ts, e = .returned (.slice a aa.length c) ∧ SrtR aa ts ∧ ts.length = aa.length ∧ RowR w' a ts ∧ Below W.heap.size W w') ∧ (Calls Try.prog 42 #[.slice (some ⟨g2, 0, none⟩) bb.length cb, .func (.func 43) #[] #[]] W fun e w' => ∃ a c ts, e = .returned (.slice a bb.length c) ∧ SrtR bb ts ∧ ts.length = bb.length ∧ RowR w' a ts ∧ Below W.heap.size W w')) := PF.out o1 o2
      have hn4 := (small16 o1).1
      have HEq : Hid (∀ (ta tb : Rs) a1 c1 a2 c2 W, SrtR aa ta → SrtR bb tb → ta.length = aa.length → tb.length = bb.length → RowR W a1 ta → RowR W a2 tb → Calls Try.prog 41 #[.slice a1 aa.length c1, .slice a2 bb.length c2, .func (.func 44) #[] #[]] W fun e w' => (∃ x : Bool, e = .returned (.bool x) ∧ (x = true ↔ aa.Perm bb)) ∧ Below W.heap.size W w') := fun ta tb a1 c1 a2 c2 W s1 s2 e1 e2 r1 r2 => by
        have := equalFunc_any a1 a2 c1 c2 ta tb W r1 r2 (by omega)
        rw [e1, e2] at this
        refine this.mono ?_
        rintro e w' ⟨rfl, hb⟩
        exact ⟨⟨_, rfl, srt_same s1 s2⟩, hb⟩
      rw [o1] at A1
      rw [o2] at A2
      clear HC0 PF o1 o2 hn4
      generalize aa.length = n at *
      generalize bb.length = m at *
      go_enter Try.func13, Try.ntmps13
      go_wp2_with (first | (go_at_call 39; refine A1.mono ?_; rintro e w1 ⟨rfl, b1⟩; clear A1) | (go_at_call 39; refine (A2 _ b1).mono ?_; rintro e w2 ⟨rfl, b2⟩; clear A2; have B2 := below_step b1 (Nat.le_refl _) b2; clear b1 b2) | fail)
      go_wp2_with fail
      refine (PP.out _ B2).1.mono ?_
      rintro e w3 ⟨a3, c3, t3, rfl, s3, e3, r3, b3⟩
      have B3 := below_step B2 (Nat.le_refl _) b3
      have H3 : Hid (SrtR aa t3 ∧ t3.length = n ∧ RowR w3 a3 t3) := ⟨s3, e3, r3⟩
      clear s3 e3 r3 b3 B2
      go_wp2_with fail
      refine (PP.out _ B3).2.mono ?_
      rintro e w4 ⟨a4, c4, t4, rfl, s4, e4, r4, b4⟩
      have B4 := below_step B3 (Nat.le_refl _) b4
      have C5 := HEq.out t3 t4 a3 c3 a4 c4 w4 H3.out.1 s4 H3.out.2.1 e4 (H3.out.2.2.below b4) r4
      clear s4 e4 r4 b4 B3 H3 PP HEq
      go_wp2_with fail
      refine C5.mono ?_
      rintro e w5 ⟨⟨x, rfl, hx⟩, b5⟩
      have B5 := below_step B4 (Nat.le_refl _) b5
      have HX : Hid (x = true ↔ aa.Perm bb) := hx
      clear C5 hx b5 B4
      go_wp2
      go_ret2
      exact RetB.good HC.out HX.out B5
end Go.Proofs.Ytmcjgncpblbhpaa
