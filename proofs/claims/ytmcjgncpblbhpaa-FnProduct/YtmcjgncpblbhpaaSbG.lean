/- The specification's SameBag, and the law on it, walked (stage 13). -/
import Derived.Test.YtmcjgncpblbhpaaSbF
import Derived.Test.YtmcjgncpblbhpaaPrH
namespace Go.Proofs.Ytmcjgncpblbhpaa
open Go.RowKit

set_option maxRecDepth 100000 in
set_option maxHeartbeats 8000000 in
theorem specSame_any (g1 g2 ca cb : Nat) (aa bb : Rs) (w : World) (ha : RowA w (some ⟨g1, 0, none⟩) aa) (hb : RowA w (some ⟨g2, 0, none⟩) bb) (sa : SmallR aa) (sb : SmallR bb) (l2 : g2 < w.heap.size) :
    Calls Try.prog 36 #[.slice (some ⟨g1, 0, none⟩) aa.length ca, .slice (some ⟨g2, 0, none⟩) bb.length cb] w (RetB aa bb w) := by
  have la := sa.1
  have lb := sb.1
  by_cases h1 : 4096 < aa.length ∨ 4096 < bb.length
  · have HC : Hid (sbC aa bb = 2) := if_pos h1
    clear ha hb sa sb
    generalize aa.length = n at *
    generalize bb.length = m at *
    by_cases h2 : 4096 < n
    · have h2I : (4096 : Int) < (n : Int) := by omega
      go_enter Try.func36, Try.ntmps36
      go_wp2
      go_ret2
      exact RetB.bad HC.out (by omega) (Below.refl _ _)
    · have h2I : ¬ (4096 : Int) < (n : Int) := by omega
      have h3I : (4096 : Int) < (m : Int) := by omega
      go_enter Try.func36, Try.ntmps36
      go_wp2
      go_ret2
      exact RetB.bad HC.out (by omega) (Below.refl _ _)
  have A1 := l13Rows_any 16 (some ⟨g1, 0, none⟩) ca aa w ha.row sa (by omega)
  have A2 := fun W (hW : Below w.heap.size w W) => l13Rows_any 16 (some ⟨g2, 0, none⟩) cb bb W (hb.row.below hW) sb (by omega)
  have HC0 : Hid (sbC aa bb = if okRs 16 aa = true ∧ okRs 16 bb = true then 0 else 1) := if_neg h1
  have PF : Hid (okRs 16 aa = true → okRs 16 bb = true → ∀ W, Below w.heap.size w W → Calls Try.prog 66 #[.slice (some ⟨g1, 0, none⟩) aa.length ca, .slice (some ⟨g2, 0, none⟩) bb.length cb] W (RetL aa bb W)) := fun p1 p2 W hW => l13Same_any g1 g2 ca cb aa bb W (ha.below hW) (hb.below hW) (small16 p1).1 (small16 p2).1 (small16 p1).2 (small16 p2).2 (Nat.lt_of_lt_of_le l2 hW.size)
  have hn : ¬ (4096 : Int) < (aa.length : Int) := by omega
  have hm : ¬ (4096 : Int) < (bb.length : Int) := by omega
  clear ha hb sa sb h1
  cases o1 : okRs 16 aa with
  | false =>
    have HC : Hid (sbC aa bb = 1) := by show _ = _; rw [HC0.out, o1]; simp
    rw [o1] at A1
    clear A2 HC0 PF o1
    generalize aa.length = n at *
    generalize bb.length = m at *
    go_enter Try.func36, Try.ntmps36
    go_wp2_with (go_at_call 49; refine A1.mono ?_; rintro e w1 ⟨rfl, b1⟩)
    go_ret2
    exact RetB.bad HC.out (by omega) b1
  | true =>
    cases o2 : okRs 16 bb with
    | false =>
      have HC : Hid (sbC aa bb = 1) := by show _ = _; rw [HC0.out, o2]; simp
      rw [o1] at A1
      rw [o2] at A2
      clear HC0 PF o1 o2
      generalize aa.length = n at *
      generalize bb.length = m at *
      go_enter Try.func36, Try.ntmps36
      go_wp2_with (first | (go_at_call 49; refine A1.mono ?_; rintro e w1 ⟨rfl, b1⟩; clear A1) | (go_at_call 49; refine (A2 _ b1).mono ?_; rintro e w2 ⟨rfl, b2⟩))
      go_ret2
      exact RetB.bad HC.out (by omega) (below_step b1 (Nat.le_refl _) b2)
    | true =>
      have HC : Hid (sbC aa bb = 0) := by show _ = _; rw [HC0.out, o1, o2]; simp
      have PP : Hid (∀ W, Below w.heap.size w W → Calls Try.prog 66 #[.slice (some ⟨g1, 0, none⟩) aa.length ca, .slice (some ⟨g2, 0, none⟩) bb.length cb] W (RetL aa bb W)) := PF.out o1 o2
      rw [o1] at A1
      rw [o2] at A2
      clear HC0 PF o1 o2
      generalize aa.length = n at *
      generalize bb.length = m at *
      go_enter Try.func36, Try.ntmps36
      go_wp2_with (first | (go_at_call 49; refine A1.mono ?_; rintro e w1 ⟨rfl, b1⟩; clear A1) | (go_at_call 49; refine (A2 _ b1).mono ?_; rintro e w2 ⟨rfl, b2⟩; clear A2; have B2 := below_step b1 (Nat.le_refl _) b2; clear b1 b2) | (go_at_call 66; refine (PP.out _ B2).mono ?_; rintro e w3 ⟨x, rfl, hx, b3⟩; have HX : Hid (x = true ↔ aa.Perm bb) := hx; clear hx PP; have B3 := below_step B2 (Nat.le_refl _) b3))
      go_ret2
      exact RetB.good HC.out HX.out B3
set_option maxRecDepth 100000 in
set_option maxHeartbeats 8000000 in
theorem lawSame (a b : Option Addr) (ca cb : Nat) (aa bb : Rs) (w : World) (ha : RowR w a aa) (hb : RowR w b bb) (la : aa.length ≤ maxLen) (lb : bb.length ≤ maxLen) :
    Calls Try.prog 9 #[.slice a aa.length ca, .slice b bb.length cb] w fun r w' => r = .returned (.bool true) ∧ Below w.heap.size w w' := by
  have HA : Hid (∀ W, Below w.heap.size w W → RowR W a aa ∧ RowR W b bb) := fun W hW => ⟨ha.below hW, hb.below hW⟩
  have HT : Hid (TextR aa ∧ TextR bb) := ⟨ha.text, hb.text⟩
  have Z1 := szR_any a ca aa 1048576 w ha la (by omega) (by omega)
  have HZ2 : Hid (∀ (x : Int), 0 ≤ x → x ≤ 1048576 → ∀ W, Below w.heap.size w W → Calls Try.prog 21 #[.slice b bb.length cb, .int .i64 x] W fun e w' => ∃ r : Int, e = .returned (.int .i64 r) ∧ -1 ≤ r ∧ r ≤ x ∧ (0 ≤ r → SmallR bb) ∧ Below W.heap.size W w') := fun x h0 h1 W hW => szR_any b cb bb x W (hb.below hW) lb h0 h1
  clear ha hb la lb
  go_enter Try.func9, Try.ntmps9
  go_wp2_with fail
  refine Z1.mono ?_
  rintro e w1 ⟨x, rfl, x0, x1, x2, b1⟩
  have HS1 : Hid (0 ≤ x → SmallR aa) := x2
  clear Z1 x2
  by_cases hx : x < 0
  · go_wp2
    go_ret
    exact ⟨rfl, b1⟩
  have Z2 := HZ2.out x (by omega) x1 w1 b1
  clear HZ2
  go_wp2_with fail
  refine Z2.mono ?_
  rintro e w2 ⟨y, rfl, y0, y1, y2, b2⟩
  have B2 := below_step b1 (Nat.le_refl _) b2
  have HS : Hid (0 ≤ y → SmallR aa ∧ SmallR bb) := fun h => ⟨HS1.out (by omega), y2 h⟩
  clear Z2 y2 HS1 b1 b2
  by_cases hy : y < 0
  · go_wp2
    go_ret
    exact ⟨rfl, B2⟩
  have SS : Hid (SmallR aa ∧ SmallR bb) := HS.out (by omega)
  clear HS
  have TA : Hid (∀ W, Below w.heap.size w W → Calls Try.prog 23 #[.slice a aa.length ca] W fun e w' => ∃ g, e = .returned (.slice (some ⟨g, 0, none⟩) aa.length aa.length) ∧ W.heap.size ≤ g ∧ SlabR w' g aa.length aa aa.length ∧ Below W.heap.size W w') := fun W hW => toR_any a ca aa W (HA.out W hW).1 SS.out.1
  have TB : Hid (∀ W, Below w.heap.size w W → Calls Try.prog 23 #[.slice b bb.length cb] W fun e w' => ∃ g, e = .returned (.slice (some ⟨g, 0, none⟩) bb.length bb.length) ∧ W.heap.size ≤ g ∧ SlabR w' g bb.length bb bb.length ∧ Below W.heap.size W w') := fun W hW => toR_any b cb bb W (HA.out W hW).2 SS.out.2
  have IM : Hid (∀ W g g', RowA W (some ⟨g, 0, none⟩) aa → RowA W (some ⟨g', 0, none⟩) bb → g < W.heap.size → g' < W.heap.size → Calls Try.prog 13 #[.slice (some ⟨g, 0, none⟩) aa.length aa.length, .slice (some ⟨g', 0, none⟩) bb.length bb.length] W (RetB aa bb W)) := fun W g g' h h' l l' => implSame_any g g' _ _ aa bb W h h' SS.out.1 SS.out.2 l l'
  have SP : Hid (∀ W g g', RowA W (some ⟨g, 0, none⟩) aa → RowA W (some ⟨g', 0, none⟩) bb → g' < W.heap.size → Calls Try.prog 36 #[.slice (some ⟨g, 0, none⟩) aa.length aa.length, .slice (some ⟨g', 0, none⟩) bb.length bb.length] W (RetB aa bb W)) := fun W g g' h h' l' => specSame_any g g' _ _ aa bb W h h' SS.out.1 SS.out.2 l'
  unfold RetB at IM SP
  generalize sbR aa bb = rs at *
  generalize sbC aa bb = cod at *
  go_wp2_with fail
  refine (TA.out _ B2).mono ?_
  rintro e w3 ⟨g1, rfl, hg1, S1, b3⟩
  have B3 := below_step B2 (Nat.le_refl _) b3
  have A1 : Hid (SlabR w3 g1 aa.length aa aa.length) := S1
  clear S1 b3 hg1 B2
  go_wp2_with fail
  refine (TB.out _ B3).mono ?_
  rintro e w4 ⟨g2, rfl, hg2, S2, b4⟩
  have B4 := below_step B3 (Nat.le_refl _) b4
  have A2 : Hid (SlabR w4 g1 aa.length aa aa.length ∧ SlabR w4 g2 bb.length bb bb.length) := ⟨A1.out.below b4, S2⟩
  clear S2 b4 hg2 B3 A1
  go_wp2_with fail
  refine (SP.out _ _ _ (A2.out.1.rowA HT.out.1 SS.out.1) (A2.out.2.rowA HT.out.2 SS.out.2) A2.out.2.lt).mono ?_
  rintro e w5 ⟨rfl, b5⟩
  have B5 := below_step B4 (Nat.le_refl _) b5
  clear A2 b5 B4 SP
  go_wp2_with fail
  refine (TA.out _ B5).mono ?_
  rintro e w6 ⟨g3, rfl, hg3, S3, b6⟩
  have B6 := below_step B5 (Nat.le_refl _) b6
  have P6 : Hid (SlabR w6 g3 aa.length aa aa.length) := S3
  clear S3 b6 hg3 B5
  go_wp2_with fail
  refine (TB.out _ B6).mono ?_
  rintro e w7 ⟨g4, rfl, hg4, S4, b7⟩
  have B7 := below_step B6 (Nat.le_refl _) b7
  have P7 : Hid (SlabR w7 g3 aa.length aa aa.length ∧ SlabR w7 g4 bb.length bb bb.length) := ⟨P6.out.below b7, S4⟩
  clear S4 b7 hg4 B6 P6
  go_wp2_with fail
  refine (IM.out _ _ _ (P7.out.1.rowA HT.out.1 SS.out.1) (P7.out.2.rowA HT.out.2 SS.out.2) P7.out.1.lt P7.out.2.lt).mono ?_
  rintro e w8 ⟨rfl, b8⟩
  have B8 := below_step B7 (Nat.le_refl _) b8
  have P8 : Hid (SlabR w8 g3 aa.length aa aa.length ∧ SlabR w8 g4 bb.length bb bb.length) := ⟨P7.out.1.below b8, P7.out.2.below b8⟩
  clear b8 B7 P7 IM
  go_wp2_with fail
  refine (TA.out _ B8).mono ?_
  rintro e w10 ⟨g5, rfl, hg5, S5, b10⟩
  have B10 := below_step B8 (Nat.le_refl _) b10
  have P10 : Hid (SlabR w10 g3 aa.length aa aa.length ∧ SlabR w10 g4 bb.length bb bb.length) := ⟨P8.out.1.below b10, P8.out.2.below b10⟩
  have E10 := eqR_same _ _ aa.length aa.length aa w10 (P10.out.1.row HT.out.1 SS.out.1) (S5.row HT.out.1 SS.out.1) SS.out.1
  clear P8 b10 S5 hg5 B8
  go_wp2_with fail
  refine E10.mono ?_
  rintro e w11 ⟨rfl, b11⟩
  have B11 := below_step B10 (Nat.le_refl _) b11
  have P11 : Hid (SlabR w11 g4 bb.length bb bb.length) := P10.out.2.below b11
  clear P10 b11 E10 B10
  go_wp2_with fail
  refine (TB.out _ B11).mono ?_
  rintro e w12 ⟨g6, rfl, hg6, S6, b12⟩
  have B12 := below_step B11 (Nat.le_refl _) b12
  have E12 := eqR_same _ _ bb.length bb.length bb w12 ((P11.out.below b12).row HT.out.2 SS.out.2) (S6.row HT.out.2 SS.out.2) SS.out.2
  clear P11 b12 S6 hg6 B11
  go_wp2_with fail
  refine E12.mono ?_
  rintro e w13 ⟨rfl, b13⟩
  have B13 := below_step B12 (Nat.le_refl _) b13
  clear E12 b13 B12
  go_wp2
  go_ret
  exact ⟨rfl, B13⟩
end Go.Proofs.Ytmcjgncpblbhpaa
