/- The law on SortRows (stage 13). -/
import Derived.Test.YtmcjgncpblbhpaaKsK
import Derived.Test.YtmcjgncpblbhpaaPrH
namespace Go.Proofs.Ytmcjgncpblbhpaa
open Go.RowKit

theorem soR_mem {ks : Rs} {ds : List Bool} {rs : Rs} {vs : List V3} (h : vs ∈ soR ks ds rs) : vs ∈ rs ∧ okRs 16 rs = true ∧ ks.length = rs.length := by
  unfold soR at h
  by_cases hc : soC ks ds rs = 0
  · rw [if_pos hc] at h
    have h2 : ks.length = rs.length ∧ okRs 16 ks = true ∧ okRs 16 rs = true ∧ ds.length ≤ 16 := by
      unfold soC at hc
      by_cases h1 : 4096 < ks.length ∨ 4096 < ds.length ∨ 4096 < rs.length
      · rw [if_pos h1] at hc; cases hc
      · rw [if_neg h1] at hc
        by_cases h2 : ks.length = rs.length ∧ okRs 16 ks = true ∧ okRs 16 rs = true ∧ ds.length ≤ 16
        · exact h2
        · rw [if_neg h2] at hc; cases hc
    obtain ⟨x, hx, rfl⟩ := List.mem_map.1 h
    have hlt : x < rs.length := by have := List.mem_range.1 ((srtN_spec ks ds).1.mem_iff.1 hx); omega
    exact ⟨by rw [nthR_get hlt]; exact List.getElem_mem hlt, h2.2.2.1, h2.1⟩
  · rw [if_neg hc] at h; simp at h
theorem soR_len (ks : Rs) (ds : List Bool) (rs : Rs) : (soR ks ds rs).length ≤ 400 := by
  rcases Nat.eq_zero_or_pos (soR ks ds rs).length with h | h
  · omega
  · obtain ⟨h1, h2, h3⟩ := soR_mem (List.getElem_mem h)
    have l4 := (okRs_small h2).1
    unfold soR
    split
    · rw [List.length_map, (srtN_spec ks ds).1.length_eq, List.length_range]; omega
    · simp
theorem soR_small (ks : Rs) (ds : List Bool) (rs : Rs) : SmallR (soR ks ds rs) := by
  refine ⟨by have := soR_len ks ds rs; omega, fun i hi => ?_⟩
  rw [nthR_get hi]
  obtain ⟨h1, h2, _⟩ := soR_mem (List.getElem_mem hi)
  obtain ⟨j, hj, e⟩ := List.getElem_of_mem h1
  have := (okRs_small h2).2 j hj
  rw [nthR_get hj, e] at this
  omega
theorem soR_text {ks : Rs} {ds : List Bool} {rs : Rs} (h : TextR rs) : TextR (soR ks ds rs) := textR_of fun vs hv v hvv => h.mem vs (soR_mem hv).1 v hvv
/-- Flags of the law's own. -/
def SlB (w : World) (lo hi g : Nat) (ds : List Bool) : Prop := lo ≤ g ∧ g < hi ∧ SlabB w g ds.length ds ds.length
theorem SlB.block {w w' : World} {lo hi g : Nat} {ds : List Bool} (h : SlB w lo hi g ds) (hb : ∀ g, lo ≤ g → g < hi → g < w.heap.size → w'.heap[g]? = w.heap[g]?) : SlB w' lo hi g ds := ⟨h.1, h.2.1, h.2.2.at (hb g h.1 h.2.1 h.2.2.lt)⟩
theorem SlB.below {w w' : World} {lo hi g : Nat} {ds : List Bool} (h : SlB w lo hi g ds) (hb : Below w.heap.size w w') : SlB w' lo hi g ds := h.block fun g _ _ hg => hb.block g hg
/-- What has come in the law till marks are made. -/
abbrev StQ (w : World) (l0 l1 l2 l3 l4 l5 : Nat) (ua xa : Option Addr) (gd : Nat) (xc ia : Option Addr) (aa : Rs) (ds : List Bool) (bb rs : Rs) (W : World) : Prop :=
  Below w.heap.size w W ∧ OwnR W l0 l1 ua rs ∧ OwnR W l1 l2 xa aa ∧ SlB W l2 l3 gd ds ∧ OwnR W l3 l4 xc bb ∧ OwnR W l4 l5 ia rs
theorem StQ.keep {w : World} {l0 l1 l2 l3 l4 l5 : Nat} {ua xa : Option Addr} {gd : Nat} {xc ia : Option Addr} {aa : Rs} {ds : List Bool} {bb rs : Rs} {W W' : World} (h : StQ w l0 l1 l2 l3 l4 l5 ua xa gd xc ia aa ds bb rs W) (hb : Below W.heap.size W W') : StQ w l0 l1 l2 l3 l4 l5 ua xa gd xc ia aa ds bb rs W' :=
  ⟨below_step h.1 (Nat.le_refl _) hb, h.2.1.below hb, h.2.2.1.below hb, h.2.2.2.1.below hb, h.2.2.2.2.1.below hb, h.2.2.2.2.2.below hb⟩
set_option maxRecDepth 100000 in
set_option maxHeartbeats 8000000 in
theorem lawSort (a ad b : Option Addr) (ca cd cb : Nat) (aa : Rs) (ds : List Bool) (bb : Rs) (w : World) (ha : RowR w a aa) (hd : BoA w ad ds) (hb : RowR w b bb) (la : aa.length ≤ maxLen) (ld : ds.length ≤ maxLen) (lb : bb.length ≤ maxLen) :
    Calls Try.prog 7 #[.slice a aa.length ca, .slice ad ds.length cd, .slice b bb.length cb] w fun r w' => r = .returned (.bool true) ∧ Below w.heap.size w w' := by
  by_cases hdl : 1048576 < ds.length
  · have hdI : (1048576 : Int) < (ds.length : Int) := by omega
    unfold maxLen at la ld lb
    clear ha hd hb
    generalize aa.length = n at *
    generalize ds.length = m at *
    generalize bb.length = l at *
    go_enter Try.func7, Try.ntmps7
    go_wp2
    go_ret
    exact ⟨rfl, Below.refl _ _⟩
  have hdI : ¬ (1048576 : Int) < (ds.length : Int) := by omega
  have HA : Hid (∀ W, Below w.heap.size w W → RowR W a aa ∧ RowR W b bb ∧ BoA W ad ds) := fun W hW => ⟨ha.below hW, hb.below hW, hd.below hW⟩
  have HT : Hid (TextR aa ∧ TextR bb) := ⟨ha.text, hb.text⟩
  have HDL : Hid (ds.length ≤ 1048576) := by show _ ≤ _; omega
  have Z1 := szR_any a ca aa 1048576 w ha la (by omega) (by omega)
  have HZ2 : Hid (∀ (x : Int), 0 ≤ x → x ≤ 1048576 → ∀ W, Below w.heap.size w W → Calls Try.prog 21 #[.slice b bb.length cb, .int .i64 x] W fun e w' => ∃ r : Int, e = .returned (.int .i64 r) ∧ -1 ≤ r ∧ r ≤ x ∧ (0 ≤ r → SmallR bb) ∧ Below W.heap.size W w') := fun (x : Int) (h0 : 0 ≤ x) (h1 : x ≤ 1048576) W (hW : Below w.heap.size w W) => szR_any b cb bb x W (hb.below hW) lb h0 h1
  unfold maxLen at ld
  clear ha hb la lb hd
  go_enter Try.func7, Try.ntmps7
  go_wp2_with fail
  refine Z1.mono ?_
  rintro e w1 ⟨x, rfl, x0, x1, x2, b1⟩
  have HS1 : Hid (0 ≤ x → SmallR aa) := x2
  clear Z1 x2
  by_cases hx : x < 0
  · go_wp2
    go_ret
    exact ⟨rfl, b1⟩
  have Z2 := HZ2.out x (by omega) x1 w1 b1
  clear HZ2
  go_wp2_with fail
  refine Z2.mono ?_
  rintro e w2 ⟨y, rfl, y0, y1, y2, b2⟩
  have B2 := below_step b1 (Nat.le_refl _) b2
  have HS : Hid (0 ≤ y → SmallR aa ∧ SmallR bb) := fun h => ⟨HS1.out (by omega), y2 h⟩
  clear Z2 y2 HS1 b1 b2
  by_cases hy : y < 0
  · go_wp2
    go_ret
    exact ⟨rfl, B2⟩
  have SS : Hid (SmallR aa ∧ SmallR bb) := HS.out (by omega)
  clear HS
  have TA : Hid (∀ W, Below w.heap.size w W → Calls Try.prog 23 #[.slice a aa.length ca] W fun e w' => ∃ g, e = .returned (.slice (some ⟨g, 0, none⟩) aa.length aa.length) ∧ W.heap.size ≤ g ∧ SlabR w' g aa.length aa aa.length ∧ Below W.heap.size W w') := fun W hW => toR_any a ca aa W (HA.out W hW).1 SS.out.1
  have TB : Hid (∀ W, Below w.heap.size w W → Calls Try.prog 23 #[.slice b bb.length cb] W fun e w' => ∃ g, e = .returned (.slice (some ⟨g, 0, none⟩) bb.length bb.length) ∧ W.heap.size ≤ g ∧ SlabR w' g bb.length bb bb.length ∧ Below W.heap.size W w') := fun W hW => toR_any b cb bb W (HA.out W hW).2.1 SS.out.2
  have TD : Hid (∀ W, Below w.heap.size w W → Calls Try.prog 27 #[.slice ad ds.length cd] W fun e w' => ∃ g, e = .returned (.slice (some ⟨g, 0, none⟩) ds.length ds.length) ∧ W.heap.size ≤ g ∧ SlabB w' g ds.length ds ds.length ∧ Below W.heap.size W w') := fun W hW => toB_any ad cd ds W (HA.out W hW).2.2 HDL.out
  have IM : Hid (∀ W g gd g', RowA W (some ⟨g, 0, none⟩) aa → BoA W (some ⟨gd, 0, none⟩) ds → RowA W (some ⟨g', 0, none⟩) bb → Calls Try.prog 15 #[.slice (some ⟨g, 0, none⟩) aa.length aa.length, .slice (some ⟨gd, 0, none⟩) ds.length ds.length, .slice (some ⟨g', 0, none⟩) bb.length bb.length] W (RetO aa ds bb W)) := fun W g gd g' h hd h' => implSort_any _ _ _ _ _ _ aa ds bb W h hd h' SS.out.1 SS.out.2 HDL.out
  have SP : Hid (∀ W g gd g', RowA W (some ⟨g, 0, none⟩) aa → BoA W (some ⟨gd, 0, none⟩) ds → RowA W (some ⟨g', 0, none⟩) bb → Calls Try.prog 16 #[.slice (some ⟨g, 0, none⟩) aa.length aa.length, .slice (some ⟨gd, 0, none⟩) ds.length ds.length, .slice (some ⟨g', 0, none⟩) bb.length bb.length] W (RetO aa ds bb W)) := fun W g gd g' h hd h' => specSort_any _ _ _ _ _ _ aa ds bb W h hd h' SS.out.1 SS.out.2 HDL.out
  have RT : Hid (TextR (soR aa ds bb) ∧ SmallR (soR aa ds bb)) := ⟨soR_text HT.out.2, soR_small aa ds bb⟩
  unfold RetO at IM SP
  generalize soR aa ds bb = rs at *
  generalize soC aa ds bb = cod at *
  go_wp2_with fail
  refine (TA.out _ B2).mono ?_
  rintro e w3 ⟨g1, rfl, hg1, S1, b3⟩
  have B3 := below_step B2 (Nat.le_refl _) b3
  have A1 : Hid (RowA w3 (some ⟨g1, 0, none⟩) aa) := S1.rowA HT.out.1 SS.out.1
  clear S1 b3 hg1 B2
  go_wp2_with fail
  refine (TD.out _ B3).mono ?_
  rintro e w3a ⟨gd, rfl, hgd, Sd, b3a⟩
  have B3a := below_step B3 (Nat.le_refl _) b3a
  have A1a : Hid (RowA w3a (some ⟨g1, 0, none⟩) aa ∧ BoA w3a (some ⟨gd, 0, none⟩) ds) := ⟨A1.out.below b3a, Sd.boA⟩
  clear Sd b3a hgd B3 A1
  go_wp2_with fail
  refine (TB.out _ B3a).mono ?_
  rintro e w4 ⟨g2, rfl, hg2, S2, b4⟩
  have B4 := below_step B3a (Nat.le_refl _) b4
  have A2 : Hid (RowA w4 (some ⟨g1, 0, none⟩) aa ∧ BoA w4 (some ⟨gd, 0, none⟩) ds ∧ RowA w4 (some ⟨g2, 0, none⟩) bb) := ⟨A1a.out.1.below b4, A1a.out.2.below b4, S2.rowA HT.out.2 SS.out.2⟩
  clear S2 b4 hg2 B3a A1a
  go_wp2_with fail
  refine (SP.out _ _ _ _ A2.out.1 A2.out.2.1 A2.out.2.2).mono ?_
  rintro e w5 ⟨v5, hi5, rfl, O5, b5⟩
  obtain ⟨ua, uc, rfl, Q5⟩ := O5.own
  have B5 := below_step B4 (Nat.le_refl _) b5
  have O5' : Hid (OwnR w5 w4.heap.size w5.heap.size ua rs) := Q5
  have L5 : w.heap.size ≤ w4.heap.size ∧ w4.heap.size ≤ w5.heap.size := ⟨B4.size, b5.size⟩
  clear A2 b5 O5 Q5 B4 SP
  go_wp2_with fail
  refine (TA.out _ B5).mono ?_
  rintro e w6 ⟨g3, rfl, hg3, S3, b6⟩
  have B6 := below_step B5 (Nat.le_refl _) b6
  have L6 := b6.size
  have P6 : Hid (OwnR w6 w4.heap.size w5.heap.size ua rs ∧ OwnR w6 w5.heap.size w6.heap.size (some ⟨g3, 0, none⟩) aa ∧ RowA w6 (some ⟨g3, 0, none⟩) aa) := ⟨O5'.out.below b6, S3.own hg3, S3.rowA HT.out.1 SS.out.1⟩
  clear S3 b6 hg3 B5 O5'
  go_wp2_with fail
  refine (TD.out _ B6).mono ?_
  rintro e w6a ⟨ge, rfl, hge, Se, b6a⟩
  have B6a := below_step B6 (Nat.le_refl _) b6a
  have L6a := b6a.size
  have P6a : Hid (OwnR w6a w4.heap.size w5.heap.size ua rs ∧ OwnR w6a w5.heap.size w6.heap.size (some ⟨g3, 0, none⟩) aa ∧ SlB w6a w6.heap.size w6a.heap.size ge ds ∧ RowA w6a (some ⟨g3, 0, none⟩) aa ∧ BoA w6a (some ⟨ge, 0, none⟩) ds) := ⟨P6.out.1.below b6a, P6.out.2.1.below b6a, ⟨hge, Se.lt, Se⟩, P6.out.2.2.below b6a, Se.boA⟩
  clear Se b6a hge B6 P6
  go_wp2_with fail
  refine (TB.out _ B6a).mono ?_
  rintro e w7 ⟨g4, rfl, hg4, S4, b7⟩
  have B7 := below_step B6a (Nat.le_refl _) b7
  have L7 := b7.size
  have P7 : Hid ((OwnR w7 w4.heap.size w5.heap.size ua rs ∧ OwnR w7 w5.heap.size w6.heap.size (some ⟨g3, 0, none⟩) aa ∧ SlB w7 w6.heap.size w6a.heap.size ge ds ∧ OwnR w7 w6a.heap.size w7.heap.size (some ⟨g4, 0, none⟩) bb) ∧ RowA w7 (some ⟨g3, 0, none⟩) aa ∧ BoA w7 (some ⟨ge, 0, none⟩) ds ∧ RowA w7 (some ⟨g4, 0, none⟩) bb) := ⟨⟨P6a.out.1.below b7, P6a.out.2.1.below b7, P6a.out.2.2.1.below b7, S4.own hg4⟩, P6a.out.2.2.2.1.below b7, P6a.out.2.2.2.2.below b7, S4.rowA HT.out.2 SS.out.2⟩
  clear S4 b7 hg4 B6a P6a
  go_wp2_with fail
  refine (IM.out _ _ _ _ P7.out.2.1 P7.out.2.2.1 P7.out.2.2.2).mono ?_
  rintro e w8 ⟨v8, hi8, rfl, O8, b8⟩
  obtain ⟨ia, ic, rfl, Q8⟩ := O8.own
  have L8 := b8.size
  have P8 : Hid (StQ w w4.heap.size w5.heap.size w6.heap.size w6a.heap.size w7.heap.size w8.heap.size ua (some ⟨g3, 0, none⟩) ge (some ⟨g4, 0, none⟩) ia aa ds bb rs w8) := ⟨below_step B7 (Nat.le_refl _) b8, P7.out.1.1.below b8, P7.out.1.2.1.below b8, P7.out.1.2.2.1.below b8, P7.out.1.2.2.2.below b8, Q8⟩
  clear O8 Q8 b8 B7 P7
  generalize w4.heap.size = l0 at *
  generalize w5.heap.size = l1 at *
  generalize w6.heap.size = l2 at *
  generalize w6a.heap.size = l3 at *
  generalize w7.heap.size = l4 at *
  generalize w8.heap.size = l5 at *
  have EQ : Hid (∀ W a1 a2 c1 c2, OwnR W l4 l5 a1 rs → OwnR W l0 l1 a2 rs → Calls Try.prog 24 #[.slice a1 rs.length c1, .slice a2 rs.length c2] W fun e w' => e = .returned (.bool true) ∧ Below W.heap.size W w') := fun W a1 a2 c1 c2 h1 h2 => eqR_same a1 a2 c1 c2 rs W (h1.row RT.out.1 RT.out.2) (h2.row RT.out.1 RT.out.2) RT.out.2
  go_wp2_with fail
  refine (EQ.out _ _ _ _ _ P8.out.2.2.2.2.2 P8.out.2.1).mono ?_
  rintro e w9 ⟨rfl, b9⟩
  have P9 : Hid (StQ w l0 l1 l2 l3 l4 l5 ua (some ⟨g3, 0, none⟩) ge (some ⟨g4, 0, none⟩) ia aa ds bb rs w9) := P8.out.keep b9
  clear P8 b9
  go_wp2_with fail
  refine (TA.out _ P9.out.1).mono ?_
  rintro e w10 ⟨g5, rfl, hg5, S5, b10⟩
  have P10 : Hid (StQ w l0 l1 l2 l3 l4 l5 ua (some ⟨g3, 0, none⟩) ge (some ⟨g4, 0, none⟩) ia aa ds bb rs w10) := P9.out.keep b10
  have E10 := eqR_same _ _ aa.length aa.length aa w10 (P10.out.2.2.1.row HT.out.1 SS.out.1) (S5.row HT.out.1 SS.out.1) SS.out.1
  clear P9 b10 S5 hg5
  go_wp2_with fail
  refine E10.mono ?_
  rintro e w11 ⟨rfl, b11⟩
  have P11 : Hid (StQ w l0 l1 l2 l3 l4 l5 ua (some ⟨g3, 0, none⟩) ge (some ⟨g4, 0, none⟩) ia aa ds bb rs w11) := P10.out.keep b11
  clear P10 b11 E10
  go_wp2_with fail
  refine (TD.out _ P11.out.1).mono ?_
  rintro e w11a ⟨gf, rfl, hgf, Sf, b11a⟩
  have P11a : Hid (StQ w l0 l1 l2 l3 l4 l5 ua (some ⟨g3, 0, none⟩) ge (some ⟨g4, 0, none⟩) ia aa ds bb rs w11a) := P11.out.keep b11a
  have E11 := eqB_same _ _ ds.length ds.length ds w11a P11a.out.2.2.2.1.2.2.boA Sf.boA HDL.out
  clear P11 b11a Sf hgf
  go_wp2_with fail
  refine E11.mono ?_
  rintro e w11b ⟨rfl, b11b⟩
  have P11b : Hid (StQ w l0 l1 l2 l3 l4 l5 ua (some ⟨g3, 0, none⟩) ge (some ⟨g4, 0, none⟩) ia aa ds bb rs w11b) := P11a.out.keep b11b
  clear P11a b11b E11
  go_wp2_with fail
  refine (TB.out _ P11b.out.1).mono ?_
  rintro e w12 ⟨g6, rfl, hg6, S6, b12⟩
  have P12 : Hid (StQ w l0 l1 l2 l3 l4 l5 ua (some ⟨g3, 0, none⟩) ge (some ⟨g4, 0, none⟩) ia aa ds bb rs w12) := P11b.out.keep b12
  have E12 := eqR_same _ _ bb.length bb.length bb w12 (P12.out.2.2.2.2.1.row HT.out.2 SS.out.2) (S6.row HT.out.2 SS.out.2) SS.out.2
  clear P11b b12 S6 hg6
  go_wp2_with fail
  refine E12.mono ?_
  rintro e w13 ⟨rfl, b13⟩
  have P13 : Hid (StQ w l0 l1 l2 l3 l4 l5 ua (some ⟨g3, 0, none⟩) ge (some ⟨g4, 0, none⟩) ia aa ds bb rs w13) := P12.out.keep b13
  clear P12 b13 E12
  have M1 := markR_any l1 l2 (some ⟨g3, 0, none⟩) aa.length aa 1 w13 P13.out.2.2.1.shp SS.out.1 (by omega) (by omega)
  go_wp2_with fail
  refine M1.mono ?_
  rintro e w14 ⟨rfl, _, K14⟩
  have LW : w.heap.size ≤ w13.heap.size := P13.out.1.size
  have P14 : Hid (Below w.heap.size w w14 ∧ OwnR w14 l0 l1 ua rs ∧ SlB w14 l2 l3 ge ds ∧ OwnR w14 l3 l4 (some ⟨g4, 0, none⟩) bb ∧ OwnR w14 l4 l5 ia rs) := ⟨P13.out.1.trans (K14.below LW (fun x hx => by have := hx.1; omega)), P13.out.2.1.block (K14.outside (.inr (Nat.le_refl _))), P13.out.2.2.2.1.block (K14.outside (.inl (Nat.le_refl _))), P13.out.2.2.2.2.1.block (K14.outside (.inl (by omega))), P13.out.2.2.2.2.2.block (K14.outside (.inl (by omega)))⟩
  obtain ⟨ka1, ka2⟩ := kAt_bd (k := 1) SS.out.1 aa.length (Nat.le_refl _)
  have sla := SS.out.1.1
  clear M1 K14 P13 LW
  generalize kAt 1 aa aa.length = k1 at *
  have Md := markB_any ge ds.length ds.length ds k1 w14 P14.out.2.2.1.2.2 HDL.out (by omega) (by omega)
  have hdl1 := HDL.out
  go_wp2_with fail
  refine Md.mono ?_
  rintro e w14a ⟨rfl, K14a⟩
  have LW : w.heap.size ≤ w14.heap.size := P14.out.1.size
  have hge := P14.out.2.2.1
  have P14a : Hid (Below w.heap.size w w14a ∧ OwnR w14a l0 l1 ua rs ∧ OwnR w14a l3 l4 (some ⟨g4, 0, none⟩) bb ∧ OwnR w14a l4 l5 ia rs) := ⟨P14.out.1.trans (K14a.below LW (fun x hx => by subst hx; have := hge.1; omega)), P14.out.2.1.block (fun g h1 h2 h3 => K14a.block g h3 (fun e => by subst e; have := hge.1; omega)), P14.out.2.2.2.1.block (fun g h1 h2 h3 => K14a.block g h3 (fun e => by subst e; have := hge.2.1; omega)), P14.out.2.2.2.2.block (fun g h1 h2 h3 => K14a.block g h3 (fun e => by subst e; have := hge.2.1; omega))⟩
  clear Md K14a P14 LW hge
  obtain ⟨kd, hkd⟩ : ∃ kd, k1 + (ds.length : Int) = kd := ⟨_, rfl⟩
  rw [hkd]
  have M2 := markR_any l3 l4 (some ⟨g4, 0, none⟩) bb.length bb kd w14a P14a.out.2.2.1.shp SS.out.2 (by omega) (by omega)
  go_wp2_with fail
  refine M2.mono ?_
  rintro e w15 ⟨rfl, _, K15⟩
  have LW : w.heap.size ≤ w14a.heap.size := P14a.out.1.size
  have P15 : Hid (Below w.heap.size w w15 ∧ OwnR w15 l0 l1 ua rs ∧ OwnR w15 l4 l5 ia rs) := ⟨P14a.out.1.trans (K15.below LW (fun x hx => by have := hx.1; omega)), P14a.out.2.1.block (K15.outside (.inr (by omega))), P14a.out.2.2.2.block (K15.outside (.inl (Nat.le_refl _)))⟩
  obtain ⟨kb1, kb2⟩ := kAt_bd (k := kd) SS.out.2 bb.length (Nat.le_refl _)
  clear M2 K15 P14a LW
  generalize kAt kd bb bb.length = k2 at *
  have hk2 : ¬ k2 < 0 := by omega
  clear hkd
  go_wp2_with fail
  refine (EQ.out _ _ _ _ _ P15.out.2.2 P15.out.2.1).mono ?_
  rintro e w16 ⟨rfl, b16⟩
  have P16 : Hid (Below w.heap.size w w16 ∧ OwnR w16 l0 l1 ua rs ∧ OwnR w16 l4 l5 ia rs) := ⟨below_step P15.out.1 (Nat.le_refl _) b16, P15.out.2.1.below b16, P15.out.2.2.below b16⟩
  clear P15 b16
  have M3 := markR_any l4 l5 ia ic rs 1 w16 P16.out.2.2.shp RT.out.2 (by omega) (by omega)
  go_wp2_with fail
  refine M3.mono ?_
  rintro e w17 ⟨rfl, Q17, K17⟩
  have LW : w.heap.size ≤ w16.heap.size := P16.out.1.size
  have P17 : Hid (EnP w l0 l1 l4 l5 ua ia rs w17) := ⟨P16.out.1.trans (K17.below LW (fun x hx => by have := hx.1; omega)), P16.out.2.1.block (K17.outside (.inr (by omega))), Q17⟩
  obtain ⟨kc1, kc2⟩ := kAt_bd (k := 1) RT.out.2 rs.length (Nat.le_refl _)
  have HD : Hid (∀ W, EnP w l0 l1 l4 l5 ua ia rs W → Calls Try.prog 26 #[.slice ia rs.length ic, .int .i64 1] W fun r w' => r = .returned (.int .i64 (kAt 1 rs rs.length)) ∧ Below W.heap.size W w') := fun W hW => heldR_any l4 l5 ia ic rs 1 W hW.2.2 RT.out.2 (by omega) (by omega)
  clear M3 K17 P16 LW Q17
  generalize kAt 1 rs rs.length = k3 at *
  have hk3 : ¬ k3 < 0 := by omega
  go_wp2_with fail
  refine (HD.out _ P17.out).mono ?_
  rintro e w18 ⟨rfl, b18⟩
  have P18 : Hid (EnP w l0 l1 l4 l5 ua ia rs w18) := P17.out.keep b18
  clear P17 b18
  go_wp2_with fail
  refine (TA.out _ P18.out.1).mono ?_
  rintro e w19 ⟨g7, rfl, hg7, S7, b19⟩
  have P19 : Hid (EnP w l0 l1 l4 l5 ua ia rs w19) := P18.out.keep b19
  have A19 : Hid (RowA w19 (some ⟨g7, 0, none⟩) aa) := S7.rowA HT.out.1 SS.out.1
  clear P18 b19 S7 hg7
  go_wp2_with fail
  refine (TD.out _ P19.out.1).mono ?_
  rintro e w19a ⟨gh, rfl, hgh, Sh, b19a⟩
  have P19a : Hid (EnP w l0 l1 l4 l5 ua ia rs w19a) := P19.out.keep b19a
  have A19a : Hid (RowA w19a (some ⟨g7, 0, none⟩) aa ∧ BoA w19a (some ⟨gh, 0, none⟩) ds) := ⟨A19.out.below b19a, Sh.boA⟩
  clear P19 b19a Sh hgh A19
  go_wp2_with fail
  refine (TB.out _ P19a.out.1).mono ?_
  rintro e w20 ⟨g8, rfl, hg8, S8, b20⟩
  have P20 : Hid (EnP w l0 l1 l4 l5 ua ia rs w20) := P19a.out.keep b20
  have A20 : Hid (RowA w20 (some ⟨g7, 0, none⟩) aa ∧ BoA w20 (some ⟨gh, 0, none⟩) ds ∧ RowA w20 (some ⟨g8, 0, none⟩) bb) := ⟨A19a.out.1.below b20, A19a.out.2.below b20, S8.rowA HT.out.2 SS.out.2⟩
  clear P19a b20 S8 hg8 A19a
  go_wp2_with fail
  refine (IM.out _ _ _ _ A20.out.1 A20.out.2.1 A20.out.2.2).mono ?_
  rintro e w21 ⟨v21, hi21, rfl, O21, b21⟩
  obtain ⟨ha, hc, rfl, Q21⟩ := O21.own
  have P21 : Hid (EnP w l0 l1 l4 l5 ua ia rs w21) := P20.out.keep b21
  have E21 := eqR_same ha ua hc uc rs w21 (Q21.row RT.out.1 RT.out.2) (P21.out.2.1.row RT.out.1 RT.out.2) RT.out.2
  clear P20 b21 O21 Q21 A20
  go_wp2_with fail
  refine E21.mono ?_
  rintro e w22 ⟨rfl, b22⟩
  have P22 : Hid (EnP w l0 l1 l4 l5 ua ia rs w22) := P21.out.keep b22
  clear P21 b22 E21
  go_wp2_with fail
  refine (HD.out _ P22.out).mono ?_
  rintro e w23 ⟨rfl, b23⟩
  have hE := below_step P22.out.1 (Nat.le_refl _) b23
  go_wp2
  go_ret
  exact ⟨rfl, hE⟩
end Go.Proofs.Ytmcjgncpblbhpaa
