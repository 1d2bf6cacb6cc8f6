/- The law on ProductRows, walked (stage 13). -/
import Derived.Test.YtmcjgncpblbhpaaPrG
namespace Go.Proofs.Ytmcjgncpblbhpaa
open Go.RowKit

theorem text_all {vs : List V3} : (∀ j, j < vs.length → (nthV vs j).2.2.size ≤ maxLen) ↔ ∀ v ∈ vs, v.2.2.size ≤ maxLen := by
  constructor
  · intro h v hv
    obtain ⟨i, hi, rfl⟩ := List.getElem_of_mem hv
    have := h i hi
    rwa [nthV_get hi] at this
  · intro h j hj
    rw [nthV_get hj]
    exact h _ (List.getElem_mem hj)
theorem TextR.mem {rs : Rs} (h : TextR rs) : ∀ vs ∈ rs, ∀ v ∈ vs, v.2.2.size ≤ maxLen := fun vs hv => by
  obtain ⟨i, hi, rfl⟩ := List.getElem_of_mem hv
  have := h i hi
  rw [nthR_get hi] at this
  exact text_all.1 this
theorem textR_of {rs : Rs} (h : ∀ vs ∈ rs, ∀ v ∈ vs, v.2.2.size ≤ maxLen) : TextR rs := fun i hi => by
  rw [nthR_get hi]
  exact text_all.2 (h _ (List.getElem_mem hi))
theorem mem_prod {aa bb : Rs} {vs : List V3} (h : vs ∈ prodL aa bb) : ∃ x ∈ aa, ∃ y ∈ bb, vs = x ++ y := by
  unfold prodL at h
  obtain ⟨x, hx, h2⟩ := List.mem_flatMap.1 h
  obtain ⟨y, hy, e⟩ := List.mem_map.1 h2
  exact ⟨x, hx, y, hy, e.symm⟩
theorem mem_pr {aa bb : Rs} {vs : List V3} (h : vs ∈ prR aa bb) : ∃ x ∈ aa, ∃ y ∈ bb, vs = x ++ y := by
  unfold prR at h
  split at h
  · exact mem_prod h
  · simp at h
theorem prR_text {aa bb : Rs} (ha : TextR aa) (hb : TextR bb) : TextR (prR aa bb) := textR_of fun vs hv v hvv => by
  obtain ⟨x, hx, y, hy, rfl⟩ := mem_pr hv
  rcases List.mem_append.1 hvv with h | h
  · exact ha.mem x hx v h
  · exact hb.mem y hy v h
theorem prC_zero {aa bb : Rs} (h : prC aa bb = 0) : FitR aa bb := by
  unfold prC at h
  by_cases h1 : 4096 < aa.length ∨ 4096 < bb.length
  · rw [if_pos h1] at h; cases h
  rw [if_neg h1] at h
  by_cases h2 : okRs 8 aa = true ∧ okRs 8 bb = true
  · rw [if_pos h2] at h
    by_cases h3 : 400 < aa.length * bb.length
    · rw [if_pos h3] at h; cases h
    · exact fit_of h2.1 h2.2 h3
  · rw [if_neg h2] at h; cases h
theorem prR_small (aa bb : Rs) : SmallR (prR aa bb) := by
  by_cases hc : prC aa bb = 0
  · have hf := prC_zero hc
    have e : prR aa bb = prodL aa bb := if_pos hc
    rw [e]
    refine ⟨by rw [prodL_len]; have := hf.2.2.1; omega, fun i hi => ?_⟩
    rw [nthR_get hi]
    obtain ⟨x, hx, y, hy, e2⟩ := mem_prod (List.getElem_mem hi)
    rw [e2, List.length_append]
    obtain ⟨p, hp, rfl⟩ := List.getElem_of_mem hx
    obtain ⟨q, hq, rfl⟩ := List.getElem_of_mem hy
    have h1 := hf.2.2.2.1 p hp
    have h2 := hf.2.2.2.2 q hq
    rw [nthR_get hp] at h1
    rw [nthR_get hq] at h2
    omega
  · have e : prR aa bb = [] := if_neg hc
    rw [e]
    exact ⟨by simp, fun i hi => by simp at hi⟩
theorem Kept.outside {lo hi lo' hi' : Nat} {w w' : World} (h : Kept (Rng lo hi) w w') (hd : hi ≤ lo' ∨ hi' ≤ lo) : ∀ g, lo' ≤ g → g < hi' → g < w.heap.size → w'.heap[g]? = w.heap[g]? :=
  fun g h1 h2 h3 => h.block g h3 (fun hr => by have := hr.1; have := hr.2; omega)
/-- What has come in the law till marks are made: the other answer, copies, and impl's answer. -/
abbrev StP (w : World) (l0 h0 l1 h1 l2 h2 l3 h3 : Nat) (ua xa ya ia : Option Addr) (aa bb rs : Rs) (W : World) : Prop :=
  Below w.heap.size w W ∧ OwnR W l0 h0 ua rs ∧ OwnR W l1 h1 xa aa ∧ OwnR W l2 h2 ya bb ∧ OwnR W l3 h3 ia rs
theorem StP.keep {w : World} {l0 h0 l1 h1 l2 h2 l3 h3 : Nat} {ua xa ya ia : Option Addr} {aa bb rs : Rs} {W W' : World} (h : StP w l0 h0 l1 h1 l2 h2 l3 h3 ua xa ya ia aa bb rs W) (hb : Below W.heap.size W W') : StP w l0 h0 l1 h1 l2 h2 l3 h3 ua xa ya ia aa bb rs W' :=
  ⟨below_step h.1 (Nat.le_refl _) hb, h.2.1.below hb, h.2.2.1.below hb, h.2.2.2.1.below hb, h.2.2.2.2.below hb⟩
/-- Behind the marks on the answer. -/
abbrev EnP (w : World) (l0 h0 l3 h3 : Nat) (ua ia : Option Addr) (rs : Rs) (W : World) : Prop := Below w.heap.size w W ∧ OwnR W l0 h0 ua rs ∧ MkR W l3 h3 ia rs 1
theorem EnP.keep {w : World} {l0 h0 l3 h3 : Nat} {ua ia : Option Addr} {rs : Rs} {W W' : World} (h : EnP w l0 h0 l3 h3 ua ia rs W) (hb : Below W.heap.size W W') : EnP w l0 h0 l3 h3 ua ia rs W' :=
  ⟨below_step h.1 (Nat.le_refl _) hb, h.2.1.below hb, h.2.2.below hb⟩
set_option maxRecDepth 100000 in
set_option maxHeartbeats 8000000 in
theorem lawProduct (a b : Option Addr) (ca cb : Nat) (aa bb : Rs) (w : World) (ha : RowR w a aa) (hb : RowR w b bb) (la : aa.length ≤ maxLen) (lb : bb.length ≤ maxLen) :
    Calls Try.prog 6 #[.slice a aa.length ca, .slice b bb.length cb] w fun r w' => r = .returned (.bool true) ∧ Below w.heap.size w w' := by
  have HA : Hid (∀ W, Below w.heap.size w W → RowR W a aa ∧ RowR W b bb) := fun W hW => ⟨ha.below hW, hb.below hW⟩
  have HT : Hid (TextR aa ∧ TextR bb) := ⟨ha.text, hb.text⟩
  have Z1 := szR_any a ca aa 1048576 w ha la (by omega) (by omega)
  have Z2 := fun (x : Int) (h0 : 0 ≤ x) (h1 : x ≤ 1048576) W (hW : Below w.heap.size w W) => szR_any b cb bb x W (hb.below hW) lb h0 h1
  have HZ2 : Hid (∀ (x : Int), 0 ≤ x → x ≤ 1048576 → ∀ W, Below w.heap.size w W → Calls Try.prog 21 #[.slice b bb.length cb, .int .i64 x] W fun e w' => ∃ r : Int, e = .returned (.int .i64 r) ∧ -1 ≤ r ∧ r ≤ x ∧ (0 ≤ r → SmallR bb) ∧ Below W.heap.size W w') := Z2
  clear Z2 ha hb la lb
  go_enter Try.func6, Try.ntmps6
  go_wp2_with fail
  refine Z1.mono ?_
  rintro e w1 ⟨x, rfl, x0, x1, x2, b1⟩
  have HS1 : Hid (0 ≤ x → SmallR aa) := x2
  clear Z1 x2
  by_cases hx : x < 0
  · go_wp2
    go_ret
    exact ⟨rfl, b1⟩
  have Z2 := HZ2.out x (by omega) x1 w1 b1
  clear HZ2
  go_wp2_with fail
  refine Z2.mono ?_
  rintro e w2 ⟨y, rfl, y0, y1, y2, b2⟩
  have B2 := below_step b1 (Nat.le_refl _) b2
  have HS : Hid (0 ≤ y → SmallR aa ∧ SmallR bb) := fun h => ⟨HS1.out (by omega), y2 h⟩
  clear Z2 y2 HS1 b1 b2
  by_cases hy : y < 0
  · go_wp2
    go_ret
    exact ⟨rfl, B2⟩
  have SS : Hid (SmallR aa ∧ SmallR bb) := HS.out (by omega)
  clear HS
  have TA : Hid (∀ W, Below w.heap.size w W → Calls Try.prog 23 #[.slice a aa.length ca] W fun e w' => ∃ g, e = .returned (.slice (some ⟨g, 0, none⟩) aa.length aa.length) ∧ W.heap.size ≤ g ∧ SlabR w' g aa.length aa aa.length ∧ Below W.heap.size W w') := fun W hW => toR_any a ca aa W (HA.out W hW).1 SS.out.1
  have TB : Hid (∀ W, Below w.heap.size w W → Calls Try.prog 23 #[.slice b bb.length cb] W fun e w' => ∃ g, e = .returned (.slice (some ⟨g, 0, none⟩) bb.length bb.length) ∧ W.heap.size ≤ g ∧ SlabR w' g bb.length bb bb.length ∧ Below W.heap.size W w') := fun W hW => toR_any b cb bb W (HA.out W hW).2 SS.out.2
  have IM : Hid (∀ W g g', RowA W (some ⟨g, 0, none⟩) aa → RowA W (some ⟨g', 0, none⟩) bb → Calls Try.prog 11 #[.slice (some ⟨g, 0, none⟩) aa.length aa.length, .slice (some ⟨g', 0, none⟩) bb.length bb.length] W (RetP aa bb W)) := fun W g g' h h' => implProduct_any _ _ _ _ aa bb W h h' SS.out.1 SS.out.2
  have SP : Hid (∀ W g g', RowA W (some ⟨g, 0, none⟩) aa → RowA W (some ⟨g', 0, none⟩) bb → Calls Try.prog 22 #[.slice (some ⟨g, 0, none⟩) aa.length aa.length, .slice (some ⟨g', 0, none⟩) bb.length bb.length] W (RetP aa bb W)) := fun W g g' h h' => specProduct_any _ _ _ _ aa bb W h h' SS.out.1 SS.out.2
  have RT : Hid (TextR (prR aa bb) ∧ SmallR (prR aa bb)) := ⟨prR_text HT.out.1 HT.out.2, prR_small aa bb⟩
  unfold RetP at IM SP
  generalize prR aa bb = rs at *
  generalize prC aa bb = cod at *
  go_wp2_with fail
  refine (TA.out _ B2).mono ?_
  rintro e w3 ⟨g1, rfl, hg1, S1, b3⟩
  have B3 := below_step B2 (Nat.le_refl _) b3
  have A1 : Hid (RowA w3 (some ⟨g1, 0, none⟩) aa) := S1.rowA HT.out.1 SS.out.1
  clear S1 b3 hg1 B2
  go_wp2_with fail
  refine (TB.out _ B3).mono ?_
  rintro e w4 ⟨g2, rfl, hg2, S2, b4⟩
  have B4 := below_step B3 (Nat.le_refl _) b4
  have A2 : Hid (RowA w4 (some ⟨g1, 0, none⟩) aa ∧ RowA w4 (some ⟨g2, 0, none⟩) bb) := ⟨A1.out.below b4, S2.rowA HT.out.2 SS.out.2⟩
  clear S2 b4 hg2 B3 A1
  go_wp2_with fail
  refine (SP.out _ _ _ A2.out.1 A2.out.2).mono ?_
  rintro e w5 ⟨v5, hi5, rfl, O5, b5⟩
  obtain ⟨ua, uc, rfl, Q5⟩ := O5.own
  have B5 := below_step B4 (Nat.le_refl _) b5
  have O5' : Hid (OwnR w5 w4.heap.size w5.heap.size ua rs) := Q5
  have L5 : w.heap.size ≤ w4.heap.size ∧ w4.heap.size ≤ w5.heap.size := ⟨B4.size, b5.size⟩
  clear A2 b5 O5 Q5 B4 SP
  go_wp2_with fail
  refine (TA.out _ B5).mono ?_
  rintro e w6 ⟨g3, rfl, hg3, S3, b6⟩
  have B6 := below_step B5 (Nat.le_refl _) b6
  have L6 := b6.size
  have P6 : Hid (OwnR w6 w4.heap.size w5.heap.size ua rs ∧ OwnR w6 w5.heap.size w6.heap.size (some ⟨g3, 0, none⟩) aa ∧ RowA w6 (some ⟨g3, 0, none⟩) aa) := ⟨O5'.out.below b6, S3.own hg3, S3.rowA HT.out.1 SS.out.1⟩
  clear S3 b6 hg3 B5 O5'
  go_wp2_with fail
  refine (TB.out _ B6).mono ?_
  rintro e w7 ⟨g4, rfl, hg4, S4, b7⟩
  have B7 := below_step B6 (Nat.le_refl _) b7
  have L7 := b7.size
  have P7 : Hid ((OwnR w7 w4.heap.size w5.heap.size ua rs ∧ OwnR w7 w5.heap.size w6.heap.size (some ⟨g3, 0, none⟩) aa ∧ OwnR w7 w6.heap.size w7.heap.size (some ⟨g4, 0, none⟩) bb) ∧ RowA w7 (some ⟨g3, 0, none⟩) aa ∧ RowA w7 (some ⟨g4, 0, none⟩) bb) := ⟨⟨P6.out.1.below b7, P6.out.2.1.below b7, S4.own hg4⟩, P6.out.2.2.below b7, S4.rowA HT.out.2 SS.out.2⟩
  clear S4 b7 hg4 B6 P6
  go_wp2_with fail
  refine (IM.out _ _ _ P7.out.2.1 P7.out.2.2).mono ?_
  rintro e w8 ⟨v8, hi8, rfl, O8, b8⟩
  obtain ⟨ia, ic, rfl, Q8⟩ := O8.own
  have L8 := b8.size
  have P8 : Hid (StP w w4.heap.size w5.heap.size w5.heap.size w6.heap.size w6.heap.size w7.heap.size w7.heap.size w8.heap.size ua (some ⟨g3, 0, none⟩) (some ⟨g4, 0, none⟩) ia aa bb rs w8) := ⟨below_step B7 (Nat.le_refl _) b8, P7.out.1.1.below b8, P7.out.1.2.1.below b8, P7.out.1.2.2.below b8, Q8⟩
  clear O8 Q8 b8 B7 P7
  generalize w4.heap.size = l0 at *
  generalize w5.heap.size = l1 at *
  generalize w6.heap.size = l2 at *
  generalize w7.heap.size = l3 at *
  generalize w8.heap.size = l4 at *
  have EQ : Hid (∀ W a1 a2 c1 c2, OwnR W l3 l4 a1 rs → OwnR W l0 l1 a2 rs → Calls Try.prog 24 #[.slice a1 rs.length c1, .slice a2 rs.length c2] W fun e w' => e = .returned (.bool true) ∧ Below W.heap.size W w') := fun W a1 a2 c1 c2 h1 h2 => eqR_same a1 a2 c1 c2 rs W (h1.row RT.out.1 RT.out.2) (h2.row RT.out.1 RT.out.2) RT.out.2
  go_wp2_with fail
  refine (EQ.out _ _ _ _ _ P8.out.2.2.2.2 P8.out.2.1).mono ?_
  rintro e w9 ⟨rfl, b9⟩
  have P9 : Hid (StP w l0 l1 l1 l2 l2 l3 l3 l4 ua (some ⟨g3, 0, none⟩) (some ⟨g4, 0, none⟩) ia aa bb rs w9) := P8.out.keep b9
  clear P8 b9
  go_wp2_with fail
  refine (TA.out _ P9.out.1).mono ?_
  rintro e w10 ⟨g5, rfl, hg5, S5, b10⟩
  have P10 : Hid (StP w l0 l1 l1 l2 l2 l3 l3 l4 ua (some ⟨g3, 0, none⟩) (some ⟨g4, 0, none⟩) ia aa bb rs w10) := P9.out.keep b10
  have E10 := eqR_same _ _ aa.length aa.length aa w10 (P10.out.2.2.1.row HT.out.1 SS.out.1) (S5.row HT.out.1 SS.out.1) SS.out.1
  clear P9 b10 S5 hg5
  go_wp2_with fail
  refine E10.mono ?_
  rintro e w11 ⟨rfl, b11⟩
  have P11 : Hid (StP w l0 l1 l1 l2 l2 l3 l3 l4 ua (some ⟨g3, 0, none⟩) (some ⟨g4, 0, none⟩) ia aa bb rs w11) := P10.out.keep b11
  clear P10 b11 E10
  go_wp2_with fail
  refine (TB.out _ P11.out.1).mono ?_
  rintro e w12 ⟨g6, rfl, hg6, S6, b12⟩
  have P12 : Hid (StP w l0 l1 l1 l2 l2 l3 l3 l4 ua (some ⟨g3, 0, none⟩) (some ⟨g4, 0, none⟩) ia aa bb rs w12) := P11.out.keep b12
  have E12 := eqR_same _ _ bb.length bb.length bb w12 (P12.out.2.2.2.1.row HT.out.2 SS.out.2) (S6.row HT.out.2 SS.out.2) SS.out.2
  clear P11 b12 S6 hg6
  go_wp2_with fail
  refine E12.mono ?_
  rintro e w13 ⟨rfl, b13⟩
  have P13 : Hid (StP w l0 l1 l1 l2 l2 l3 l3 l4 ua (some ⟨g3, 0, none⟩) (some ⟨g4, 0, none⟩) ia aa bb rs w13) := P12.out.keep b13
  clear P12 b13 E12
  have M1 := markR_any l1 l2 (some ⟨g3, 0, none⟩) aa.length aa 1 w13 P13.out.2.2.1.shp SS.out.1 (by omega) (by omega)
  go_wp2_with fail
  refine M1.mono ?_
  rintro e w14 ⟨rfl, _, K14⟩
  have LW : w.heap.size ≤ w13.heap.size := P13.out.1.size
  have P14 : Hid (Below w.heap.size w w14 ∧ OwnR w14 l0 l1 ua rs ∧ OwnR w14 l2 l3 (some ⟨g4, 0, none⟩) bb ∧ OwnR w14 l3 l4 ia rs) := ⟨P13.out.1.trans (K14.below LW (fun x hx => by have := hx.1; omega)), P13.out.2.1.block (K14.outside (.inr (Nat.le_refl _))), P13.out.2.2.2.1.block (K14.outside (.inl (Nat.le_refl _))), P13.out.2.2.2.2.block (K14.outside (.inl (by omega)))⟩
  obtain ⟨ka1, ka2⟩ := kAt_bd (k := 1) SS.out.1 aa.length (Nat.le_refl _)
  have sla := SS.out.1.1
  clear M1 K14 P13 LW
  generalize kAt 1 aa aa.length = k1 at *
  have M2 := markR_any l2 l3 (some ⟨g4, 0, none⟩) bb.length bb k1 w14 P14.out.2.2.1.shp SS.out.2 (by omega) (by omega)
  go_wp2_with fail
  refine M2.mono ?_
  rintro e w15 ⟨rfl, _, K15⟩
  have LW : w.heap.size ≤ w14.heap.size := P14.out.1.size
  have P15 : Hid (Below w.heap.size w w15 ∧ OwnR w15 l0 l1 ua rs ∧ OwnR w15 l3 l4 ia rs) := ⟨P14.out.1.trans (K15.below LW (fun x hx => by have := hx.1; omega)), P14.out.2.1.block (K15.outside (.inr (by omega))), P14.out.2.2.2.block (K15.outside (.inl (Nat.le_refl _)))⟩
  obtain ⟨kb1, kb2⟩ := kAt_bd (k := k1) SS.out.2 bb.length (Nat.le_refl _)
  clear M2 K15 P14 LW
  generalize kAt k1 bb bb.length = k2 at *
  have hk2 : ¬ k2 < 0 := by omega
  go_wp2_with fail
  refine (EQ.out _ _ _ _ _ P15.out.2.2 P15.out.2.1).mono ?_
  rintro e w16 ⟨rfl, b16⟩
  have P16 : Hid (Below w.heap.size w w16 ∧ OwnR w16 l0 l1 ua rs ∧ OwnR w16 l3 l4 ia rs) := ⟨below_step P15.out.1 (Nat.le_refl _) b16, P15.out.2.1.below b16, P15.out.2.2.below b16⟩
  clear P15 b16
  have M3 := markR_any l3 l4 ia ic rs 1 w16 P16.out.2.2.shp RT.out.2 (by omega) (by omega)
  go_wp2_with fail
  refine M3.mono ?_
  rintro e w17 ⟨rfl, Q17, K17⟩
  have LW : w.heap.size ≤ w16.heap.size := P16.out.1.size
  have P17 : Hid (EnP w l0 l1 l3 l4 ua ia rs w17) := ⟨P16.out.1.trans (K17.below LW (fun x hx => by have := hx.1; omega)), P16.out.2.1.block (K17.outside (.inr (by omega))), Q17⟩
  obtain ⟨kc1, kc2⟩ := kAt_bd (k := 1) RT.out.2 rs.length (Nat.le_refl _)
  have HD : Hid (∀ W, EnP w l0 l1 l3 l4 ua ia rs W → Calls Try.prog 26 #[.slice ia rs.length ic, .int .i64 1] W fun r w' => r = .returned (.int .i64 (kAt 1 rs rs.length)) ∧ Below W.heap.size W w') := fun W hW => heldR_any l3 l4 ia ic rs 1 W hW.2.2 RT.out.2 (by omega) (by omega)
  clear M3 K17 P16 LW Q17
  generalize kAt 1 rs rs.length = k3 at *
  have hk3 : ¬ k3 < 0 := by omega
  go_wp2_with fail
  refine (HD.out _ P17.out).mono ?_
  rintro e w18 ⟨rfl, b18⟩
  have P18 : Hid (EnP w l0 l1 l3 l4 ua ia rs w18) := P17.out.keep b18
  clear P17 b18
  go_wp2_with fail
  refine (TA.out _ P18.out.1).mono ?_
  rintro e w19 ⟨g7, rfl, hg7, S7, b19⟩
  have P19 : Hid (EnP w l0 l1 l3 l4 ua ia rs w19) := P18.out.keep b19
  have A19 : Hid (RowA w19 (some ⟨g7, 0, none⟩) aa) := S7.rowA HT.out.1 SS.out.1
  clear P18 b19 S7 hg7
  go_wp2_with fail
  refine (TB.out _ P19.out.1).mono ?_
  rintro e w20 ⟨g8, rfl, hg8, S8, b20⟩
  have P20 : Hid (EnP w l0 l1 l3 l4 ua ia rs w20) := P19.out.keep b20
  have A20 : Hid (RowA w20 (some ⟨g7, 0, none⟩) aa ∧ RowA w20 (some ⟨g8, 0, none⟩) bb) := ⟨A19.out.below b20, S8.rowA HT.out.2 SS.out.2⟩
  clear P19 b20 S8 hg8 A19
  go_wp2_with fail
  refine (IM.out _ _ _ A20.out.1 A20.out.2).mono ?_
  rintro e w21 ⟨v21, hi21, rfl, O21, b21⟩
  obtain ⟨ha, hc, rfl, Q21⟩ := O21.own
  have P21 : Hid (EnP w l0 l1 l3 l4 ua ia rs w21) := P20.out.keep b21
  have E21 := eqR_same ha ua hc uc rs w21 (Q21.row RT.out.1 RT.out.2) (P21.out.2.1.row RT.out.1 RT.out.2) RT.out.2
  clear P20 b21 O21 Q21 A20
  go_wp2_with fail
  refine E21.mono ?_
  rintro e w22 ⟨rfl, b22⟩
  have P22 : Hid (EnP w l0 l1 l3 l4 ua ia rs w22) := P21.out.keep b22
  clear P21 b22 E21
  go_wp2_with fail
  refine (HD.out _ P22.out).mono ?_
  rintro e w23 ⟨rfl, b23⟩
  have hE := below_step P22.out.1 (Nat.le_refl _) b23
  go_wp2
  go_ret
  exact ⟨rfl, hE⟩
end Go.Proofs.Ytmcjgncpblbhpaa
