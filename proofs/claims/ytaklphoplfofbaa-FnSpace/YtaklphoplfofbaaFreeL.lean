/- The law on SpaceFree, walked (stage 4). -/
import Derived.Test.YtaklphoplfofbaaMark
import Derived.Test.YtaklphoplfofbaaOkL
import Derived.Test.YtaklphoplfofbaaNewA
namespace Go.Proofs.Ytaklphoplfofbaa
open Go.RowKit

theorem OwnI.blk {w : World} {B : Nat} {v : Value} {l : List Int} (h : OwnI w B v l) {j : Nat} (hj : v.ownBlock = some j) : B ≤ j ∧ j < w.heap.size := by
  rcases h.2 with ⟨rfl, _⟩ | ⟨g, cap, cur, rfl, hB, hh, _⟩
  · cases hj
  · cases hj; exact ⟨hB, slab_lt hh⟩
theorem OwnI.kept {S : Nat → Prop} {w w' : World} {B : Nat} {v : Value} {l : List Int} (h : OwnI w B v l) (hK : Kept S w w') (hS : ∀ j, v.ownBlock = some j → ¬ S j) : OwnI w' B v l := by
  refine ⟨h.1, ?_⟩
  rcases h.2 with h' | ⟨g, cap, cur, rfl, hB, hh, r⟩
  · exact .inl h'
  · exact .inr ⟨g, cap, cur, rfl, hB, (hK.block g (slab_lt hh) (hS g rfl)).trans hh, r⟩
theorem eqI_own {w : World} {B B' : Nat} {v v' : Value} {l : List Int} (h : OwnI w B v l) (h' : OwnI w B' v' l) (hl : l.length ≤ 64) : Calls Try.prog 26 #[v, v'] w fun r w' => r = .returned (.bool true) ∧ Below w.heap.size w w' := by
  obtain ⟨a, c, rfl, r, _⟩ := h.row
  obtain ⟨a', c', rfl, r', _⟩ := h'.row
  exact eqI_same a a' c c' l w r r' (by omega)
theorem heldI_own {w : World} {B : Nat} {v : Value} {n : Nat} (h : OwnI w B v (marksL 1 n)) (hn : n ≤ 64) : Calls Try.prog 28 #[v, .int .i64 1] w fun r w' => r = .returned (.int .i64 (1 + n)) ∧ w' = w := by
  obtain ⟨a, c, rfl, r, _⟩ := h.row
  rw [marksL_len]
  exact heldI_marks a n c 1 w r (by omega) (by omega) (by omega)
theorem markI_own {w : World} {B : Nat} {v : Value} {l : List Int} (h : OwnI w B v l) (hl : l.length ≤ 64) :
    Calls Try.prog 27 #[v, .int .i64 1] w fun r w' => r = .returned (.int .i64 (1 + l.length)) ∧ OwnI w' B v (marksL 1 l.length) ∧ Kept (fun j => v.ownBlock = some j) w w' := by
  rcases h.2 with ⟨rfl, hn⟩ | ⟨g, cap, cur, rfl, hB, hh, hc, hm, hs, ht⟩
  · rw [hn]
    refine (markI_nil none 0 1 w).mono ?_
    rintro r w' ⟨rfl, rfl⟩
    exact ⟨rfl, ⟨rfl, .inl ⟨rfl, rfl⟩⟩, Kept.refl _ _⟩
  · refine (markI_slab g l.length cap (cap * 1) cur 1 w hh hs (by omega) (by omega) (by omega) (by omega)).mono ?_
    rintro r w' ⟨rfl, ⟨cur', hh', hs', hv⟩, hK⟩
    refine ⟨rfl, ⟨by simp [marksL], .inr ⟨g, cap, cur', by rw [marksL_len], hB, hh', by rw [marksL_len]; exact hc, hm, hs', ?_⟩⟩, hK.mono fun j hj => by rw [hj]; rfl⟩
    rw [marksL_len]
    apply List.ext_getElem?
    intro i
    by_cases hi : i < l.length
    · rw [List.getElem?_take_of_lt (by omega), Array.getElem?_toList, hv i hi, List.getElem?_map, List.getElem?_eq_getElem (by rw [marksL_len]; exact hi)]
      simp [marksL]
    · have hsz : cur'.size = cap := by omega
      rw [List.getElem?_eq_none (by rw [List.length_take]; omega), List.getElem?_eq_none (by rw [List.length_map, marksL_len]; omega)]

abbrev StF (w : World) (b x : Nat) (t e : Int) (a1 a2 a3 : Option Addr) (c1 c2 c3 g1 g2 g3 : Nat) (ss : List Int) (ps : List P2) (qs : List Int) (Bs : Nat) (vs : Value) (Bi : Nat) (vi : Value) (L : List Int) (w' : World) : Prop :=
  BoxS b t e (.slice a1 ss.length c1) (.slice a2 ps.length c2) (.slice a3 qs.length c3) w' ∧ BoxS x t e (fullS g1 ss.length) (fullS g2 ps.length) (fullS g3 qs.length) w' ∧
  RowsIn a1 a2 a3 ss ps qs w' ∧ (SlabI w' g1 ss.length ss ss.length ∧ SlabP w' g2 ps.length ps ps.length ∧ SlabI w' g3 qs.length qs qs.length) ∧ OwnI w' Bs vs L ∧ OwnI w' Bi vi L ∧ Below w.heap.size w w'
theorem StF.keep {w : World} {b x : Nat} {t e : Int} {a1 a2 a3 : Option Addr} {c1 c2 c3 g1 g2 g3 : Nat} {ss : List Int} {ps : List P2} {qs : List Int} {Bs : Nat} {vs : Value} {Bi : Nat} {vi : Value} {L : List Int} {w1 w2 : World} (h : StF w b x t e a1 a2 a3 c1 c2 c3 g1 g2 g3 ss ps qs Bs vs Bi vi L w1) (hb : Below w1.heap.size w1 w2) : StF w b x t e a1 a2 a3 c1 c2 c3 g1 g2 g3 ss ps qs Bs vs Bi vi L w2 :=
  ⟨h.1.below hb h.1.2.2.2.2.2, h.2.1.below hb h.2.1.2.2.2.2.2, h.2.2.1.below hb, ⟨h.2.2.2.1.1.below hb h.2.2.2.1.1.lt, h.2.2.2.1.2.1.below hb h.2.2.2.1.2.1.lt, h.2.2.2.1.2.2.below hb h.2.2.2.1.2.2.lt⟩, h.2.2.2.2.1.below hb, h.2.2.2.2.2.1.below hb, below_step h.2.2.2.2.2.2 (Nat.le_refl _) hb⟩

set_option maxRecDepth 100000 in
set_option maxHeartbeats 8000000 in
theorem lawSpaceFree (t e : Int) (a1 a2 a3 : Option Addr) (c1 c2 c3 : Nat) (ss : List Int) (ps : List P2) (qs : List Int) (w : World) (h1 : RowI w a1 ss) (h2 : RowP w a2 ps) (h3 : RowI w a3 qs) (m1 : ss.length ≤ maxLen) (m2 : ps.length ≤ maxLen) (m3 : qs.length ≤ maxLen) :
    Calls Try.prog 6 #[SV t e (.slice a1 ss.length c1) (.slice a2 ps.length c2) (.slice a3 qs.length c3)] w fun r w' => r = .returned (.bool true) ∧ Below w.heap.size w w' := by
  have H : Hid (RowsIn a1 a2 a3 ss ps qs w) := ⟨h1, h2, h3⟩
  have M1 : Hid (ss.length ≤ maxLen) := m1
  have M2 : Hid (ps.length ≤ maxLen) := m2
  have M3 : Hid (qs.length ≤ maxLen) := m3
  clear h1 h2 h3 m1 m2 m3
  have B0 : Below w.heap.size w (w.alloc (SC t e (.slice a1 ss.length c1) (.slice a2 ps.length c2) (.slice a3 qs.length c3) 51)) := (Below.refl _ _).alloc (Nat.le_refl _) _
  have X0 : Hid (BoxS w.heap.size t e (.slice a1 ss.length c1) (.slice a2 ps.length c2) (.slice a3 qs.length c3) (w.alloc (SC t e (.slice a1 ss.length c1) (.slice a2 ps.length c2) (.slice a3 qs.length c3) 51))) := BoxS.new 51
  go_enter Try.func6, Try.ntmps6
  go_wp2_with fail
  refine (szSpace_any t e a1 a2 a3 _ _ _ c1 c2 c3 1048576 _ M1.out M2.out M3.out (by omega) (by omega)).mono ?_
  rintro r w1 ⟨x, rfl, x0, x1, x2, b1⟩
  have B1 := B0.trans (b1.mono B0.size)
  have X1 := X0.out.below b1 X0.out.2.2.2.2.2
  clear B0 X0 b1
  by_cases hx : x < 0
  · clear x2 X1
    go_wp2
    go_ret
    exact ⟨rfl, B1⟩
  have L1 : Hid (ss.length ≤ 1048576) := (x2 (by omega)).1
  have L2 : Hid (ps.length ≤ 1048576) := (x2 (by omega)).2.1
  have L3 : Hid (qs.length ≤ 1048576) := (x2 (by omega)).2.2
  clear x2
  have Y1 : Hid (BoxS _ _ _ _ _ _ w1) := X1
  obtain ⟨y0, y1, y2, y3, y4, y5⟩ := X1
  have R1 := H.out.below B1
  obtain ⟨Ls, hLs⟩ : ∃ l, frL t e ss ps qs = l := ⟨_, rfl⟩
  obtain ⟨C, hC⟩ : ∃ c, frC t e ss ps qs = c := ⟨_, rfl⟩
  have LL : Hid (Ls.length ≤ 64) := by show _ ≤ _; rw [← hLs]; exact frL_len _ _ _ _ _
  have HL : Hid (frL t e ss ps qs = Ls) := hLs
  have HC : Hid (frC t e ss ps qs = C) := hC
  clear hLs hC
  go_wp2_with fail
  refine (toSpace_any t e a1 a2 a3 c1 c2 c3 ss ps qs w1 R1.1 R1.2.1 R1.2.2 L1.out L2.out L3.out).mono ?_
  rintro r w2 ⟨f1, f2, f3, rfl, S1, S2, S3, _, _, _, _, _, _, b2⟩
  have B2 := B1.trans (b2.mono B1.size)
  have Y2 : Hid (BoxS _ _ _ _ _ _ w2) := Y1.out.below b2 Y1.out.2.2.2.2.2
  have KS : Hid (RowsIn (some ⟨f1, 0, none⟩) (some ⟨f2, 0, none⟩) (some ⟨f3, 0, none⟩) ss ps qs w2) := ⟨S1.row, S2.row, S3.row⟩
  clear S1 S2 S3 y0 y1 y2 y3 y4 y5 B1 b2 Y1 R1
  go_wp2_with fail
  refine (specSpaceFree_any t e _ _ _ _ _ _ ss ps qs w2 KS.out.1 KS.out.2.1 KS.out.2.2 L1.out L2.out L3.out).mono ?_
  rw [HL.out, HC.out]
  rintro r w3 ⟨vs, rfl, os, b3⟩
  have OS3 : Hid (OwnI w3 w2.heap.size vs Ls) := os
  have B3 := B2.trans (b3.mono B2.size)
  have X3 := Y2.out.below b3 Y2.out.2.2.2.2.2
  have Y3 : Hid (BoxS _ _ _ _ _ _ w3) := X3
  obtain ⟨y0, y1, y2, y3, y4, y5⟩ := X3
  clear KS B2 b3 Y2 os
  have R3 := H.out.below B3
  go_wp2_with fail
  refine (toSpace_any t e a1 a2 a3 c1 c2 c3 ss ps qs w3 R3.1 R3.2.1 R3.2.2 L1.out L2.out L3.out).mono ?_
  rintro r w4 ⟨g1, g2, g3, rfl, S1, S2, S3, G1, G2, G3, N12, N13, N23, b4⟩
  have B4 := B3.trans (b4.mono B3.size)
  have A4 : Below w4.heap.size w4 (w4.alloc (SC t e (fullS g1 ss.length) (fullS g2 ps.length) (fullS g3 qs.length) 29)) := (Below.refl _ _).alloc (Nat.le_refl _) _
  have B5 := B4.trans (A4.mono B4.size)
  have Y4 := Y3.out.below b4 Y3.out.2.2.2.2.2
  have Y5 : Hid (BoxS _ _ _ _ _ _ (w4.alloc (SC t e (fullS g1 ss.length) (fullS g2 ps.length) (fullS g3 qs.length) 29))) := Y4.below A4 Y4.2.2.2.2.2
  have Z5 : Hid (BoxS w4.heap.size t e (fullS g1 ss.length) (fullS g2 ps.length) (fullS g3 qs.length) (w4.alloc (SC t e (fullS g1 ss.length) (fullS g2 ps.length) (fullS g3 qs.length) 29))) := BoxS.new 29
  have KS : Hid (SlabI (w4.alloc (SC t e (fullS g1 ss.length) (fullS g2 ps.length) (fullS g3 qs.length) 29)) g1 ss.length ss ss.length ∧ SlabP (w4.alloc (SC t e (fullS g1 ss.length) (fullS g2 ps.length) (fullS g3 qs.length) 29)) g2 ps.length ps ps.length ∧ SlabI (w4.alloc (SC t e (fullS g1 ss.length) (fullS g2 ps.length) (fullS g3 qs.length) 29)) g3 qs.length qs qs.length) := ⟨S1.below A4 S1.lt, S2.below A4 S2.lt, S3.below A4 S3.lt⟩
  have GB : Hid ((w3.heap.size ≤ g1 ∧ g1 < w4.heap.size) ∧ (w3.heap.size ≤ g2 ∧ g2 < w4.heap.size) ∧ (w3.heap.size ≤ g3 ∧ g3 < w4.heap.size)) := ⟨⟨G1, S1.lt⟩, ⟨G2, S2.lt⟩, ⟨G3, S3.lt⟩⟩
  have GN : Hid (g1 ≠ g2 ∧ g1 ≠ g3 ∧ g2 ≠ g3) := ⟨N12, N13, N23⟩
  have OS5 : Hid (OwnI (w4.alloc (SC t e (fullS g1 ss.length) (fullS g2 ps.length) (fullS g3 qs.length) 29)) w2.heap.size vs Ls) := (OS3.out.below b4).below A4
  have Z34 : Hid (w.heap.size ≤ w3.heap.size ∧ w3.heap.size ≤ w4.heap.size ∧ w.heap.size < w3.heap.size) := ⟨B3.size, b4.size, y5⟩
  clear S1 S2 S3 G1 G2 G3 N12 N13 N23 y0 y1 y2 y3 y4 y5 B3 b4 Y3 A4 B4 Y4 R3
  go_wp2_with fail
  refine (implSpaceFree_any t e _ _ _ _ _ _ ss ps qs _ KS.out.1.row KS.out.2.1.row KS.out.2.2.row L1.out L2.out L3.out).mono ?_
  rw [HL.out, HC.out]
  rintro r w6 ⟨vi, rfl, oi, b6⟩
  have e45 : (w4.alloc (SC t e (fullS g1 ss.length) (fullS g2 ps.length) (fullS g3 qs.length) 29)).heap.size = w4.heap.size + 1 := by simp
  have B6 := B5.trans (b6.mono B5.size)
  have hL0 : StF w w.heap.size w4.heap.size t e a1 a2 a3 c1 c2 c3 g1 g2 g3 ss ps qs w2.heap.size vs (w4.heap.size + 1) vi Ls w6 := ⟨Y5.out.below b6 Y5.out.2.2.2.2.2, Z5.out.below b6 Z5.out.2.2.2.2.2, H.out.below B6, ⟨KS.out.1.below b6 KS.out.1.lt, KS.out.2.1.below b6 KS.out.2.1.lt, KS.out.2.2.below b6 KS.out.2.2.lt⟩, OS5.out.below b6, e45 ▸ oi, B6⟩
  have HL0 : Hid (StF w w.heap.size w4.heap.size t e a1 a2 a3 c1 c2 c3 g1 g2 g3 ss ps qs w2.heap.size vs (w4.heap.size + 1) vi Ls w6) := hL0
  clear hL0 Y5 Z5 KS b6 B5 B6 OS5 oi e45
  go_wp2_with fail
  refine (eqI_own HL0.out.2.2.2.2.2.1 HL0.out.2.2.2.2.1 LL.out).mono ?_
  rintro r w7 ⟨rfl, b7⟩
  have hL : StF w w.heap.size w4.heap.size t e a1 a2 a3 c1 c2 c3 g1 g2 g3 ss ps qs w2.heap.size vs (w4.heap.size + 1) vi Ls w7.drew := (HL0.out.keep b7).keep (Below.refl _ _).drew
  clear HL0 b7
  go_wp2_with fail
  go_region_held3 (StF w w.heap.size w4.heap.size t e a1 a2 a3 c1 c2 c3 g1 g2 g3 ss ps qs w2.heap.size vs (w4.heap.size + 1) vi Ls) (first | exact hL | exact StF.keep (by assumption) hb)
    (first | (go_at_call 24; refine (toSpace_any t e a1 a2 a3 c1 c2 c3 ss ps qs _ (show StF w w.heap.size w4.heap.size t e a1 a2 a3 c1 c2 c3 g1 g2 g3 ss ps qs w2.heap.size vs (w4.heap.size + 1) vi Ls _ by assumption).2.2.1.1 (show StF w w.heap.size w4.heap.size t e a1 a2 a3 c1 c2 c3 g1 g2 g3 ss ps qs w2.heap.size vs (w4.heap.size + 1) vi Ls _ by assumption).2.2.1.2.1 (show StF w w.heap.size w4.heap.size t e a1 a2 a3 c1 c2 c3 g1 g2 g3 ss ps qs w2.heap.size vs (w4.heap.size + 1) vi Ls _ by assumption).2.2.1.2.2 L1.out L2.out L3.out).mono ?_; rintro r wA ⟨k1, k2, k3, rfl, S1, S2, S3, _, _, _, _, _, _, hb⟩)
           | (go_at_call 19; refine (eqSpace_same t e _ _ _ _ _ _ _ _ _ _ _ _ ss ps qs _ (show StF w w.heap.size w4.heap.size t e a1 a2 a3 c1 c2 c3 g1 g2 g3 ss ps qs w2.heap.size vs (w4.heap.size + 1) vi Ls _ by assumption).2.2.2.1.1.row (show StF w w.heap.size w4.heap.size t e a1 a2 a3 c1 c2 c3 g1 g2 g3 ss ps qs w2.heap.size vs (w4.heap.size + 1) vi Ls _ by assumption).2.2.2.1.2.1.row (show StF w w.heap.size w4.heap.size t e a1 a2 a3 c1 c2 c3 g1 g2 g3 ss ps qs w2.heap.size vs (w4.heap.size + 1) vi Ls _ by assumption).2.2.2.1.2.2.row S1.row S2.row S3.row L1.out L2.out L3.out).mono ?_; rintro r wA ⟨rfl, hb⟩))
  rename_i hLL
  have HS8 : Hid (StF w w.heap.size w4.heap.size t e a1 a2 a3 c1 c2 c3 g1 g2 g3 ss ps qs w2.heap.size vs (w4.heap.size + 1) vi Ls _) := hLL
  clear hL hLL
  obtain ⟨y0, y1, y2, y3, y4, y5⟩ := HS8.out.2.1
  go_wp2_with fail
  refine (markSpace_slab t e g1 g2 g3 _ _ _ ss ps qs _ HS8.out.2.2.2.1.1 HS8.out.2.2.2.1.2.1 HS8.out.2.2.2.1.2.2 GN.out.1 GN.out.2.1 GN.out.2.2 L1.out L2.out L3.out).mono ?_
  rintro r w9 ⟨x9, rfl, x90, k9⟩
  have B9 : Below w.heap.size w w9 := HS8.out.2.2.2.2.2.2.trans (k9.below HS8.out.2.2.2.2.2.2.size (fun j hj => by have := GB.out; have := Z34.out; omega))
  have X9 : Hid (BoxS w.heap.size t e (.slice a1 ss.length c1) (.slice a2 ps.length c2) (.slice a3 qs.length c3) w9) := HS8.out.1.kept k9 (by have := GB.out; have := Z34.out; omega)
  have OS9 : Hid (OwnI w9 w2.heap.size vs Ls) := HS8.out.2.2.2.2.1.kept k9 (fun j hj h => by have := (OS3.out.blk hj).2; have := GB.out; omega)
  have OI9 : Hid (OwnI w9 (w4.heap.size + 1) vi Ls) := HS8.out.2.2.2.2.2.1.kept k9 (fun j hj h => by have := (HS8.out.2.2.2.2.2.1.blk hj).1; have := GB.out; omega)
  have hx9 : ¬ x9 < 0 := by omega
  clear HS8 k9 y0 y1 y2 y3 y4 y5
  go_wp2_with fail
  refine (eqI_own OI9.out OS9.out LL.out).mono ?_
  rintro r w10 ⟨rfl, b10⟩
  have B10 := below_step B9 (Nat.le_refl _) b10
  have X10 : Hid (BoxS w.heap.size t e (.slice a1 ss.length c1) (.slice a2 ps.length c2) (.slice a3 qs.length c3) w10) := X9.out.below b10 X9.out.2.2.2.2.2
  have OS10 : Hid (OwnI w10 w2.heap.size vs Ls) := OS9.out.below b10
  have OI10 : Hid (OwnI w10 (w4.heap.size + 1) vi Ls) := OI9.out.below b10
  clear B9 X9 OS9 OI9 b10
  go_wp2_with fail
  refine (markI_own OI10.out LL.out).mono ?_
  rintro r w11 ⟨rfl, om, k11⟩
  have HOM : Hid (OwnI w11 (w4.heap.size + 1) vi (marksL 1 Ls.length)) := om
  have B11 : Below w.heap.size w w11 := B10.trans (k11.below B10.size (fun j hj => by have := (OI10.out.blk hj).1; have := Z34.out; omega))
  have X11 : Hid (BoxS w.heap.size t e (.slice a1 ss.length c1) (.slice a2 ps.length c2) (.slice a3 qs.length c3) w11) := X10.out.kept k11 (fun hj => by have := (OI10.out.blk hj).1; have := Z34.out; omega)
  have OS11 : Hid (OwnI w11 w2.heap.size vs Ls) := OS10.out.kept k11 (fun j hj h => by have := (OS3.out.blk hj).2; have := (OI10.out.blk h).1; have := Z34.out; omega)
  obtain ⟨N, hN⟩ : ∃ N, Ls.length = N := ⟨_, rfl⟩
  have N64 : N ≤ 64 := by rw [← hN]; exact LL.out
  have HN : Hid (Ls.length = N) := hN
  rw [hN] at HOM ⊢
  clear om k11 B10 X10 OS10 OI10 hN
  go_wp2_with fail
  refine (heldI_own HOM.out N64).mono ?_
  rintro r w12 ⟨rfl, hq⟩
  obtain rfl := hq.symm
  have hN0 : ¬ (1 : Int) + (N : Int) < 0 := by omega
  obtain ⟨y0, y1, y2, y3, y4, y5⟩ := X11.out
  have R11 := H.out.below B11
  go_wp2_with fail
  refine (toSpace_any t e a1 a2 a3 c1 c2 c3 ss ps qs w11 R11.1 R11.2.1 R11.2.2 L1.out L2.out L3.out).mono ?_
  rintro r w13 ⟨p1, p2, p3, rfl, S1, S2, S3, _, _, _, _, _, _, b13⟩
  have B13 := below_step B11 (Nat.le_refl _) b13
  have OS13 : Hid (OwnI w13 w2.heap.size vs Ls) := OS11.out.below b13
  have OM13 : Hid (OwnI w13 (w4.heap.size + 1) vi (marksL 1 N)) := HOM.out.below b13
  have KS13 : Hid (RowsIn (some ⟨p1, 0, none⟩) (some ⟨p2, 0, none⟩) (some ⟨p3, 0, none⟩) ss ps qs w13) := ⟨S1.row, S2.row, S3.row⟩
  clear S1 S2 S3 b13 B11 OS11 HOM X11 R11 y0 y1 y2 y3 y4 y5
  go_wp2_with fail
  refine (implSpaceFree_any t e _ _ _ _ _ _ ss ps qs w13 KS13.out.1 KS13.out.2.1 KS13.out.2.2 L1.out L2.out L3.out).mono ?_
  rw [HL.out, HC.out]
  rintro r w14 ⟨vh, rfl, oh, b14⟩
  have B14 := below_step B13 (Nat.le_refl _) b14
  have OH14 : Hid (OwnI w14 w13.heap.size vh Ls) := oh
  have OS14 : Hid (OwnI w14 w2.heap.size vs Ls) := OS13.out.below b14
  have OM14 : Hid (OwnI w14 (w4.heap.size + 1) vi (marksL 1 N)) := OM13.out.below b14
  clear oh b14 B13 OS13 OM13 KS13
  go_wp2_with fail
  refine (eqI_own OH14.out OS14.out LL.out).mono ?_
  rintro r w15 ⟨rfl, b15⟩
  have B15 := below_step B14 (Nat.le_refl _) b15
  have OM15 : Hid (OwnI w15 (w4.heap.size + 1) vi (marksL 1 N)) := OM14.out.below b15
  clear b15 B14 OS14 OM14 OH14
  go_wp2_with fail
  refine (heldI_own OM15.out N64).mono ?_
  rintro r w16 ⟨rfl, hq⟩
  obtain rfl := hq.symm
  go_wp2
  go_ret
  exact ⟨rfl, B15⟩
end Go.Proofs.Ytaklphoplfofbaa
