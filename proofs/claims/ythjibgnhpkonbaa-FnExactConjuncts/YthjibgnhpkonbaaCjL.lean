/- The law on Conjuncts, walked (stage 14). -/
import Derived.Test.YthjibgnhpkonbaaCjK
import Derived.Test.YthjibgnhpkonbaaTrL
namespace Go.Proofs.Ythjibgnhpkonbaa
open Go.RowKit

theorem KidD.list {w : World} {lo hi : Nat} {a : Option Addr} {n c : Nat} {ks : Fo} (h : KidD w lo hi (.slice a n c) ks) (hs : SmallF ks) (hz : ks.size ≤ 1048576) : n = ks.len ∧ ks.len ≤ c ∧ RowT 0 w a 0 ks := by
  obtain ⟨a', c', e, h1, h2⟩ := h.row hs hz
  cases e
  exact ⟨rfl, h1, h2⟩
theorem KidD.kept {S : Nat → Prop} {w w' : World} {lo hi : Nat} {v : Value} {ks : Fo} (h : KidD w lo hi v ks) (hK : Kept S w w') (hS : ∀ b, lo ≤ b → b < hi → ¬ S b) : KidD w' lo hi v ks := h.same fun b p q r => hK.block b r (hS b p q)
set_option maxRecDepth 100000 in
set_option maxHeartbeats 4000000 in
theorem markT_any (x : ND) (ks : Fo) (s : Value) (lo hi : Nat) (k : Int) (w : World) (hk : KidD w lo hi s ks) (k0 : 0 ≤ k) (k1 : k + 7 * (ks.size : Int) ≤ 288230376151711744) (hz : ks.size ≤ 1048577) :
    Calls Try.prog 13 #[ValT x s, .int .i64 k] w fun e w' => e = .returned (.int .i64 (k + 7 * (ks.size : Int))) ∧ Kept (fun b => lo ≤ b ∧ b < hi) w w' := by
  obtain ⟨W1, hW1⟩ : ∃ W1, w.alloc (.cells #[.int .i64 x.k, .int .i64 x.n, .string x.nm, .string x.of, .int .i64 x.vk, .int .i64 x.vn, .string x.vt, s] 33) = W1 := ⟨_, rfl⟩
  have B1 : Below w.heap.size w W1 := hW1 ▸ (Below.refl _ _).alloc (Nat.le_refl _) _
  have X1 : CellT W1 w.heap.size 0 x s := hW1 ▸ cellT_new x s 33
  have hm := markS_any ks s lo hi k W1 (hk.below B1) k0 k1 hz
  have HB : Hid (Below w.heap.size w W1) := B1
  obtain ⟨sa, sn, sc, rfl⟩ := hk.shape
  obtain ⟨y0, y1, y2, y3, y4, y5, y6, y7⟩ := X1
  clear hk B1
  obtain ⟨m, hmm⟩ : ∃ m, k + 7 * (ks.size : Int) = m := ⟨_, rfl⟩
  rw [hmm] at hm ⊢
  clear hmm k1
  go_enter Try.func13, Try.ntmps13
  go_wp2_with fail
  refine hm.mono ?_
  rintro e w2 ⟨rfl, _, K2⟩
  have HK : Hid (Kept (fun b => lo ≤ b ∧ b < hi) w w2) := (Kept.of_below HB.out).trans K2
  clear hm K2 y0 y1 y2 y3 y4 y5 y6 y7 hW1
  go_wp2
  go_ret
  exact ⟨rfl, HK.out⟩

set_option maxRecDepth 100000 in
set_option maxHeartbeats 8000000 in
theorem lawConj (x : ND) (ka : Option Addr) (kc : Nat) (ks : Fo) (w : World) (hrow : RowT 0 w ka 0 ks) (hl : ks.len ≤ maxLen) (ht : TextsN maxLen x) :
    Calls Try.prog 4 #[ValT x (.slice ka ks.len kc)] w fun r w' => r = .returned (.bool true) ∧ Below w.heap.size w w' := by
  have H : Hid (RowT 0 w ka 0 ks) := hrow
  have M : Hid (ks.len ≤ maxLen ∧ TextsN maxLen x) := ⟨hl, ht⟩
  clear hrow hl ht
  have B0 : Below w.heap.size w (w.alloc (.cells #[.int .i64 x.k, .int .i64 x.n, .string x.nm, .string x.of, .int .i64 x.vk, .int .i64 x.vn, .string x.vt, .slice ka ks.len kc] 26)) := (Below.refl _ _).alloc (Nat.le_refl _) _
  have X0 : Hid (BoxN w.heap.size x (.slice ka ks.len kc) (w.alloc (.cells #[.int .i64 x.k, .int .i64 x.n, .string x.nm, .string x.of, .int .i64 x.vk, .int .i64 x.vn, .string x.vt, .slice ka ks.len kc] 26))) := BoxN.new 26
  go_enter Try.func4, Try.ntmps4
  go_wp2_with fail
  refine (szT_any x ks (szS_any ks) ka kc 1048576 _ (H.out.below B0) M.out.1 M.out.2 (by omega) (by omega)).mono ?_
  rintro r w1 ⟨q, rfl, q0, q2, b1⟩
  have B1 := B0.trans (b1.mono B0.size)
  have X1 := X0.out.below b1
  clear B0 X0 b1
  by_cases hx : q < 0
  · clear q2 X1
    go_wp2
    go_ret
    exact ⟨rfl, B1⟩
  have LS : Hid (ks.size ≤ 1048576 ∧ ks.len ≤ 1048576 ∧ SmallF ks ∧ TextsN 1048576 x) := by
    obtain ⟨h1, h2, h3⟩ := q2 (by omega)
    have := ks.len_le
    exact ⟨by omega, by omega, h3, h2⟩
  clear q2
  have HS : Hid (SmallF (cjF x ks) ∧ (cjF x ks).size ≤ 200 ∧ (cjF x ks).len ≤ 200) := ⟨cjF_small LS.out.2.2.2 LS.out.2.2.1, cjF_size, Nat.le_trans (Fo.len_le _) cjF_size⟩
  have Y1 : Hid (BoxN w.heap.size x (.slice ka ks.len kc) w1) := X1
  obtain ⟨⟨y0, y1, y2, y3, y4, y5, y6, y7⟩, _⟩ := X1
  go_wp2_with fail
  refine (toT_any x ks (toS_any ks) ka kc w1 (H.out.below B1) LS.out.2.1 LS.out.2.2.1 LS.out.1).mono ?_
  rintro r w2 ⟨h1, rfl, _, S1, b2⟩
  have B2 := B1.trans (b2.mono B1.size)
  have Y2 : Hid (BoxN w.heap.size x (.slice ka ks.len kc) w2) := Y1.out.below b2
  have KS : Hid (RowT 0 w2 (some ⟨h1, 0, none⟩) 0 ks) := S1.weak (Nat.zero_le _)
  clear S1 y0 y1 y2 y3 y4 y5 y6 y7 B1 b2 Y1
  go_wp2_with fail
  refine (specConj_any x ks _ _ w2 KS.out (Nat.le_refl _) LS.out.1 M.out.2).mono ?_
  rintro r w3 ⟨aw, nw, cw, rfl, rfl, rw3, b3⟩
  have HW : Hid (RowT 0 w3 aw 0 (cjF x ks)) := rw3
  have B3 := B2.trans (b3.mono B2.size)
  have X3 := Y2.out.below b3
  have Y3 : Hid (BoxN w.heap.size x (.slice ka ks.len kc) w3) := X3
  obtain ⟨⟨y0, y1, y2, y3, y4, y5, y6, y7⟩, _⟩ := X3
  clear KS B2 b3 Y2 rw3
  go_wp2_with fail
  refine (toTD_any x ks (toD_any ks) ka kc w3 (H.out.below B3) LS.out.2.1 LS.out.2.2.1 LS.out.1).mono ?_
  rintro r w4 ⟨g1, rfl, S4, b4⟩
  have B4 := B3.trans (b4.mono B3.size)
  obtain ⟨w5, hw5⟩ : ∃ w5, w4.alloc (.cells #[.int .i64 x.k, .int .i64 x.n, .string x.nm, .string x.of, .int .i64 x.vk, .int .i64 x.vn, .string x.vt, fullS g1 ks.len] 33) = w5 := ⟨_, rfl⟩
  have A4 : Below w4.heap.size w4 w5 := hw5 ▸ (Below.refl _ _).alloc (Nat.le_refl _) _
  have B5 : Below w.heap.size w w5 := B4.trans (A4.mono B4.size)
  have X5 : BoxN w4.heap.size x (fullS g1 ks.len) w5 := hw5 ▸ BoxN.new 33
  have sz5 : w5.heap.size = w4.heap.size + 1 := by rw [← hw5]; simp
  have C5 : Hid (BoxN w.heap.size x (.slice ka ks.len kc) w5 ∧ BoxN w4.heap.size x (fullS g1 ks.len) w5 ∧ RowT 0 w5 aw 0 (cjF x ks) ∧ KidD w5 w3.heap.size w4.heap.size (fullS g1 ks.len) ks ∧ Below w.heap.size w w5) := ⟨(Y3.out.below b4).below A4, X5, (HW.out.below b4).below A4, S4.below A4, B5⟩
  have HN : Hid (w.heap.size ≤ w3.heap.size ∧ w3.heap.size ≤ w4.heap.size ∧ w5.heap.size = w4.heap.size + 1) := ⟨B3.size, b4.size, sz5⟩
  have HB5 : Hid (Below w3.heap.size w3 w5) := b4.trans (A4.mono b4.size)
  have C3 : Hid (BoxN w.heap.size x (.slice ka ks.len kc) w3 ∧ RowT 0 w3 aw 0 (cjF x ks) ∧ Below w.heap.size w w3) := ⟨Y3.out, HW.out, B3⟩
  obtain ⟨⟨z0, z1, z2, z3, z4, z5, z6, z7⟩, _⟩ := X5
  have hK5 := (C5.out.2.2.2.1).list LS.out.2.2.1 LS.out.1
  clear S4 y0 y1 y2 y3 y4 y5 y6 y7 B3 b4 Y3 A4 B4 B5 HW sz5
  go_wp2_with fail
  refine (implConj_any x ks _ _ w5 hK5.2.2 (Nat.le_refl _) LS.out.1 M.out.2).mono ?_
  rintro r w6 ⟨ag, ng, cg, rfl, k6, b6⟩
  obtain ⟨rfl, _, hrg⟩ := k6.list HS.out.1 (by have := HS.out.2.1; omega)
  have C6 : Hid (RowT 0 w6 ag 0 (cjF x ks) ∧ RowT 0 w6 aw 0 (cjF x ks) ∧ KidD w6 w5.heap.size w6.heap.size (.slice ag (cjF x ks).len cg) (cjF x ks) ∧ Below w5.heap.size w5 w6) := ⟨hrg, C5.out.2.2.1.below b6, k6, b6⟩
  clear hK5 k6 b6 hrg z0 z1 z2 z3 z4 z5 z6 z7 hw5
  obtain ⟨cod, hcod⟩ : ∃ cod, sCode x ks = cod := ⟨_, rfl⟩
  rw [hcod]
  have HCD : Hid (sCode x ks = cod) := hcod
  clear hcod
  obtain ⟨L, hLL⟩ : ∃ L, (cjF x ks).len = L := ⟨_, rfl⟩
  have HL : Hid ((cjF x ks).len = L) := hLL
  have HEQ : Hid (∀ (a1 a2 : Option Addr) (c1 c2 : Nat) (W : World), RowT 0 W a1 0 (cjF x ks) → RowT 0 W a2 0 (cjF x ks) → Calls Try.prog 12 #[.slice a1 L c1, .slice a2 L c2] W fun e w' => e = .returned (.bool true) ∧ Below W.heap.size W w') := fun a1 a2 c1 c2 W p q => by
    rw [← hLL]
    exact eqS_any (cjF x ks) (by have := HS.out.2.1; omega) a1 a2 c1 c2 W p q (by have := HS.out.2.2; omega)
  rw [hLL] at C6 ⊢
  clear hLL
  go_wp2_with fail
  refine (HEQ.out _ _ _ _ w6 C6.out.1 C6.out.2.1).mono ?_
  rintro r w7 ⟨rfl, b7⟩
  have C7 : Hid (Below w6.heap.size w6 w7) := b7
  have hL : TwoT w7 w.heap.size w4.heap.size x ka kc g1 ks w7.drew := by
    have q5 := b7
    have e6 := C6.out.2.2.2
    have hK := (C5.out.2.2.2.1).list LS.out.2.2.1 LS.out.1
    have f : TwoT w7 w.heap.size w4.heap.size x ka kc g1 ks w7 := ⟨(C5.out.1.below e6).below b7, (C5.out.2.1.below e6).below b7, ((H.out.below C5.out.2.2.2.2).below e6).below b7, (hK.2.2.below e6).below b7, Below.refl _ _⟩
    exact f.keep (Below.refl _ _).drew
  clear b7
  go_wp2_with fail
  go_region_held3 (TwoT w7 w.heap.size w4.heap.size x ka kc g1 ks) (first | exact hL | exact TwoT.keep (by assumption) hb)
    (first | (go_at_call 7; refine (toT_any x ks (toS_any ks) ka kc _ (show TwoT w7 w.heap.size w4.heap.size x ka kc g1 ks _ by assumption).2.2.1 LS.out.2.1 LS.out.2.2.1 LS.out.1).mono ?_; rintro r wA ⟨k1, rfl, _, S1, hb⟩)
           | (go_at_call 9; refine (eqT_same x ks (eqS_any ks LS.out.1) _ _ _ _ _ (show TwoT w7 w.heap.size w4.heap.size x ka kc g1 ks _ by assumption).2.2.2.1 (S1.weak (Nat.zero_le _)) LS.out.2.1).mono ?_; rintro r wA ⟨rfl, hb⟩))
  rename_i hPL
  have e8 := hPL.2.2.2.2
  have b37 : Below w3.heap.size w3 w7 := by
    have h1 := HB5.out
    have h2 := h1.trans (C6.out.2.2.2.mono h1.size)
    exact h2.trans (C7.out.mono h2.size)
  have D8 : Hid (Below w3.heap.size w3 wA ∧ KidD wA w3.heap.size w4.heap.size (fullS g1 ks.len) ks ∧ KidD wA w5.heap.size w6.heap.size (.slice ag L cg) (cjF x ks)) := by
    have h1 := C5.out.2.2.2.1
    have h2 := C6.out.2.2.1
    exact ⟨b37.trans (e8.mono b37.size), (((h1.below C6.out.2.2.2).below C7.out).below e8), (h2.below C7.out).below e8⟩
  obtain ⟨⟨z0, z1, z2, z3, z4, z5, z6, z7⟩, _⟩ := hPL.2.1
  have HZK : Hid (ks.size ≤ 1048576) := LS.out.1
  clear hL hPL e8 b37
  have hmk := markT_any x ks (fullS g1 ks.len) w3.heap.size w4.heap.size 1 wA D8.out.2.1 (by omega) (by have := HZK.out; omega) (by have := HZK.out; omega)
  obtain ⟨kk, hkk⟩ : ∃ kk, 1 + 7 * (ks.size : Int) = kk := ⟨_, rfl⟩
  have hkp : ¬ kk < 0 := by omega
  rw [hkk] at hmk
  clear hkk
  go_wp2_with fail
  refine hmk.mono ?_
  rintro r w9 ⟨rfl, K9⟩
  have D9 : Hid (Below w3.heap.size w3 w9 ∧ KidD w9 w5.heap.size w6.heap.size (.slice ag L cg) (cjF x ks)) := by
    have hs := D8.out.1.size
    exact ⟨D8.out.1.trans (K9.below hs fun b p => p.1), D8.out.2.2.kept K9 fun b p _ r => by have := HN.out.2.2; omega⟩
  have hr9 := (D9.out.2.list HS.out.1 (by have := HS.out.2.1; omega)).2.2
  have h9 := HEQ.out ag aw cg cw w9 hr9 (C3.out.2.1.below D9.out.1)
  clear hmk K9 z0 z1 z2 z3 z4 z5 z6 z7 D8 hr9
  go_wp2_with fail
  refine h9.mono ?_
  rintro r w10 ⟨rfl, b10⟩
  have D10 : Hid (Below w3.heap.size w3 w10 ∧ KidD w10 w5.heap.size w6.heap.size (.slice ag L cg) (cjF x ks)) := ⟨below_step D9.out.1 (Nat.le_refl _) b10, D9.out.2.below b10⟩
  have hms := markS_any (cjF x ks) (.slice ag L cg) w5.heap.size w6.heap.size 1 w10 D10.out.2 (by omega) (by have := HS.out.2.1; omega) (by have := HS.out.2.1; omega)
  have hhs := fun W (h : KidD W w5.heap.size w6.heap.size (.slice ag L cg) (lab (cjF x ks) 1)) => heldS_any (cjF x ks) (.slice ag L cg) w5.heap.size w6.heap.size 1 W h (by omega) (by have := HS.out.2.1; omega) (by have := HS.out.2.1; omega)
  obtain ⟨m, hm⟩ : ∃ m, 1 + 7 * ((cjF x ks).size : Int) = m := ⟨_, rfl⟩
  have hmp : ¬ m < 0 := by omega
  rw [hm] at hms hhs
  have HHS : Hid (∀ W, KidD W w5.heap.size w6.heap.size (.slice ag L cg) (lab (cjF x ks) 1) → Calls Try.prog 15 #[.slice ag L cg, .int .i64 1] W fun e w' => e = .returned (.int .i64 m) ∧ Below W.heap.size W w') := hhs
  clear hm b10 h9 D9 hhs
  go_wp2_with fail
  refine hms.mono ?_
  rintro r w11 ⟨rfl, k11, K11⟩
  have D11 : Hid (Below w3.heap.size w3 w11 ∧ KidD w11 w5.heap.size w6.heap.size (.slice ag L cg) (lab (cjF x ks) 1)) := ⟨D10.out.1.trans (K11.below D10.out.1.size fun b p => by have := HN.out; omega), k11⟩
  have h11 := HHS.out w11 k11
  clear hms k11 K11 D10
  go_wp2_with fail
  refine h11.mono ?_
  rintro r w12 ⟨rfl, b12⟩
  have D12 : Hid (Below w3.heap.size w3 w12 ∧ KidD w12 w5.heap.size w6.heap.size (.slice ag L cg) (lab (cjF x ks) 1)) := ⟨below_step D11.out.1 (Nat.le_refl _) b12, D11.out.2.below b12⟩
  have bw12 : Below w.heap.size w w12 := C3.out.2.2.trans (D12.out.1.mono C3.out.2.2.size)
  obtain ⟨⟨y0, y1, y2, y3, y4, y5, y6, y7⟩, _⟩ := C3.out.1.below D12.out.1
  clear h11 b12 D11
  go_wp2_with fail
  refine (toT_any x ks (toS_any ks) ka kc w12 (H.out.below bw12) LS.out.2.1 LS.out.2.2.1 LS.out.1).mono ?_
  rintro r w13 ⟨h3, rfl, _, S13, b13⟩
  have D13 : Hid (Below w3.heap.size w3 w13 ∧ KidD w13 w5.heap.size w6.heap.size (.slice ag L cg) (lab (cjF x ks) 1)) := ⟨below_step D12.out.1 (Nat.le_refl _) b13, D12.out.2.below b13⟩
  have hi13 := implConj_any x ks (some ⟨h3, 0, none⟩) ks.len w13 (S13.weak (Nat.zero_le _)) (Nat.le_refl _) LS.out.1 M.out.2
  unfold RetCj at hi13
  rw [HCD.out] at hi13
  clear S13 b13 D12 bw12 y0 y1 y2 y3 y4 y5 y6 y7
  go_wp2_with fail
  refine hi13.mono ?_
  rintro r w14 ⟨ah, nh, ch, rfl, k14, b14⟩
  obtain ⟨rfl, _, hr14⟩ := k14.list HS.out.1 (by have := HS.out.2.1; omega)
  rw [HL.out]
  have D14 : Hid (Below w3.heap.size w3 w14 ∧ KidD w14 w5.heap.size w6.heap.size (.slice ag L cg) (lab (cjF x ks) 1)) := ⟨below_step D13.out.1 (Nat.le_refl _) b14, D13.out.2.below b14⟩
  have h14 := HEQ.out ah aw ch cw w14 hr14 (C3.out.2.1.below D14.out.1)
  clear hi13 k14 b14 hr14 D13
  go_wp2_with fail
  refine h14.mono ?_
  rintro r w15 ⟨rfl, b15⟩
  have D15 : Hid (Below w3.heap.size w3 w15 ∧ KidD w15 w5.heap.size w6.heap.size (.slice ag L cg) (lab (cjF x ks) 1)) := ⟨below_step D14.out.1 (Nat.le_refl _) b15, D14.out.2.below b15⟩
  have h15 := HHS.out w15 D15.out.2
  clear h14 b15 D14
  go_wp2_with fail
  refine h15.mono ?_
  rintro r w16 ⟨rfl, b16⟩
  have bw16 : Below w.heap.size w w16 := C3.out.2.2.trans ((below_step D15.out.1 (Nat.le_refl _) b16).mono C3.out.2.2.size)
  clear h15 b16 D15
  go_wp2
  go_ret
  exact ⟨rfl, bw16⟩
end Go.Proofs.Ythjibgnhpkonbaa
