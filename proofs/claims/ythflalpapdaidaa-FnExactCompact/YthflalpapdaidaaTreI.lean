/- Both sides' ForestOK, and the law on it, walked (stage 5). -/
import Derived.Test.YthflalpapdaidaaTreH
namespace Go.Proofs.Ythflalpapdaidaa
open Go.RowKit

/-- A right forest. -/
def ForOK (ns : List Nd) : Prop := ns.length ≤ 600 ∧ ∀ i, i < ns.length → NodeOK (nthN ns i) (i : Nat)

set_option maxRecDepth 100000 in
set_option maxHeartbeats 4000000 in
theorem specForestOK_any (a : Option Addr) (cap : Nat) (ns : List Nd) (w : World) (h : RowN w a ns) (hlen : ns.length ≤ 1048576) (hsm : ∀ i, i < ns.length → SmallN (nthN ns i)) :
    Calls Try.prog 35 #[FV (.slice a ns.length cap)] w fun e w' => e = .returned (.bool (asB (ForOK ns))) ∧ Below w.heap.size w w' := by
  have HR : Hid (RowN w a ns) := h
  have HM : Hid (∀ i, i < ns.length → SmallN (nthN ns i)) := hsm
  clear h hsm
  obtain ⟨W0, hW0⟩ : ∃ W0, w.alloc (.cells #[.slice a ns.length cap] 25) = W0 := ⟨_, rfl⟩
  have B0 : Below w.heap.size w W0 := hW0 ▸ (Below.refl _ _).alloc (Nat.le_refl _) _
  have z0 : W0.heap.size = w.heap.size + 1 := by rw [← hW0]; simp
  have c0 : W0.cell? ⟨w.heap.size, 0, none⟩ = some (.slice a ns.length cap) := by rw [← hW0]; exact slab_cell (heap_new' _ _ _ rfl)
  have HC : Hid (∀ wr, Below W0.heap.size W0 wr → wr.cell? ⟨w.heap.size, 0, none⟩ = some (.slice a ns.length cap) ∧ w.heap.size < wr.heap.size ∧ Below w.heap.size w wr) := fun wr hb => by
    have := hb.size
    exact ⟨(hb.cell (p := ⟨w.heap.size, 0, none⟩) (by show _ < _; simp; omega)).trans c0, by omega, B0.trans (hb.mono B0.size)⟩
  by_cases h6 : (600 : Int) < (ns.length : Int)
  · have HF : Hid (¬ ForOK ns) := fun hh => by have := hh.1; omega
    go_enter Try.func35, Try.ntmps35
    go_wp2
    go_ret
    exact ⟨ret_bool' (asB_false HF.out), B0⟩
  obtain ⟨len, hl⟩ : ∃ m, ns.length = m := ⟨_, rfl⟩
  have HL : Hid (ns.length = len) := hl
  have HLl : Hid (ns.length ≤ 1048576) := hlen
  rw [hl] at h6 c0 hW0 hlen ⊢
  clear hl
  go_enter Try.func35, Try.ntmps35
  go_wp2
  go_loopw [3] (fun i wr => ∃ k : Nat, k ≤ len ∧ i = .int .i64 k ∧ Hid (∀ i, i < k → NodeOK (nthN ns i) (i : Nat)) ∧ Below W0.heap.size W0 wr) (fun i _ => len - (intOf i).toNat)
  case atStart => exact ⟨0, by omega, rfl, fun i hi => by omega, Below.refl _ _⟩
  case round =>
    obtain ⟨k, hk, rfl, HS, hbl⟩ := hrel
    obtain ⟨e0, en, hB⟩ := HC.out wr hbl
    rw [HL.out] at e0
    clear c0 hW0
    by_cases hlt : k < len
    · have hltI : (k : Int) < (len : Int) := by omega
      have hkn : k < ns.length := by rw [HL.out]; exact hlt
      have hcall := l05Node_any a cap ns k wr (HR.out.below hB) HLl.out hkn (HM.out k hkn)
      rw [HL.out] at hcall
      go_wp2_with fail
      refine hcall.mono ?_
      clear hcall
      rintro e w2 ⟨rfl, hb2⟩
      cases hok : asB (NodeOK (nthN ns k) (k : Nat)) with
      | true =>
        have HN : Hid (∀ i, i < k + 1 → NodeOK (nthN ns i) (i : Nat)) := fun i hi => by
          by_cases e : i = k
          · rw [e]; exact asB_is hok
          · exact HS.out i (by omega)
        have hbl2 := below_step hbl (Nat.le_refl _) hb2
        clear hok hb2 e0 hkn
        go_wp2
        go_roundw
        case rel => exact ⟨k + 1, by omega, by go_num, HN, hbl2⟩
        case measure => simp [intOf]; omega
      | false =>
        have HF : Hid (¬ ForOK ns) := fun hh => asB_not hok (hh.2 k hkn)
        have hB2 := below_step hB (Nat.le_refl _) hb2
        clear hok hb2 e0 hkn
        go_wp2
        go_ret
        exact ⟨ret_bool' (asB_false HF.out), hB2⟩
    · obtain rfl : k = len := by omega
      have HT : Hid (ForOK ns) := ⟨by rw [HL.out]; omega, fun i hi => HS.out i (by rw [← HL.out]; exact hi)⟩
      go_wp2
      go_ret
      exact ⟨ret_bool' (asB_true HT.out), hB⟩

set_option maxRecDepth 100000 in
set_option maxHeartbeats 4000000 in
theorem implForestOK_any (a : Option Addr) (cap : Nat) (ns : List Nd) (w : World) (h : RowN w a ns) (hlen : ns.length ≤ 1048576) (hsm : ∀ i, i < ns.length → SmallN (nthN ns i)) :
    Calls Try.prog 25 #[FV (.slice a ns.length cap)] w fun e w' => e = .returned (.bool (asB (ForOK ns))) ∧ Below w.heap.size w w' := by
  have HR : Hid (RowN w a ns) := h
  have HM : Hid (∀ i, i < ns.length → SmallN (nthN ns i)) := hsm
  clear h hsm
  have B0 : Below w.heap.size w (w.alloc (.cells #[.slice a ns.length cap] 25)) := (Below.refl _ _).alloc (Nat.le_refl _) _
  by_cases h6 : (600 : Int) < (ns.length : Int)
  · have HF : Hid (¬ ForOK ns) := fun hh => by have := hh.1; omega
    go_enter Try.func25, Try.ntmps25
    go_wp2
    go_ret
    exact ⟨ret_bool' (asB_false HF.out), B0⟩
  obtain ⟨len, hl⟩ : ∃ m, ns.length = m := ⟨_, rfl⟩
  have HL : Hid (ns.length = len) := hl
  rw [hl] at h6 B0 hlen ⊢
  clear hl
  go_enter Try.func25, Try.ntmps25
  go_wp2
  go_loopw [12] (fun i wr => ∃ k : Nat, k ≤ len ∧ i = .int .i64 k ∧ Hid (∀ i, i < k → NodeOK (nthN ns i) (i : Nat)) ∧ Below w.heap.size w wr) (fun i _ => len - (intOf i).toNat)
  case atStart => exact ⟨0, by omega, rfl, fun i hi => by omega, B0⟩
  case round =>
    obtain ⟨k, hk, rfl, HS, hB⟩ := hrel
    clear B0
    by_cases hlt : k < len
    · have hltI : (k : Int) < (len : Int) := by omega
      have hkn : k < ns.length := by rw [HL.out]; exact hlt
      have hm := HM.out k hkn
      obtain ⟨b, off, rfl, hlb, ka, kc, va, vc, ia, ic, q0, q1, q2, q3, hr⟩ := (HR.out.below hB) k hkn
      have HF : Hid (¬ NodeOK (nthN ns k) (k : Nat) → ¬ ForOK ns) := fun h hh => h (hh.2 k hkn)
      have HN : Hid (NodeOK (nthN ns k) (k : Nat) → ∀ i, i < k + 1 → NodeOK (nthN ns i) (i : Nat)) := fun h i hi => by
        by_cases e : i = k
        · rw [e]; exact h
        · exact HS.out i (by omega)
      generalize nthN ns k = nd at *
      obtain ⟨l, ks, vs, is⟩ := nd
      simp only at q0 q1 q2 q3
      have HRr : Hid (NodeR wr ka va ia (l, ks, vs, is)) := hr
      have HMm : Hid (SmallN (l, ks, vs, is)) := hm
      have A1 : Below wr.heap.size wr (wr.alloc (.cells #[.bool l, .slice ka ks.length kc, .slice va vs.length vc, .slice ia is.length ic] 93)) := (Below.refl _ _).alloc (Nat.le_refl _) _
      clear hr hm hkn
      go_wp2_with fail
      refine (nodeOK_any ka va ia kc vc ic l ks vs is (k : Nat) _ (HRr.out.below A1) HMm.out).mono ?_
      rintro e w2 ⟨rfl, hb2⟩
      have hB2 := below_step (below_step hB (Nat.le_refl _) A1) (Nat.le_refl _) hb2
      clear q0 q1 q2 q3 hb2 A1 HRr HMm
      cases hok : asB (NodeOK (l, ks, vs, is) (k : Nat)) with
      | true =>
        have HN' : Hid (∀ i, i < k + 1 → NodeOK (nthN ns i) (i : Nat)) := HN.out (asB_is hok)
        clear hok HN HF
        go_wp2
        go_roundw
        case rel => exact ⟨k + 1, by omega, by go_num, HN', hB2⟩
        case measure => simp [intOf]; omega
      | false =>
        have HF' : Hid (¬ ForOK ns) := HF.out (asB_not hok)
        clear hok HN HF
        go_wp2
        go_ret
        exact ⟨ret_bool' (asB_false HF'.out), hB2⟩
    · obtain rfl : k = len := by omega
      have HT : Hid (ForOK ns) := ⟨by rw [HL.out]; omega, fun i hi => HS.out i (by rw [← HL.out]; exact hi)⟩
      go_wp2
      go_ret
      exact ⟨ret_bool' (asB_true HT.out), hB⟩

/-- A cell that holds a slice. -/
abbrev BoxF (b : Nat) (v : Value) (w : World) : Prop := w.cell? ⟨b, 0, none⟩ = some v ∧ b < w.heap.size
theorem BoxF.below {b : Nat} {v : Value} {w w' : World} (h : BoxF b v w) (hb : Below w.heap.size w w') : BoxF b v w' := ⟨(hb.cell (p := ⟨b, 0, none⟩) h.2).trans h.1, Nat.lt_of_lt_of_le h.2 hb.size⟩
theorem BoxF.new {v : Value} {w : World} (ty : TypeId) : BoxF w.heap.size v (w.alloc (.cells #[v] ty)) := ⟨slab_cell (heap_new' _ _ _ rfl), by simp⟩
/-- The argument and a copy of it lie in two blocks; what lay in w lies there still. -/
abbrev TwoF (w : World) (b x : Nat) (a : Option Addr) (c g : Nat) (ns : List Nd) (w' : World) : Prop :=
  BoxF b (.slice a ns.length c) w' ∧ BoxF x (.slice (some ⟨g, 0, none⟩) ns.length ns.length) w' ∧ RowN w' a ns ∧ RowN w' (some ⟨g, 0, none⟩) ns ∧ Below w.heap.size w w'
theorem TwoF.keep {w : World} {b x : Nat} {a : Option Addr} {c g : Nat} {ns : List Nd} {w1 w2 : World} (h : TwoF w b x a c g ns w1) (hb : Below w1.heap.size w1 w2) : TwoF w b x a c g ns w2 :=
  ⟨h.1.below hb, h.2.1.below hb, h.2.2.1.below hb, h.2.2.2.1.below hb, below_step h.2.2.2.2 (Nat.le_refl _) hb⟩

set_option maxRecDepth 100000 in
set_option maxHeartbeats 4000000 in
theorem lawForestOK (a : Option Addr) (c : Nat) (ns : List Nd) (w : World) (h : RowN w a ns) (m : ns.length ≤ maxLen) :
    Calls Try.prog 6 #[FV (.slice a ns.length c)] w fun r w' => r = .returned (.bool true) ∧ Below w.heap.size w w' := by
  have H : Hid (RowN w a ns) := h
  have M : Hid (ns.length ≤ maxLen) := m
  have HT : Hid (TextsN ns) := h.texts
  clear h m
  have B0 : Below w.heap.size w (w.alloc (.cells #[.slice a ns.length c] 55)) := (Below.refl _ _).alloc (Nat.le_refl _) _
  have X0 : Hid (BoxF w.heap.size (.slice a ns.length c) (w.alloc (.cells #[.slice a ns.length c] 55))) := BoxF.new 55
  go_enter Try.func6, Try.ntmps6
  go_wp2_with fail
  refine (szF_any a c ns 1048576 _ (H.out.below B0) M.out (by omega) (by omega)).mono ?_
  rintro r w1 ⟨x, rfl, x0, x1, x2, b1⟩
  have B1 := B0.trans (b1.mono B0.size)
  have X1 := X0.out.below b1
  clear B0 X0 b1
  by_cases hx : x < 0
  · clear x2 X1
    go_wp2
    go_ret
    exact ⟨rfl, B1⟩
  have L1 : Hid (ns.length ≤ 1048576) := by have := (x2 (by omega)).1; show _ ≤ _; omega
  have L2 : Hid (∀ i, i < ns.length → SmallN (nthN ns i)) := (x2 (by omega)).2
  clear x2
  have Y1 : Hid (BoxF _ _ w1) := X1
  obtain ⟨y0, y1⟩ := X1
  go_wp2_with fail
  refine (toF_any a c ns w1 (H.out.below B1) L1.out L2.out).mono ?_
  rintro r w2 ⟨g1, rfl, _, S1, b2⟩
  have B2 := B1.trans (b2.mono B1.size)
  have Y2 : Hid (BoxF _ _ w2) := Y1.out.below b2
  have KS : Hid (RowN w2 (some ⟨g1, 0, none⟩) ns) := S1.row HT.out L2.out
  clear S1 y0 y1 B1 b2 Y1
  go_wp2_with fail
  refine (specForestOK_any _ _ ns w2 KS.out L1.out L2.out).mono ?_
  rintro r w3 ⟨rfl, b3⟩
  have B3 := B2.trans (b3.mono B2.size)
  have X3 := Y2.out.below b3
  have Y3 : Hid (BoxF _ _ w3) := X3
  obtain ⟨y0, y1⟩ := X3
  clear KS B2 b3 Y2
  go_wp2_with fail
  refine (toF_any a c ns w3 (H.out.below B3) L1.out L2.out).mono ?_
  rintro r w4 ⟨g2, rfl, _, S2, b4⟩
  have B4 := B3.trans (b4.mono B3.size)
  have A4 : Below w4.heap.size w4 (w4.alloc (.cells #[.slice (some ⟨g2, 0, none⟩) ns.length ns.length] 25)) := (Below.refl _ _).alloc (Nat.le_refl _) _
  have B5 := B4.trans (A4.mono B4.size)
  have Y5 : Hid (BoxF _ _ (w4.alloc (.cells #[.slice (some ⟨g2, 0, none⟩) ns.length ns.length] 25))) := (Y3.out.below b4).below A4
  have Z5 : Hid (BoxF w4.heap.size (.slice (some ⟨g2, 0, none⟩) ns.length ns.length) (w4.alloc (.cells #[.slice (some ⟨g2, 0, none⟩) ns.length ns.length] 25))) := BoxF.new 25
  have KS : Hid (RowN (w4.alloc (.cells #[.slice (some ⟨g2, 0, none⟩) ns.length ns.length] 25)) (some ⟨g2, 0, none⟩) ns) := (S2.row HT.out L2.out).below A4
  clear S2 y0 y1 B3 b4 Y3 A4 B4
  go_wp2_with fail
  refine (implForestOK_any _ _ ns _ KS.out L1.out L2.out).mono ?_
  rintro r w6 ⟨rfl, b6⟩
  have B6 := B5.trans (b6.mono B5.size)
  have hL : TwoF w w.heap.size w4.heap.size a c g2 ns w6.drew :=
    (show TwoF w w.heap.size w4.heap.size a c g2 ns w6 from ⟨Y5.out.below b6, Z5.out.below b6, H.out.below B6, KS.out.below b6, B6⟩).keep (Below.refl _ _).drew
  clear Y5 Z5 KS b6 B5 B6
  generalize asB (ForOK ns) = ans
  go_wp2_with fail
  go_region_held3 (TwoF w w.heap.size w4.heap.size a c g2 ns) (first | exact hL | exact TwoF.keep (by assumption) hb)
    (first | (go_at_call 36; refine (toF_any a c ns _ (show TwoF w w.heap.size w4.heap.size a c g2 ns _ by assumption).2.2.1 L1.out L2.out).mono ?_; rintro r wA ⟨k1, rfl, _, S1, hb⟩)
           | (go_at_call 37; refine (eqF_same _ _ _ _ ns _ (show TwoF w w.heap.size w4.heap.size a c g2 ns _ by assumption).2.2.2.1 (S1.row HT.out L2.out) L1.out L2.out).mono ?_; rintro r wA ⟨rfl, hb⟩))
  rename_i hLL
  have hE := hLL.2.2.2.2
  clear hL hLL
  go_wp2
  go_ret
  exact ⟨rfl, hE⟩
end Go.Proofs.Ythflalpapdaidaa
