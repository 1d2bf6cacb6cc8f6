/- Forests: copied; when two are the same (stage 5). -/
import Derived.Test.YthflalpapdaidaaTreD
namespace Go.Proofs.Ythflalpapdaidaa
open Go.RowKit

theorem SlabN.set {w : World} {g n k : Nat} {ns : List Nd} {p : Addr} (h : SlabN w g n ns k) (hp : p.block < g) (v : Value) : SlabN (w.setCell p v) g n ns k := by
  obtain ⟨cur, hh, hs, hc⟩ := h
  refine ⟨cur, (set_other v (by omega)).trans hh, hs, fun i hi => ?_⟩
  obtain ⟨g1, g2, g3, l1, l2, l3, p0, p1, p2, p3, s1, s2, s3⟩ := hc i hi
  exact ⟨g1, g2, g3, l1, l2, l3, p0, p1, p2, p3, s1.set (by omega) v, s2.set (by omega) v, s3.set (by omega) v⟩

set_option maxRecDepth 100000 in
set_option maxHeartbeats 2000000 in
theorem toF_any (a : Option Addr) (cap : Nat) (ns : List Nd) (w : World) (hrow : RowN w a ns) (hlen : ns.length ≤ 1048576) (hsm : ∀ i, i < ns.length → SmallN (nthN ns i)) :
    Calls Try.prog 36 #[FV (.slice a ns.length cap)] w fun e w' => ∃ g, e = .returned (FV (.slice (some ⟨g, 0, none⟩) ns.length ns.length)) ∧ w.heap.size ≤ g ∧ SlabN w' g ns.length ns ns.length ∧ Below w.heap.size w w' := by
  have HR : Hid (RowN w a ns) := hrow
  have HM : Hid (∀ i, i < ns.length → SmallN (nthN ns i)) := hsm
  have HL : Hid (ns.length ≤ 1048576) := hlen
  clear hrow hsm hlen
  have B0 : Below w.heap.size w (((w.alloc (.cells #[.slice a ns.length cap] 55)).alloc (.cells #[.slice none 0 0] 25)).alloc (.cells #[.slice none 0 0] 25)) := (((Below.refl _ _).alloc (Nat.le_refl _) _).alloc (by simp) _).alloc (by simp; omega) _
  go_enter Try.func36, Try.ntmps36
  go_wp2_with fail
  refine (toN_any a cap ns _ (HR.out.below B0) HL.out HM.out).mono ?_
  rintro e w1 ⟨g, rfl, hg, hS, hb1⟩
  have B1 := B0.trans (hb1.mono B0.size)
  have c2 : w1.cell? ⟨w.heap.size + 1, 0, none⟩ = some (.slice none 0 0) := (hb1.cell (p := ⟨w.heap.size + 1, 0, none⟩) (by simp)).trans (by go_simp)
  have c4 : w1.cell? ⟨w.heap.size + 2, 0, none⟩ = some (.slice none 0 0) := (hb1.cell (p := ⟨w.heap.size + 2, 0, none⟩) (by simp)).trans (by go_simp)
  have f2 : ∀ o, w1.frozen? ⟨w.heap.size + 1, o, none⟩ = false := fun o => (hb1.frozen (p := ⟨w.heap.size + 1, o, none⟩) (by simp)).trans (by go_simp)
  have f4 : ∀ o, w1.frozen? ⟨w.heap.size + 2, o, none⟩ = false := fun o => (hb1.frozen (p := ⟨w.heap.size + 2, o, none⟩) (by simp)).trans (by go_simp)
  have hg' : w.heap.size + 3 ≤ g := by simpa using hg
  have K : Hid (SlabN w1 g ns.length ns ns.length) := hS
  clear hS hb1 B0 hg
  go_wp2
  refine bodyPost_ret (v := FV (.slice (some ⟨g, 0, none⟩) ns.length ns.length)) (by go_simp; simp [results, Try.results36, go_sem, c2]) rfl ⟨g, rfl, by omega, ?_, ?_⟩
  · exact (K.out.set (by show _ < _; simp; omega) _).set (by show _ < _; simp; omega) _
  · exact (B1.setCell (p := ⟨w.heap.size + 2, 0, none⟩) (by simp) _).setCell (p := ⟨w.heap.size + 1, 0, none⟩) (by simp) _

set_option maxRecDepth 100000 in
set_option maxHeartbeats 2000000 in
theorem eqNode_same (ka va ia ka' va' ia' : Option Addr) (kc vc ic kc' vc' ic' : Nat) (l : Bool) (ks vs : List ByteArray) (is : List Int) (w : World) (h : NodeR w ka va ia (l, ks, vs, is)) (h' : NodeR w ka' va' ia' (l, ks, vs, is)) (hs : SmallN (l, ks, vs, is)) :
    Calls Try.prog 111 #[NV l ka ks.length kc va vs.length vc ia is.length ic, NV l ka' ks.length kc' va' vs.length vc' ia' is.length ic'] w fun e w' => e = .returned (.bool true) ∧ Below w.heap.size w w' := by
  obtain ⟨hk, hv, hi, _, _, _⟩ := h
  obtain ⟨hk', hv', hi', _, _, _⟩ := h'
  obtain ⟨lk, lv, li⟩ := hs
  have HK : Hid (RowS w ka ks) := hk
  have HV : Hid (RowS w va vs) := hv
  have HI : Hid (RowI w ia is) := hi
  have HK' : Hid (RowS w ka' ks) := hk'
  have HV' : Hid (RowS w va' vs) := hv'
  have HI' : Hid (RowI w ia' is) := hi'
  have LK : Hid (ks.length ≤ 1048576) := lk
  have LV : Hid (vs.length ≤ 1048576) := lv
  have LI : Hid (is.length ≤ 1048576) := li
  clear hk hv hi lk lv li hk' hv' hi'
  have B0 : Below w.heap.size w ((w.alloc (.cells #[.bool l, .slice ka ks.length kc, .slice va vs.length vc, .slice ia is.length ic] 93)).alloc (.cells #[.bool l, .slice ka' ks.length kc', .slice va' vs.length vc', .slice ia' is.length ic'] 93)) := ((Below.refl _ _).alloc (Nat.le_refl _) _).alloc (by simp) _
  go_enter Try.func111, Try.ntmps111
  go_wp2_with fail
  refine (eqS_same ka ka' kc kc' ks _ (HK.out.below B0) (HK'.out.below B0) LK.out).mono ?_
  rintro e w1 ⟨rfl, hb1⟩
  have d2 : w1.cell? ⟨w.heap.size, 2, none⟩ = some (.slice va vs.length vc) := (hb1.cell (p := ⟨w.heap.size, 2, none⟩) (by simp; omega)).trans (by go_simp)
  have d3 : w1.cell? ⟨w.heap.size, 3, none⟩ = some (.slice ia is.length ic) := (hb1.cell (p := ⟨w.heap.size, 3, none⟩) (by simp; omega)).trans (by go_simp)
  have e2 : w1.cell? ⟨w.heap.size + 1, 2, none⟩ = some (.slice va' vs.length vc') := (hb1.cell (p := ⟨w.heap.size + 1, 2, none⟩) (by simp)).trans (by go_simp)
  have e3 : w1.cell? ⟨w.heap.size + 1, 3, none⟩ = some (.slice ia' is.length ic') := (hb1.cell (p := ⟨w.heap.size + 1, 3, none⟩) (by simp)).trans (by go_simp)
  have n1 : w.heap.size + 1 < w1.heap.size := by have := hb1.size; simp at this; omega
  have B1 := B0.trans (hb1.mono B0.size)
  clear B0 hb1
  go_wp2_with fail
  refine (eqS_same va va' vc vc' vs _ (HV.out.below B1) (HV'.out.below B1) LV.out).mono ?_
  rintro e w2 ⟨rfl, hb2⟩
  have p3 : w2.cell? ⟨w.heap.size, 3, none⟩ = some (.slice ia is.length ic) := (hb2.cell (p := ⟨w.heap.size, 3, none⟩) (by show _ < _; simp; omega)).trans d3
  have q3 : w2.cell? ⟨w.heap.size + 1, 3, none⟩ = some (.slice ia' is.length ic') := (hb2.cell (p := ⟨w.heap.size + 1, 3, none⟩) n1).trans e3
  have B2 := B1.trans (hb2.mono B1.size)
  clear d2 d3 e2 e3 hb2 B1
  go_wp2_with fail
  refine (eqI_same ia ia' ic ic' is _ (HI.out.below B2) (HI'.out.below B2) LI.out).mono ?_
  rintro e w3 ⟨rfl, hb3⟩
  have B3 := B2.trans (hb3.mono B2.size)
  go_wp2
  go_ret
  exact ⟨rfl, B3⟩

/-- Four cells of a block. -/
abbrev Cell4 (w : World) (b o : Nat) (p q r s : Value) : Prop := w.cell? ⟨b, o, none⟩ = some p ∧ w.cell? ⟨b, o + 1, none⟩ = some q ∧ w.cell? ⟨b, o + 2, none⟩ = some r ∧ w.cell? ⟨b, o + 3, none⟩ = some s
theorem Cell4.below {w w' : World} {b o : Nat} {p q r s : Value} (h : Cell4 w b o p q r s) (hlt : b < w.heap.size) (hb : Below w.heap.size w w') : Cell4 w' b o p q r s :=
  ⟨(hb.cell (p := ⟨b, o, none⟩) hlt).trans h.1, (hb.cell (p := ⟨b, o + 1, none⟩) hlt).trans h.2.1, (hb.cell (p := ⟨b, o + 2, none⟩) hlt).trans h.2.2.1, (hb.cell (p := ⟨b, o + 3, none⟩) hlt).trans h.2.2.2⟩
/-- Two nodes in two rows; what lay in w lies there still. -/
abbrev PairN (w : World) (b1 o1 : Nat) (p1 q1 r1 s1 : Value) (b2 o2 : Nat) (p2 q2 r2 s2 : Value) (w' : World) : Prop :=
  Cell4 w' b1 o1 p1 q1 r1 s1 ∧ Cell4 w' b2 o2 p2 q2 r2 s2 ∧ b1 < w'.heap.size ∧ b2 < w'.heap.size ∧ Below w.heap.size w w'
theorem PairN.keep {w : World} {b1 o1 b2 o2 : Nat} {p1 q1 r1 s1 p2 q2 r2 s2 : Value} {w1 w2 : World} (h : PairN w b1 o1 p1 q1 r1 s1 b2 o2 p2 q2 r2 s2 w1) (hb : Below w1.heap.size w1 w2) : PairN w b1 o1 p1 q1 r1 s1 b2 o2 p2 q2 r2 s2 w2 :=
  ⟨h.1.below h.2.2.1 hb, h.2.1.below h.2.2.2.1 hb, Nat.lt_of_lt_of_le h.2.2.1 hb.size, Nat.lt_of_lt_of_le h.2.2.2.1 hb.size, below_step h.2.2.2.2 (Nat.le_refl _) hb⟩

set_option maxRecDepth 100000 in
set_option maxHeartbeats 2000000 in
theorem eqN_same (a1 a2 : Option Addr) (c1 c2 : Nat) (ns : List Nd) (w : World) (h1 : RowN w a1 ns) (h2 : RowN w a2 ns) (hlen : ns.length ≤ 1048576) (hsm : ∀ i, i < ns.length → SmallN (nthN ns i)) :
    Calls Try.prog 79 #[.slice a1 ns.length c1, .slice a2 ns.length c2] w fun e w' => e = .returned (.bool true) ∧ Below w.heap.size w w' := by
  have H1 : Hid (RowN w a1 ns) := h1
  have H2 : Hid (RowN w a2 ns) := h2
  have HM : Hid (∀ i, i < ns.length → SmallN (nthN ns i)) := hsm
  clear h1 h2 hsm
  generalize hL : ns.length = len at *
  have HL : Hid (ns.length = len) := hL
  clear hL
  go_enter Try.func79, Try.ntmps79
  go_wp2
  go_loopw [5] (fun i wr => ∃ k : Nat, k ≤ len ∧ i = .int .i64 k ∧ Below w.heap.size w wr) (fun i _ => len - (intOf i).toNat)
  case atStart => exact ⟨0, by omega, rfl, Below.refl _ _⟩
  case round =>
    obtain ⟨k, hk, rfl, hbl⟩ := hrel
    by_cases hlt : k < len
    · obtain ⟨b1, o1, rfl, hlb1, ka, kc, va, vc, ia, ic, x0, x1, x2, x3, hr⟩ := (H1.out.below hbl) k (by rw [HL.out]; exact hlt)
      obtain ⟨b2, o2, rfl, hlb2, ka', kc', va', vc', ia', ic', y0, y1, y2, y3, hr'⟩ := (H2.out.below hbl) k (by rw [HL.out]; exact hlt)
      have hm := HM.out k hlt
      generalize nthN ns k = nd at *
      obtain ⟨l, ks, vs, is⟩ := nd
      simp only at x0 x1 x2 x3 y0 y1 y2 y3
      have HR1 : Hid (NodeR wr ka va ia (l, ks, vs, is)) := hr
      have HR2 : Hid (NodeR wr ka' va' ia' (l, ks, vs, is)) := hr'
      have HMm : Hid (SmallN (l, ks, vs, is)) := hm
      have hP : PairN wr b1 (o1 + k * 4) (.bool l) (.slice ka ks.length kc) (.slice va vs.length vc) (.slice ia is.length ic) b2 (o2 + k * 4) (.bool l) (.slice ka' ks.length kc') (.slice va' vs.length vc') (.slice ia' is.length ic') wr.drew := ⟨⟨x0, x1, x2, x3⟩, ⟨y0, y1, y2, y3⟩, hlb1, hlb2, (Below.refl _ _).drew⟩
      have hltI : (k : Int) < (len : Int) := by omega
      clear x0 x1 x2 x3 y0 y1 y2 y3 hr hr' hm
      go_wp2_with fail
      go_region_held3 (PairN wr b1 (o1 + k * 4) (.bool l) (.slice ka ks.length kc) (.slice va vs.length vc) (.slice ia is.length ic) b2 (o2 + k * 4) (.bool l) (.slice ka' ks.length kc') (.slice va' vs.length vc') (.slice ia' is.length ic')) (first | exact hP | exact PairN.keep (by assumption) hb) (first | (go_at_call 111; refine (eqNode_same ka va ia ka' va' ia' kc vc ic kc' vc' ic' l ks vs is _ (HR1.out.below (Below.refl _ _).drew) (HR2.out.below (Below.refl _ _).drew) HMm.out).mono ?_; rintro e wA ⟨rfl, hb⟩))
      rename_i hPL
      have hB := below_step hbl (Nat.le_refl _) hPL.2.2.2.2
      clear hP hPL
      go_wp2
      go_roundw
      case rel => exact ⟨k + 1, by omega, by go_num, hB⟩
      case measure => simp [intOf]; omega
    · go_wp2
      go_ret
      exact ⟨rfl, hbl⟩

set_option maxRecDepth 100000 in
theorem eqF_same (a1 a2 : Option Addr) (c1 c2 : Nat) (ns : List Nd) (w : World) (h1 : RowN w a1 ns) (h2 : RowN w a2 ns) (hlen : ns.length ≤ 1048576) (hsm : ∀ i, i < ns.length → SmallN (nthN ns i)) :
    Calls Try.prog 37 #[FV (.slice a1 ns.length c1), FV (.slice a2 ns.length c2)] w fun e w' => e = .returned (.bool true) ∧ Below w.heap.size w w' := by
  have H1 : Hid (RowN w a1 ns) := h1
  have H2 : Hid (RowN w a2 ns) := h2
  have HM : Hid (∀ i, i < ns.length → SmallN (nthN ns i)) := hsm
  have HL : Hid (ns.length ≤ 1048576) := hlen
  clear h1 h2 hsm hlen
  have B0 : Below w.heap.size w ((w.alloc (.cells #[.slice a1 ns.length c1] 25)).alloc (.cells #[.slice a2 ns.length c2] 25)) := ((Below.refl _ _).alloc (Nat.le_refl _) _).alloc (by simp) _
  go_enter Try.func37, Try.ntmps37
  go_wp2_with fail
  refine (eqN_same a1 a2 c1 c2 ns _ (H1.out.below B0) (H2.out.below B0) HL.out HM.out).mono ?_
  rintro e w1 ⟨rfl, hb1⟩
  have B1 := B0.trans (hb1.mono B0.size)
  go_wp2
  go_ret
  exact ⟨rfl, B1⟩
end Go.Proofs.Ythflalpapdaidaa
