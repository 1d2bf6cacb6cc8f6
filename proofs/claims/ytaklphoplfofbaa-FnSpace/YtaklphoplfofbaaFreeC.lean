/- What SpaceFree of both sides answers (stage 4). -/
import Derived.Test.YtaklphoplfofbaaFreeB
namespace Go.Proofs.Ytaklphoplfofbaa
open Go.RowKit Go.Maps Go.WideShapes Go.ChangeMaps Go.MapKept

noncomputable def frL (t e : Int) (ss : List Int) (ps : List P2) (qs : List Int) : List Int := if asB (OkSp t e ss ps qs) = true then freeK (usedB ss ps) t.toNat else []
noncomputable def frC (t e : Int) (ss : List Int) (ps : List P2) (qs : List Int) : Int := if asB (OkSp t e ss ps qs) = true then 0 else 1
theorem frL_len (t e : Int) (ss : List Int) (ps : List P2) (qs : List Int) : (frL t e ss ps qs).length ≤ 64 := by
  unfold frL
  split
  · rename_i h
    have := (asB_is h).1
    have h2 := freeK_len (usedB ss ps) t.toNat
    omega
  · exact Nat.zero_le _
abbrev RetF (w : World) (l : List Int) (c : Int) (r : Ending) (w' : World) : Prop := ∃ v, r = .returned (.tuple #[v, .int .i64 c]) ∧ OwnI w' w.heap.size v l ∧ Below w.heap.size w w'
theorem own_base {w : World} {B B' : Nat} {v : Value} {l : List Int} (h : OwnI w B v l) (hB : B' ≤ B) : OwnI w B' v l :=
  ⟨h.1, h.2.imp id (fun ⟨g, cap, cur, e, hg, r⟩ => ⟨g, cap, cur, e, Nat.le_trans hB hg, r⟩)⟩

set_option maxRecDepth 100000 in
set_option maxHeartbeats 2000000 in
theorem implSpaceFree_any (t e : Int) (a1 a2 a3 : Option Addr) (c1 c2 c3 : Nat) (ss : List Int) (ps : List P2) (qs : List Int) (w : World) (h1 : RowI w a1 ss) (h2 : RowP w a2 ps) (h3 : RowI w a3 qs) (l1 : ss.length ≤ 1048576) (l2 : ps.length ≤ 1048576) (l3 : qs.length ≤ 1048576) :
    Calls Try.prog 16 #[SV t e (.slice a1 ss.length c1) (.slice a2 ps.length c2) (.slice a3 qs.length c3)] w (RetF w (frL t e ss ps qs) (frC t e ss ps qs)) := by
  have H1 : Hid (RowI w a1 ss) := h1
  have H2 : Hid (RowP w a2 ps) := h2
  have H3 : Hid (RowI w a3 qs) := h3
  have L1 : Hid (ss.length ≤ 1048576) := l1
  have L2 : Hid (ps.length ≤ 1048576) := l2
  have L3 : Hid (qs.length ≤ 1048576) := l3
  clear h1 h2 h3 l1 l2 l3
  have B0 : Below w.heap.size w (w.alloc (SC t e (.slice a1 ss.length c1) (.slice a2 ps.length c2) (.slice a3 qs.length c3) 29)) := (Below.refl _ _).alloc (Nat.le_refl _) _
  have X0 : Hid (BoxS w.heap.size t e (.slice a1 ss.length c1) (.slice a2 ps.length c2) (.slice a3 qs.length c3) (w.alloc (SC t e (.slice a1 ss.length c1) (.slice a2 ps.length c2) (.slice a3 qs.length c3) 29))) := BoxS.new 29
  have hmm := @run_makeMap Try.prog
  go_enter Try.func16, Try.ntmps16
  go_wp2_with fail
  refine (implSpaceOK_any t e a1 a2 a3 c1 c2 c3 ss ps qs _ (H1.out.below B0) (H2.out.below B0) (H3.out.below B0) L1.out L2.out L3.out).mono ?_
  rintro r w1 ⟨rfl, b1⟩
  have B1 := B0.trans (b1.mono B0.size)
  have X1 := X0.out.below b1 (by simp)
  clear b1 B0 X0
  cases hp : asB (OkSp t e ss ps qs)
  · have E1 : Hid (frL t e ss ps qs = []) := by show _ = _; unfold frL; rw [hp]; rfl
    have E2 : Hid (frC t e ss ps qs = 1) := by show _ = _; unfold frC; rw [hp]; rfl
    clear hp X1 hmm
    go_wp2
    go_ret2
    rw [E1.out, E2.out]
    exact ⟨_, rfl, OwnI.nil _ _, B1⟩
  · have E1 : Hid (frL t e ss ps qs = freeK (usedB ss ps) t.toNat) := by show _ = _; unfold frL; rw [hp]; rfl
    have E2 : Hid (frC t e ss ps qs = 0) := by show _ = _; unfold frC; rw [hp]; rfl
    have OK : Hid (OkSp t e ss ps qs) := asB_is hp
    obtain ⟨t0, t1⟩ := OK.out.1
    obtain ⟨T, rfl⟩ := Int.eq_ofNat_of_zero_le (show 0 ≤ t by omega)
    have hmd : Hid (MapOf (w1.alloc (.map #[] 0)) w1.heap.size 0 (.map [])) := World.ownsMap_made _ _ _ _
    have BM : Below w.heap.size w (w1.alloc (.map #[] 0)) := B1.alloc B1.size _
    have s1 : w.heap.size < w1.heap.size := X1.2.2.2.2.2
    have XM : Hid (BoxS w.heap.size T e (.slice a1 ss.length c1) (.slice a2 ps.length c2) (.slice a3 qs.length c3) (w1.alloc (.map #[] 0))) := X1.below ((Below.refl w1.heap.size w1).alloc (Nat.le_refl _) _) s1
    obtain ⟨x0, x1, x2, x3, x4, x5⟩ := X1
    have hne : w1.heap.size ≠ w.heap.size := by omega
    clear hp
    go_wp2_with fail
    refine (fill_any w1.heap.size 0 (.map []) T e a1 a2 c1 c2 _ ss ps _ hmd.out (H1.out.below BM) (H2.out.below BM) L1.out L2.out (by have := OK.out.2.1; unfold InR; omega)
      (fun i hi => by have := OK.out.2.2.1.1 i hi; unfold InR; omega) (fun i hi => by have := OK.out.2.2.2.1.1 i hi; have := OK.out.2.1; unfold InR; omega)).mono ?_
    rintro r w2 ⟨rfl, hm2, g2⟩
    have HM2 : Hid (MapOf w2 w1.heap.size (ss.length + ps.length) (dOf (kvOf e ss ps))) := hm2
    have B2 : Below w.heap.size w w2 := BM.grown g2 BM.size (fun i hi => by cases hi; exact B1.size)
    clear x0 x1 x2 x3 x4 x5
    obtain ⟨x0, x1, x2, x3, x4, x5⟩ := XM.out.grown hmd.out g2
    clear hm2 hmd XM BM g2 hmm
    go_wp2_with fail
    refine (implFree_any w1.heap.size _ T e ss ps w2 HM2.out (by omega)).mono ?_
    rintro r w3 ⟨v, rfl, o3, b3⟩
    have B3 := B2.trans (b3.mono B2.size)
    have O3 : Hid (OwnI w3 w2.heap.size v (freeK (usedB ss ps) T)) := o3
    have Z2 : Hid (w.heap.size ≤ w2.heap.size) := B2.size
    clear o3 b3 B2 x0 x1 x2 x3 x4 x5
    go_wp2
    go_ret2
    rw [E1.out, E2.out]
    exact ⟨_, rfl, own_base O3.out Z2.out, B3⟩

set_option maxRecDepth 100000 in
set_option maxHeartbeats 2000000 in
theorem specSpaceFree_any (t e : Int) (a1 a2 a3 : Option Addr) (c1 c2 c3 : Nat) (ss : List Int) (ps : List P2) (qs : List Int) (w : World) (h1 : RowI w a1 ss) (h2 : RowP w a2 ps) (h3 : RowI w a3 qs) (l1 : ss.length ≤ 1048576) (l2 : ps.length ≤ 1048576) (l3 : qs.length ≤ 1048576) :
    Calls Try.prog 25 #[SV t e (.slice a1 ss.length c1) (.slice a2 ps.length c2) (.slice a3 qs.length c3)] w (RetF w (frL t e ss ps qs) (frC t e ss ps qs)) := by
  have H1 : Hid (RowI w a1 ss) := h1
  have H2 : Hid (RowP w a2 ps) := h2
  have H3 : Hid (RowI w a3 qs) := h3
  have L1 : Hid (ss.length ≤ 1048576) := l1
  have L2 : Hid (ps.length ≤ 1048576) := l2
  have L3 : Hid (qs.length ≤ 1048576) := l3
  clear h1 h2 h3 l1 l2 l3
  have B0 : Below w.heap.size w (w.alloc (SC t e (.slice a1 ss.length c1) (.slice a2 ps.length c2) (.slice a3 qs.length c3) 29)) := (Below.refl _ _).alloc (Nat.le_refl _) _
  have X0 : Hid (BoxS w.heap.size t e (.slice a1 ss.length c1) (.slice a2 ps.length c2) (.slice a3 qs.length c3) (w.alloc (SC t e (.slice a1 ss.length c1) (.slice a2 ps.length c2) (.slice a3 qs.length c3) 29))) := BoxS.new 29
  go_enter Try.func25, Try.ntmps25
  go_wp2_with fail
  refine (specSpaceOK_any t e a1 a2 a3 c1 c2 c3 ss ps qs _ (H1.out.below B0) (H2.out.below B0) (H3.out.below B0) L1.out L2.out L3.out).mono ?_
  rintro r w1 ⟨rfl, b1⟩
  have B1 := B0.trans (b1.mono B0.size)
  have X1 := X0.out.below b1 (by simp)
  clear b1 B0 X0
  cases hp : asB (OkSp t e ss ps qs)
  · have E1 : Hid (frL t e ss ps qs = []) := by show _ = _; unfold frL; rw [hp]; rfl
    have E2 : Hid (frC t e ss ps qs = 1) := by show _ = _; unfold frC; rw [hp]; rfl
    have O1 : Hid (OwnI (w1.alloc (.cells #[] 3)) w.heap.size (.slice (some ⟨w1.heap.size, 0, none⟩) 0 0) []) := OwnI.made w1 _ B1.size
    clear hp X1
    go_wp2
    go_ret2
    rw [E1.out, E2.out]
    exact ⟨_, rfl, O1.out, B1.alloc B1.size _⟩
  · have E1 : Hid (frL t e ss ps qs = freeK (usedB ss ps) t.toNat) := by show _ = _; unfold frL; rw [hp]; rfl
    have E2 : Hid (frC t e ss ps qs = 0) := by show _ = _; unfold frC; rw [hp]; rfl
    have OK : Hid (OkSp t e ss ps qs) := asB_is hp
    obtain ⟨t0, t1⟩ := OK.out.1
    obtain ⟨T, rfl⟩ := Int.eq_ofNat_of_zero_le (show 0 ≤ t by omega)
    obtain ⟨x0, x1, x2, x3, x4, x5⟩ := X1
    clear hp
    go_wp2_with fail
    refine (l04Free_any T e a1 a2 c1 c2 _ ss ps w1 (H1.out.below B1) (H2.out.below B1) L1.out L2.out (by omega)).mono ?_
    rintro r w3 ⟨v, rfl, o3, b3⟩
    have B3 := B1.trans (b3.mono B1.size)
    have O3 : Hid (OwnI w3 w1.heap.size v (freeK (usedB ss ps) T)) := o3
    have Z2 : Hid (w.heap.size ≤ w1.heap.size) := B1.size
    clear o3 b3 B1 x0 x1 x2 x3 x4 x5
    go_wp2
    go_ret2
    rw [E1.out, E2.out]
    exact ⟨_, rfl, own_base O3.out Z2.out, B3⟩
end Go.Proofs.Ytaklphoplfofbaa
