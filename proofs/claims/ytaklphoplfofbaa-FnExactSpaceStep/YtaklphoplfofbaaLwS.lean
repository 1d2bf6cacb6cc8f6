/- The law on SpaceStep, walked (stage 4). -/
import Derived.Test.YtaklphoplfofbaaLwE
import Derived.Test.YtaklphoplfofbaaRgB
import Derived.Test.YtaklphoplfofbaaRgC
import Derived.Test.YtaklphoplfofbaaRgD
import Derived.Test.YtaklphoplfofbaaNewA
import Derived.Test.YtaklphoplfofbaaOkL
namespace Go.Proofs.Ytaklphoplfofbaa
open Go.RowKit

/-- Two cells of a block. -/
theorem two_of {z : Nat} {x y : Value} {ty : TypeId} {w : World} (h : w.heap[z]? = some (.cells #[x, y] ty (0, 0))) : w.cell? ⟨z, 0, none⟩ = some x ∧ w.cell? ⟨z, 1, none⟩ = some y := ⟨by simp [World.cell?, h], by simp [World.cell?, h]⟩
theorem own_ne {w : World} {B e m n : Nat} {v : Value} {xs : List Value} (h : w.ownsRow B e m v n xs) {Y : Nat} {cs : Array Value} {ty : TypeId} (hY : w.heap[Y]? = some (.cells cs ty (0, 0))) (hne : e ≠ ty) {j : Nat} (hj : v.ownBlock = some j) : j ≠ Y := by
  rcases h.2 with ⟨rfl, _⟩ | ⟨g, cap, cur, rfl, _, hh, _⟩
  · cases hj
  · cases hj
    rintro rfl
    rw [hY] at hh
    injection hh with hh
    injection hh with _ h2
    exact hne h2.symm
/-- What the law has at hand: its arguments, what spec answered, where impl's answer lies. -/
def StB (w : World) (t e kk n : Int) (a1 a2 a3 : Option Addr) (c1 c2 c3 : Nat) (ss : List Int) (ps : List P2) (qs : List Int) (T : Int) (R : SR) (Y Z Y' Z' n1 : Nat) (u1 u2 u3 u4 v1 v2 v3 v4 : Value) (w' : World) : Prop :=
  w'.heap[w.heap.size]? = some (.cells #[.int .i64 t, .int .i64 e, .slice a1 ss.length c1, .slice a2 ps.length c2, .slice a3 qs.length c3] 51 (0, 0)) ∧ w'.heap[w.heap.size + 1]? = some (.cells #[.int .i64 kk, .int .i64 n] 56 (0, 0)) ∧ w'.heap[Y]? = some (.cells #[.int .i64 T, .int .i64 R.e, u1, u2, u3] 29 (0, 0)) ∧ w'.heap[Z]? = some (.cells #[.int .i64 R.c, u4] 37 (0, 0)) ∧ w'.heap[Y']? = some (.cells #[.int .i64 T, .int .i64 R.e, v1, v2, v3] 29 (0, 0)) ∧ w'.heap[Z']? = some (.cells #[.int .i64 R.c, v4] 37 (0, 0)) ∧ O4 false w' n1 u1 u2 u3 u4 R ∧ Below w.heap.size w w'
theorem StB.keep {w : World} {t e kk n : Int} {a1 a2 a3 : Option Addr} {c1 c2 c3 : Nat} {ss : List Int} {ps : List P2} {qs : List Int} {T : Int} {R : SR} {Y Z Y' Z' n1 : Nat} {u1 u2 u3 u4 v1 v2 v3 v4 : Value} {w1 w2 : World} (h : StB w t e kk n a1 a2 a3 c1 c2 c3 ss ps qs T R Y Z Y' Z' n1 u1 u2 u3 u4 v1 v2 v3 v4 w1) (hb : Below w1.heap.size w1 w2) : StB w t e kk n a1 a2 a3 c1 c2 c3 ss ps qs T R Y Z Y' Z' n1 u1 u2 u3 u4 v1 v2 v3 v4 w2 :=
  ⟨keepBlk h.1 hb (slab_lt h.1), keepBlk h.2.1 hb (slab_lt h.2.1), keepBlk h.2.2.1 hb (slab_lt h.2.2.1), keepBlk h.2.2.2.1 hb (slab_lt h.2.2.2.1), keepBlk h.2.2.2.2.1 hb (slab_lt h.2.2.2.2.1), keepBlk h.2.2.2.2.2.1 hb (slab_lt h.2.2.2.2.2.1), h.2.2.2.2.2.2.1.keep fun j _ hl => hb.block j hl, below_step h.2.2.2.2.2.2.2 (Nat.le_refl _) hb⟩
theorem StB.kept {w : World} {t e kk n : Int} {a1 a2 a3 : Option Addr} {c1 c2 c3 : Nat} {ss : List Int} {ps : List P2} {qs : List Int} {T : Int} {R : SR} {Y Z Y' Z' n1 n5 : Nat} {u1 u2 u3 u4 v1 v2 v3 v4 : Value} {w1 w2 : World} {S : Nat → Prop} (h : StB w t e kk n a1 a2 a3 c1 c2 c3 ss ps qs T R Y Z Y' Z' n1 u1 u2 u3 u4 v1 v2 v3 v4 w1) (hK : Kept S w1 w2) (hS : ∀ j, S j → n5 ≤ j ∧ j ≠ Y' ∧ j ≠ Z') (hn : w.heap.size + 1 < n5 ∧ Y < n5 ∧ Z < n5) (hu : ∀ j, (u1.ownBlock = some j ∨ u2.ownBlock = some j ∨ u3.ownBlock = some j ∨ u4.ownBlock = some j) → j < n5) : StB w t e kk n a1 a2 a3 c1 c2 c3 ss ps qs T R Y Z Y' Z' n1 u1 u2 u3 u4 v1 v2 v3 v4 w2 := by
  obtain ⟨x1, x2, x3, x4, x5, x6, o, hB⟩ := h
  have lo : ∀ j, j < n5 → ¬ S j := fun j hj hs => by have := (hS j hs).1; omega
  refine ⟨(hK.block _ (slab_lt x1) (lo _ (by omega))).trans x1, (hK.block _ (slab_lt x2) (lo _ (by omega))).trans x2, (hK.block _ (slab_lt x3) (lo _ hn.2.1)).trans x3, (hK.block _ (slab_lt x4) (lo _ hn.2.2)).trans x4, (hK.block _ (slab_lt x5) (fun hs => (hS _ hs).2.1 rfl)).trans x5, (hK.block _ (slab_lt x6) (fun hs => (hS _ hs).2.2 rfl)).trans x6, ?_, hB.trans (hK.below hB.size fun j hj => by have := (hS j hj).1; omega)⟩
  obtain ⟨o1, o2, o3, o4, sp⟩ := o
  exact ⟨own_at o1 fun j hj => hK.block j (own_lt o1 hj).2 (lo j (hu j (.inl hj))), own_at o2 fun j hj => hK.block j (own_lt o2 hj).2 (lo j (hu j (.inr (.inl hj)))), own_at o3 fun j hj => hK.block j (own_lt o3 hj).2 (lo j (hu j (.inr (.inr (.inl hj))))), own_at o4 fun j hj => hK.block j (own_lt o4 hj).2 (lo j (hu j (.inr (.inr (.inr hj))))), sp⟩

set_option maxRecDepth 100000 in
set_option maxHeartbeats 16000000 in
theorem lawSpaceStep (t e kk n : Int) (a1 a2 a3 : Option Addr) (c1 c2 c3 : Nat) (ss : List Int) (ps : List P2) (qs : List Int) (w : World) (h1 : RowI w a1 ss) (h2 : RowP w a2 ps) (h3 : RowI w a3 qs) (m1 : ss.length ≤ maxLen) (m2 : ps.length ≤ maxLen) (m3 : qs.length ≤ maxLen) :
    Calls Try.prog 7 #[SV t e (.slice a1 ss.length c1) (.slice a2 ps.length c2) (.slice a3 qs.length c3), .agg #[.int .i64 kk, .int .i64 n]] w fun r w' => r = .returned (.bool true) ∧ Below w.heap.size w w' := by
  have H : Hid (RowsIn a1 a2 a3 ss ps qs w) := ⟨h1, h2, h3⟩
  have M1 : Hid (ss.length ≤ maxLen) := m1
  have M2 : Hid (ps.length ≤ maxLen) := m2
  have M3 : Hid (qs.length ≤ maxLen) := m3
  clear h1 h2 h3 m1 m2 m3
  obtain ⟨W0, hW0⟩ : ∃ W0, (w.alloc (SC t e (.slice a1 ss.length c1) (.slice a2 ps.length c2) (.slice a3 qs.length c3) 51)).alloc (.cells #[.int .i64 kk, .int .i64 n] 56) = W0 := ⟨_, rfl⟩
  have B0 : Below w.heap.size w W0 := hW0 ▸ ((Below.refl _ _).alloc (Nat.le_refl _) _).alloc (by simp) _
  have z0 : W0.heap.size = w.heap.size + 2 := by rw [← hW0]; simp
  have xb : W0.heap[w.heap.size]? = some (.cells #[.int .i64 t, .int .i64 e, .slice a1 ss.length c1, .slice a2 ps.length c2, .slice a3 qs.length c3] 51 (0, 0)) := hW0 ▸ (heap_old _ _ _ (by simp)).trans (heap_new' _ _ _ rfl)
  have xa : W0.heap[w.heap.size + 1]? = some (.cells #[.int .i64 kk, .int .i64 n] 56 (0, 0)) := hW0 ▸ heap_new' _ _ _ (by simp)
  have XB : Hid (W0.heap[w.heap.size]? = some (.cells #[.int .i64 t, .int .i64 e, .slice a1 ss.length c1, .slice a2 ps.length c2, .slice a3 qs.length c3] 51 (0, 0))) := xb
  have XA : Hid (W0.heap[w.heap.size + 1]? = some (.cells #[.int .i64 kk, .int .i64 n] 56 (0, 0))) := xa
  obtain ⟨y0, y1, y2, y3, y4⟩ := box5_of xb
  clear xb xa
  obtain ⟨T, hT⟩ : ∃ x, tx t e ss ps qs = x := ⟨_, rfl⟩
  obtain ⟨R, hR⟩ : ∃ x, rx t e ss ps qs kk n = x := ⟨_, rfl⟩
  obtain ⟨D, hD⟩ : ∃ x, dx t e ss ps qs = x := ⟨_, rfl⟩
  have LR : Hid ((R.ss.length ≤ 1048576 ∧ R.ps.length ≤ 1048576 ∧ R.qs.length ≤ 1048576) ∧ R.pg.length ≤ 64) := hR ▸ rx_len t e ss ps qs kk n
  have CI : Hid (ss.length ≤ 1048576 → ps.length ≤ 1048576 → qs.length ≤ 1048576 → ∀ f1 f2 f3 w', RowsIn (some ⟨f1, 0, none⟩) (some ⟨f2, 0, none⟩) (some ⟨f3, 0, none⟩) ss ps qs w' → Calls Try.prog 31 #[SV t e (fullS f1 ss.length) (fullS f2 ps.length) (fullS f3 qs.length), .agg #[.int .i64 kk, .int .i64 n]] w' (RetS true w' T R D)) := fun i1 i2 i3 f1 f2 f3 w' hv => by
    subst hT hR hD
    exact implStep_any t e kk n _ _ _ _ _ _ ss ps qs w' hv.1 hv.2.1 hv.2.2 i1 i2 i3
  have CS : Hid (ss.length ≤ 1048576 → ps.length ≤ 1048576 → qs.length ≤ 1048576 → ∀ f1 f2 f3 w', RowsIn (some ⟨f1, 0, none⟩) (some ⟨f2, 0, none⟩) (some ⟨f3, 0, none⟩) ss ps qs w' → Calls Try.prog 29 #[SV t e (fullS f1 ss.length) (fullS f2 ps.length) (fullS f3 qs.length), .agg #[.int .i64 kk, .int .i64 n]] w' (RetS false w' T R D)) := fun i1 i2 i3 f1 f2 f3 w' hv => by
    subst hT hR hD
    exact specStep_any t e kk n _ _ _ _ _ _ ss ps qs w' hv.1 hv.2.1 hv.2.2 i1 i2 i3 (Nat.le_refl _) (Nat.le_refl _) (Nat.le_refl _)
  clear hT hR hD
  go_enter Try.func7, Try.ntmps7
  go_wp2_with fail
  refine (szSpace_any t e a1 a2 a3 _ _ _ c1 c2 c3 1048576 W0 M1.out M2.out M3.out (by omega) (by omega)).mono ?_
  rintro r w1 ⟨x, rfl, x0, x1, x2, b1⟩
  have B1 : Below w.heap.size w w1 := B0.trans (b1.mono B0.size)
  have XB1 : Hid (w1.heap[w.heap.size]? = some (.cells #[.int .i64 t, .int .i64 e, .slice a1 ss.length c1, .slice a2 ps.length c2, .slice a3 qs.length c3] 51 (0, 0))) := keepBlk XB.out b1 (by omega)
  have XA1 : Hid (w1.heap[w.heap.size + 1]? = some (.cells #[.int .i64 kk, .int .i64 n] 56 (0, 0))) := keepBlk XA.out b1 (by omega)
  have N1 : Hid (w.heap.size + 1 < w1.heap.size) := slab_lt XA1.out
  clear y0 y1 y2 y3 y4 XB XA B0 b1 z0 hW0
  by_cases hx : x < 0
  · clear x2 XB1 XA1
    go_wp2
    go_ret
    exact ⟨rfl, B1⟩
  have L1 : Hid (ss.length ≤ 1048576) := (x2 (by omega)).1
  have L2 : Hid (ps.length ≤ 1048576) := (x2 (by omega)).2.1
  have L3 : Hid (qs.length ≤ 1048576) := (x2 (by omega)).2.2
  clear x2 x0 x1
  have HB1 : Hid (Below w.heap.size w w1) := B1
  clear B1
  go_wp2_with fail
  refine reg5 w1 w.heap.size (w.heap.size + 1) t e kk n a1 a2 a3 c1 c2 c3 ss ps qs T D R _ _ _ _ _ _ _ _ _ ⟨(box5_of XB1.out).1, (box5_of XB1.out).2.1, (box5_of XB1.out).2.2.1, (box5_of XB1.out).2.2.2.1, (box5_of XB1.out).2.2.2.2, slab_lt XB1.out⟩ ⟨(two_of XA1.out).1, (two_of XA1.out).2, slab_lt XA1.out⟩ (H.out.below HB1.out) L1.out L2.out L3.out (CS.out L1.out L2.out L3.out) ?_
  intro s5_0 s5_1 s5_2 s5_3 s5_4 s5_5 s5_6 s5_7 s5_8 Y Z u1 u2 u3 u4 w5 hY hZ nY nZ o5 b5
  have HY5 : Hid (w5.heap[Y]? = some (.cells #[.int .i64 T, .int .i64 R.e, u1, u2, u3] 29 (0, 0))) := hY
  have HZ5 : Hid (w5.heap[Z]? = some (.cells #[.int .i64 R.c, u4] 37 (0, 0))) := hZ
  have O5 : Hid (O4 false w5 w1.heap.size u1 u2 u3 u4 R) := o5
  have HB5 : Hid (Below w.heap.size w w5) := HB1.out.trans (b5.mono HB1.out.size)
  have XB5 : Hid (w5.heap[w.heap.size]? = some (.cells #[.int .i64 t, .int .i64 e, .slice a1 ss.length c1, .slice a2 ps.length c2, .slice a3 qs.length c3] 51 (0, 0))) := keepBlk XB1.out b5 (slab_lt XB1.out)
  have XA5 : Hid (w5.heap[w.heap.size + 1]? = some (.cells #[.int .i64 kk, .int .i64 n] 56 (0, 0))) := keepBlk XA1.out b5 (slab_lt XA1.out)
  have N5 : Hid (w.heap.size + 1 < w5.heap.size ∧ Y < w5.heap.size ∧ Z < w5.heap.size) := ⟨slab_lt XA5.out, slab_lt hY, slab_lt hZ⟩
  have UL : Hid (∀ j, (u1.ownBlock = some j ∨ u2.ownBlock = some j ∨ u3.ownBlock = some j ∨ u4.ownBlock = some j) → j < w5.heap.size) := fun j hj => by
    rcases hj with h | h | h | h
    · exact (own_lt O5.out.1 h).2
    · exact (own_lt O5.out.2.1 h).2
    · exact (own_lt O5.out.2.2.1 h).2
    · exact (own_lt O5.out.2.2.2.1 h).2
  clear hY hZ nY nZ o5 b5 XB1 XA1
  obtain ⟨y0, y1, y2, y3, y4⟩ := box5_of XB5.out
  have R5 := H.out.below HB5.out
  go_wp2_with fail
  refine (toSpace_any t e a1 a2 a3 c1 c2 c3 ss ps qs w5 R5.1 R5.2.1 R5.2.2 L1.out L2.out L3.out).mono ?_
  rintro r w6 ⟨g1, g2, g3, rfl, S1, S2, S3, G1, G2, G3, N12, N13, N23, b6⟩
  have A6 : Below w6.heap.size w6 (w6.alloc (SC t e (fullS g1 ss.length) (fullS g2 ps.length) (fullS g3 qs.length) 29)) := (Below.refl _ _).alloc (Nat.le_refl _) _
  have b6' : Below w5.heap.size w5 (w6.alloc (SC t e (fullS g1 ss.length) (fullS g2 ps.length) (fullS g3 qs.length) 29)) := b6.trans (A6.mono b6.size)
  have GB : Hid ((w5.heap.size ≤ g1 ∧ g1 < w6.heap.size) ∧ (w5.heap.size ≤ g2 ∧ g2 < w6.heap.size) ∧ (w5.heap.size ≤ g3 ∧ g3 < w6.heap.size)) := ⟨⟨G1, S1.lt⟩, ⟨G2, S2.lt⟩, ⟨G3, S3.lt⟩⟩
  have GN : Hid (g1 ≠ g2 ∧ g1 ≠ g3 ∧ g2 ≠ g3) := ⟨N12, N13, N23⟩
  have KS6 : Hid (SlabI (w6.alloc (SC t e (fullS g1 ss.length) (fullS g2 ps.length) (fullS g3 qs.length) 29)) g1 ss.length ss ss.length ∧ SlabP (w6.alloc (SC t e (fullS g1 ss.length) (fullS g2 ps.length) (fullS g3 qs.length) 29)) g2 ps.length ps ps.length ∧ SlabI (w6.alloc (SC t e (fullS g1 ss.length) (fullS g2 ps.length) (fullS g3 qs.length) 29)) g3 qs.length qs qs.length) := ⟨S1.below A6 S1.lt, S2.below A6 S2.lt, S3.below A6 S3.lt⟩
  have XX6 : Hid (BoxS w6.heap.size t e (fullS g1 ss.length) (fullS g2 ps.length) (fullS g3 qs.length) (w6.alloc (SC t e (fullS g1 ss.length) (fullS g2 ps.length) (fullS g3 qs.length) 29))) := BoxS.new 29
  have z6 : (w6.alloc (SC t e (fullS g1 ss.length) (fullS g2 ps.length) (fullS g3 qs.length) 29)).heap.size = w6.heap.size + 1 := by simp
  have Z6 : Hid ((w6.alloc (SC t e (fullS g1 ss.length) (fullS g2 ps.length) (fullS g3 qs.length) 29)).heap.size = w6.heap.size + 1) := z6
  have N6 : Hid (w5.heap.size ≤ w6.heap.size) := b6.size
  have HB6 : Hid (Below w.heap.size w (w6.alloc (SC t e (fullS g1 ss.length) (fullS g2 ps.length) (fullS g3 qs.length) 29))) := HB5.out.trans (b6'.mono HB5.out.size)
  have XB6 : Hid ((w6.alloc (SC t e (fullS g1 ss.length) (fullS g2 ps.length) (fullS g3 qs.length) 29)).heap[w.heap.size]? = some (.cells #[.int .i64 t, .int .i64 e, .slice a1 ss.length c1, .slice a2 ps.length c2, .slice a3 qs.length c3] 51 (0, 0))) := keepBlk XB5.out b6' (slab_lt XB5.out)
  have XA6 : Hid ((w6.alloc (SC t e (fullS g1 ss.length) (fullS g2 ps.length) (fullS g3 qs.length) 29)).heap[w.heap.size + 1]? = some (.cells #[.int .i64 kk, .int .i64 n] 56 (0, 0))) := keepBlk XA5.out b6' (slab_lt XA5.out)
  have HY6 : Hid ((w6.alloc (SC t e (fullS g1 ss.length) (fullS g2 ps.length) (fullS g3 qs.length) 29)).heap[Y]? = some (.cells #[.int .i64 T, .int .i64 R.e, u1, u2, u3] 29 (0, 0))) := keepBlk HY5.out b6' (slab_lt HY5.out)
  have HZ6 : Hid ((w6.alloc (SC t e (fullS g1 ss.length) (fullS g2 ps.length) (fullS g3 qs.length) 29)).heap[Z]? = some (.cells #[.int .i64 R.c, u4] 37 (0, 0))) := keepBlk HZ5.out b6' (slab_lt HZ5.out)
  have O6 : Hid (O4 false (w6.alloc (SC t e (fullS g1 ss.length) (fullS g2 ps.length) (fullS g3 qs.length) 29)) w1.heap.size u1 u2 u3 u4 R) := O5.out.keep fun j _ hl => b6'.block j hl
  clear S1 S2 S3 G1 G2 G3 N12 N13 N23 b6 b6' A6 y0 y1 y2 y3 y4 R5 XB5 XA5 HY5 HZ5 HB5 O5 z6
  go_wp2_with fail
  refine reg7 (w6.alloc (SC t e (fullS g1 ss.length) (fullS g2 ps.length) (fullS g3 qs.length) 29)) w6.heap.size (w.heap.size + 1) t e kk n g1 g2 g3 ss ps qs T D R _ _ _ _ _ _ _ _ _ _ _ _ _ _ _ _ _ _ _ _ _ _ _ _ XX6.out ⟨(two_of XA6.out).1, (two_of XA6.out).2, slab_lt XA6.out⟩ ⟨KS6.out.1.row, KS6.out.2.1.row, KS6.out.2.2.row⟩ (CI.out L1.out L2.out L3.out g1 g2 g3) ?_
  intro s7_0 s7_1 s7_2 s7_3 s7_4 s7_5 s7_6 s7_7 Y' Z' v1 v2 v3 v4 w7 hY hZ nY nZ o7 b7
  rw [Z6.out] at nY nZ o7
  have V7 : Hid (O4 true w7 (w6.heap.size + 1) v1 v2 v3 v4 R) := o7
  have SB0 : Hid (StB w t e kk n a1 a2 a3 c1 c2 c3 ss ps qs T R Y Z Y' Z' w1.heap.size u1 u2 u3 u4 v1 v2 v3 v4 w7) := ⟨keepBlk XB6.out b7 (slab_lt XB6.out), keepBlk XA6.out b7 (slab_lt XA6.out), keepBlk HY6.out b7 (slab_lt HY6.out), keepBlk HZ6.out b7 (slab_lt HZ6.out), hY, hZ, O6.out.keep fun j _ hl => b7.block j hl, HB6.out.trans (b7.mono HB6.out.size)⟩
  have NY : Hid (w6.heap.size < Y' ∧ w6.heap.size < Z') := ⟨nY, nZ⟩
  have KS7 : Hid (SlabI w7 g1 ss.length ss ss.length ∧ SlabP w7 g2 ps.length ps ps.length ∧ SlabI w7 g3 qs.length qs qs.length) := ⟨KS6.out.1.below b7 KS6.out.1.lt, KS6.out.2.1.below b7 KS6.out.2.1.lt, KS6.out.2.2.below b7 KS6.out.2.2.lt⟩
  have XX7 : Hid (BoxS w6.heap.size t e (fullS g1 ss.length) (fullS g2 ps.length) (fullS g3 qs.length) w7) := XX6.out.below b7 XX6.out.2.2.2.2.2
  have V0 : Hid (O4 true w7 (w6.heap.size + 1) v1 v2 v3 v4 R) := o7
  clear hY hZ nY nZ o7 XB6 XA6 HY6 HZ6 HB6 O6 KS6 XX6 b7 Z6
  obtain ⟨y0, y1, y2, y3, y4⟩ := box5_of SB0.out.2.2.2.2.1
  obtain ⟨z0, z1, z2, z3, z4⟩ := box5_of SB0.out.2.2.1
  go_wp2_with fail
  refine (eqSp_own T R.e v1 v2 v3 u1 u2 u3 R.ss R.ps R.qs _ _ w7 V0.out.1 V0.out.2.1 V0.out.2.2.1 SB0.out.2.2.2.2.2.2.1.1 SB0.out.2.2.2.2.2.2.1.2.1 SB0.out.2.2.2.2.2.2.1.2.2.1 LR.out.1.1 LR.out.1.2.1 LR.out.1.2.2).mono ?_
  rintro r w8 ⟨rfl, bq⟩
  have SB1 : Hid (StB w t e kk n a1 a2 a3 c1 c2 c3 ss ps qs T R Y Z Y' Z' w1.heap.size u1 u2 u3 u4 v1 v2 v3 v4 w8) := SB0.out.keep bq
  have V1 : Hid (O4 true w8 (w6.heap.size + 1) v1 v2 v3 v4 R) := V0.out.keep fun j _ hl => bq.block j hl
  have XX8 : Hid (BoxS w6.heap.size t e (fullS g1 ss.length) (fullS g2 ps.length) (fullS g3 qs.length) w8) := XX7.out.below bq XX7.out.2.2.2.2.2; have KS8 : Hid (SlabI w8 g1 ss.length ss ss.length ∧ SlabP w8 g2 ps.length ps ps.length ∧ SlabI w8 g3 qs.length qs qs.length) := ⟨KS7.out.1.below bq KS7.out.1.lt, KS7.out.2.1.below bq KS7.out.2.1.lt, KS7.out.2.2.below bq KS7.out.2.2.lt⟩; clear y0 y1 y2 y3 y4 z0 z1 z2 z3 z4 bq XX7 KS7
  obtain ⟨y0, y1⟩ := two_of SB1.out.2.2.2.2.2.1
  obtain ⟨z0, z1⟩ := two_of SB1.out.2.2.2.1
  go_wp2_with fail
  refine (eqReply_own R.c V1.out.2.2.2.1 SB1.out.2.2.2.2.2.2.1.2.2.2.1 LR.out.2).mono ?_
  rintro r w9 ⟨rfl, bq⟩
  have SB2 : Hid (StB w t e kk n a1 a2 a3 c1 c2 c3 ss ps qs T R Y Z Y' Z' w1.heap.size u1 u2 u3 u4 v1 v2 v3 v4 w9) := SB1.out.keep bq
  have V2 : Hid (O4 true w9 (w6.heap.size + 1) v1 v2 v3 v4 R) := V1.out.keep fun j _ hl => bq.block j hl
  have XX9 : Hid (BoxS w6.heap.size t e (fullS g1 ss.length) (fullS g2 ps.length) (fullS g3 qs.length) w9) := XX8.out.below bq XX8.out.2.2.2.2.2; have KS9 : Hid (SlabI w9 g1 ss.length ss ss.length ∧ SlabP w9 g2 ps.length ps ps.length ∧ SlabI w9 g3 qs.length qs qs.length) := ⟨KS8.out.1.below bq KS8.out.1.lt, KS8.out.2.1.below bq KS8.out.2.1.lt, KS8.out.2.2.below bq KS8.out.2.2.lt⟩; clear y0 y1 z0 z1 bq XX8 KS8 SB0 V0 SB1 V1

  have hL : TwoS w9 w.heap.size w6.heap.size t e a1 a2 a3 c1 c2 c3 g1 g2 g3 ss ps qs w9.drew := ⟨⟨(box5_of SB2.out.1).1, (box5_of SB2.out.1).2.1, (box5_of SB2.out.1).2.2.1, (box5_of SB2.out.1).2.2.2.1, (box5_of SB2.out.1).2.2.2.2, slab_lt SB2.out.1⟩, XX9.out.below below_draw XX9.out.2.2.2.2.2, (H.out.below SB2.out.2.2.2.2.2.2.2).below below_draw, RowsIn.below ⟨KS9.out.1.row, KS9.out.2.1.row, KS9.out.2.2.row⟩ below_draw, below_draw⟩
  go_wp2_with fail
  go_region_held3 (TwoS w9 w.heap.size w6.heap.size t e a1 a2 a3 c1 c2 c3 g1 g2 g3 ss ps qs) (first | exact hL | exact TwoS.keep (by assumption) hb)
    (first | (go_at_call 24; refine (toSpace_any t e a1 a2 a3 c1 c2 c3 ss ps qs _ (show TwoS w9 w.heap.size w6.heap.size t e a1 a2 a3 c1 c2 c3 g1 g2 g3 ss ps qs _ by assumption).2.2.1.1 (show TwoS w9 w.heap.size w6.heap.size t e a1 a2 a3 c1 c2 c3 g1 g2 g3 ss ps qs _ by assumption).2.2.1.2.1 (show TwoS w9 w.heap.size w6.heap.size t e a1 a2 a3 c1 c2 c3 g1 g2 g3 ss ps qs _ by assumption).2.2.1.2.2 L1.out L2.out L3.out).mono ?_; rintro r wA ⟨k1, k2, k3, rfl, S1, S2, S3, _, _, _, _, _, _, hb⟩)
           | (go_at_call 19; refine (eqSpace_same t e _ _ _ _ _ _ _ _ _ _ _ _ ss ps qs _ (show TwoS w9 w.heap.size w6.heap.size t e a1 a2 a3 c1 c2 c3 g1 g2 g3 ss ps qs _ by assumption).2.2.2.1.1 (show TwoS w9 w.heap.size w6.heap.size t e a1 a2 a3 c1 c2 c3 g1 g2 g3 ss ps qs _ by assumption).2.2.2.1.2.1 (show TwoS w9 w.heap.size w6.heap.size t e a1 a2 a3 c1 c2 c3 g1 g2 g3 ss ps qs _ by assumption).2.2.2.1.2.2 S1.row S2.row S3.row L1.out L2.out L3.out).mono ?_; rintro r wA ⟨rfl, hb⟩))
  rename_i hLL
  have b10 := hLL.2.2.2.2
  have SBa : Hid (StB w t e kk n a1 a2 a3 c1 c2 c3 ss ps qs T R Y Z Y' Z' w1.heap.size u1 u2 u3 u4 v1 v2 v3 v4 wA) := SB2.out.keep b10
  have Va : Hid (O4 true wA (w6.heap.size + 1) v1 v2 v3 v4 R) := V2.out.keep fun j _ hl => b10.block j hl
  have KSa : Hid (SlabI wA g1 ss.length ss ss.length ∧ SlabP wA g2 ps.length ps ps.length ∧ SlabI wA g3 qs.length qs qs.length) := ⟨KS9.out.1.below b10 KS9.out.1.lt, KS9.out.2.1.below b10 KS9.out.2.1.lt, KS9.out.2.2.below b10 KS9.out.2.2.lt⟩
  obtain ⟨y0, y1, y2, y3, y4, y5⟩ := hLL.2.1
  clear hL hLL b10 SB2 V2 KS9 XX9 S1 S2 S3 hb
  go_wp2_with fail
  refine (markSpace_slab t e g1 g2 g3 _ _ _ ss ps qs wA KSa.out.1 KSa.out.2.1 KSa.out.2.2 GN.out.1 GN.out.2.1 GN.out.2.2 L1.out L2.out L3.out).mono ?_
  rintro r w11 ⟨x9, rfl, x90, k9⟩
  have SB0 : Hid (StB w t e kk n a1 a2 a3 c1 c2 c3 ss ps qs T R Y Z Y' Z' w1.heap.size u1 u2 u3 u4 v1 v2 v3 v4 w11) := SBa.out.kept k9 (fun j hj => by have := GB.out; have := NY.out; omega) N5.out UL.out
  have V0 : Hid (O4 true w11 (w6.heap.size + 1) v1 v2 v3 v4 R) := Va.out.keep fun j hj hl => k9.block j hl (fun hs => by have := GB.out; omega)
  have hx9 : ¬ x9 < 0 := by omega
  clear SBa Va KSa k9 y0 y1 y2 y3 y4 y5
  obtain ⟨y0, y1, y2, y3, y4⟩ := box5_of SB0.out.2.2.2.2.1
  obtain ⟨z0, z1, z2, z3, z4⟩ := box5_of SB0.out.2.2.1
  go_wp2_with fail
  refine (eqSp_own T R.e v1 v2 v3 u1 u2 u3 R.ss R.ps R.qs _ _ w11 V0.out.1 V0.out.2.1 V0.out.2.2.1 SB0.out.2.2.2.2.2.2.1.1 SB0.out.2.2.2.2.2.2.1.2.1 SB0.out.2.2.2.2.2.2.1.2.2.1 LR.out.1.1 LR.out.1.2.1 LR.out.1.2.2).mono ?_
  rintro r w12 ⟨rfl, bq⟩
  have SB1 : Hid (StB w t e kk n a1 a2 a3 c1 c2 c3 ss ps qs T R Y Z Y' Z' w1.heap.size u1 u2 u3 u4 v1 v2 v3 v4 w12) := SB0.out.keep bq
  have V1 : Hid (O4 true w12 (w6.heap.size + 1) v1 v2 v3 v4 R) := V0.out.keep fun j _ hl => bq.block j hl
  clear y0 y1 y2 y3 y4 z0 z1 z2 z3 z4 bq
  obtain ⟨y0, y1⟩ := two_of SB1.out.2.2.2.2.2.1
  obtain ⟨z0, z1⟩ := two_of SB1.out.2.2.2.1
  go_wp2_with fail
  refine (eqReply_own R.c V1.out.2.2.2.1 SB1.out.2.2.2.2.2.2.1.2.2.2.1 LR.out.2).mono ?_
  rintro r w13 ⟨rfl, bq⟩
  have SB2 : Hid (StB w t e kk n a1 a2 a3 c1 c2 c3 ss ps qs T R Y Z Y' Z' w1.heap.size u1 u2 u3 u4 v1 v2 v3 v4 w13) := SB1.out.keep bq
  have V2 : Hid (O4 true w13 (w6.heap.size + 1) v1 v2 v3 v4 R) := V1.out.keep fun j _ hl => bq.block j hl
  clear y0 y1 z0 z1 bq SB1 V1
  clear SB0 V0
  obtain ⟨y0, y1, y2, y3, y4⟩ := box5_of SB2.out.2.2.2.2.1
  go_wp2_with fail
  refine (markSp_own T R.e 1 v1 v2 v3 R.ss R.ps R.qs _ w13 V2.out.1 V2.out.2.1 V2.out.2.2.1 (V2.out.2.2.2.2 rfl).1 LR.out.1.1 LR.out.1.2.1 LR.out.1.2.2 (by omega) (by omega)).mono ?_
  rintro r w14 ⟨rfl, ms, k14⟩
  have SB3 : Hid (StB w t e kk n a1 a2 a3 c1 c2 c3 ss ps qs T R Y Z Y' Z' w1.heap.size u1 u2 u3 u4 v1 v2 v3 v4 w14) := SB2.out.kept k14 (fun j hj => by
    have := N6.out
    rcases hj with h | h | h
    · exact ⟨by have := (own_lt V2.out.1 h).1; omega, own_ne V2.out.1 SB2.out.2.2.2.2.1 (by decide) h, own_ne V2.out.1 SB2.out.2.2.2.2.2.1 (by decide) h⟩
    · exact ⟨by have := (own_lt V2.out.2.1 h).1; omega, own_ne V2.out.2.1 SB2.out.2.2.2.2.1 (by decide) h, own_ne V2.out.2.1 SB2.out.2.2.2.2.2.1 (by decide) h⟩
    · exact ⟨by have := (own_lt V2.out.2.2.1 h).1; omega, own_ne V2.out.2.2.1 SB2.out.2.2.2.2.1 (by decide) h, own_ne V2.out.2.2.1 SB2.out.2.2.2.2.2.1 (by decide) h⟩) N5.out UL.out
  have O3 : Hid (OwnI w14 (w6.heap.size + 1) v4 R.pg) := own_at V2.out.2.2.2.1 fun j hj => k14.block j (own_lt V2.out.2.2.2.1 hj).2 (fun h => by
    rcases h with h | h | h
    · exact (V2.out.2.2.2.2 rfl).2.1 j (Nat.zero_le _) h hj
    · exact diffT V2.out.2.2.2.1 V2.out.2.1 hj h
    · exact (V2.out.2.2.2.2 rfl).2.2 j (Nat.zero_le _) h hj)
  have SP : Hid (SepN 0 v1 v4 ∧ SepN 0 v3 v4) := (V2.out.2.2.2.2 rfl).2
  obtain ⟨p1, hp1⟩ : ∃ x, R.ss.length = x := ⟨_, rfl⟩
  obtain ⟨p2, hp2⟩ : ∃ x, R.ps.length = x := ⟨_, rfl⟩
  obtain ⟨p3, hp3⟩ : ∃ x, R.qs.length = x := ⟨_, rfl⟩
  obtain ⟨p4, hp4⟩ : ∃ x, R.pg.length = x := ⟨_, rfl⟩
  have LP : Hid (p1 ≤ 1048576 ∧ p2 ≤ 1048576 ∧ p3 ≤ 1048576 ∧ p4 ≤ 64) := ⟨hp1 ▸ LR.out.1.1, hp2 ▸ LR.out.1.2.1, hp3 ▸ LR.out.1.2.2, hp4 ▸ LR.out.2⟩
  have HP4 : Hid (R.pg.length = p4) := hp4
  rw [hp1, hp2, hp3] at ms ⊢
  have M3 : Hid (MS w14 (w6.heap.size + 1) 1 p1 p2 p3 v1 v2 v3) := ms
  obtain ⟨K, hK⟩ : ∃ x, (1 : Int) + p1 + 2 * p2 + p3 = x := ⟨_, rfl⟩
  have HK : Hid ((1 : Int) + p1 + 2 * p2 + p3 = K) := hK
  have K0 : 0 ≤ K := by omega
  have K1 : K ≤ 1000000000 := by have := LP.out; omega
  rw [hK]
  clear hp1 hp2 hp3 hp4 ms hK k14 SB2 V2 y0 y1 y2 y3 y4
  obtain ⟨y0, y1⟩ := two_of SB3.out.2.2.2.2.2.1
  go_wp2_with fail
  refine (markReply_own R.c K v4 R.pg _ w14 O3.out (by have := LR.out.2; omega) K0 K1).mono ?_
  rintro r w15 ⟨rfl, om, k15⟩
  rw [HP4.out] at om ⊢
  have SB4 : Hid (StB w t e kk n a1 a2 a3 c1 c2 c3 ss ps qs T R Y Z Y' Z' w1.heap.size u1 u2 u3 u4 v1 v2 v3 v4 w15) := SB3.out.kept k15 (fun j hj => ⟨by have := (own_lt O3.out hj).1; have := N6.out; omega, own_ne O3.out SB3.out.2.2.2.2.1 (by decide) hj, own_ne O3.out SB3.out.2.2.2.2.2.1 (by decide) hj⟩) N5.out UL.out
  have M4 : Hid (MS w15 (w6.heap.size + 1) 1 p1 p2 p3 v1 v2 v3) := ⟨own_at M3.out.1 fun j hj => k15.block j (own_lt M3.out.1 hj).2 (fun h => SP.out.1 j (Nat.zero_le _) hj h), own_at M3.out.2.1 fun j hj => k15.block j (own_lt M3.out.2.1 hj).2 (fun h => diffT O3.out M3.out.2.1 h hj), own_at M3.out.2.2 fun j hj => k15.block j (own_lt M3.out.2.2 hj).2 (fun h => SP.out.2 j (Nat.zero_le _) hj h)⟩
  have Q4 : Hid (OwnI w15 (w6.heap.size + 1) v4 (marksL K p4)) := om
  obtain ⟨M, hM⟩ : ∃ x, K + (p4 : Int) = x := ⟨_, rfl⟩
  have HM : Hid (K + (p4 : Int) = M) := hM
  have M0 : ¬ M < 0 := by omega
  have Kn : ¬ K < 0 := by omega
  rw [hM]
  clear om k15 SB3 M3 O3 y0 y1 hM
  obtain ⟨y0, y1, y2, y3, y4⟩ := box5_of SB4.out.2.2.2.2.1
  go_wp2_with fail
  refine (heldSp_own T R.e 1 v1 v2 v3 p1 p2 p3 _ w15 M4.out LP.out.1 LP.out.2.1 LP.out.2.2.1 (by omega) (by omega)).mono ?_
  rintro r w16 ⟨rfl, bq⟩
  rw [HK.out]
  have SB5 : Hid (StB w t e kk n a1 a2 a3 c1 c2 c3 ss ps qs T R Y Z Y' Z' w1.heap.size u1 u2 u3 u4 v1 v2 v3 v4 w16) := SB4.out.keep bq
  have M5 : Hid (MS w16 (w6.heap.size + 1) 1 p1 p2 p3 v1 v2 v3) := ⟨own_keep M4.out.1 fun j _ hl => bq.block j hl, own_keep M4.out.2.1 fun j _ hl => bq.block j hl, own_keep M4.out.2.2 fun j _ hl => bq.block j hl⟩
  have Q5 : Hid (OwnI w16 (w6.heap.size + 1) v4 (marksL K p4)) := own_keep Q4.out fun j _ hl => bq.block j hl
  clear bq SB4 M4 Q4 y0 y1 y2 y3 y4
  obtain ⟨y0, y1⟩ := two_of SB5.out.2.2.2.2.2.1
  go_wp2_with fail
  refine (heldReply_own R.c K v4 p4 _ w16 Q5.out (by have := LP.out; omega) K0 K1).mono ?_
  rintro r w17 ⟨rfl, bq⟩
  rw [HM.out]
  have SB6 : Hid (StB w t e kk n a1 a2 a3 c1 c2 c3 ss ps qs T R Y Z Y' Z' w1.heap.size u1 u2 u3 u4 v1 v2 v3 v4 w17) := SB5.out.keep bq
  have M6 : Hid (MS w17 (w6.heap.size + 1) 1 p1 p2 p3 v1 v2 v3) := ⟨own_keep M5.out.1 fun j _ hl => bq.block j hl, own_keep M5.out.2.1 fun j _ hl => bq.block j hl, own_keep M5.out.2.2 fun j _ hl => bq.block j hl⟩
  have Q6 : Hid (OwnI w17 (w6.heap.size + 1) v4 (marksL K p4)) := own_keep Q5.out fun j _ hl => bq.block j hl
  clear bq SB5 M5 Q5 y0 y1
  go_wp2_with fail
  refine reg28 w17 w.heap.size (w.heap.size + 1) t e kk n a1 a2 a3 c1 c2 c3 ss ps qs T D R _ _ _ _ _ _ _ _ _ _ _ _ _ _ _ _ _ _ _ _ _ _ _ _ _ _ _ _ _ _ _ _ _ _ _ _ _ _ _ _ _ _ _ _ _ _ _ _ _ _ _ _ _ _ _ _ _ _ _ _ _ _ _ _ _ _ _ _ _ _ _ _ _ _ _ _ _ _ _ _ _ _ _ _ _ _ _ _ _ _ _ _ _ _ _ _ _ _ _ ⟨(box5_of SB6.out.1).1, (box5_of SB6.out.1).2.1, (box5_of SB6.out.1).2.2.1, (box5_of SB6.out.1).2.2.2.1, (box5_of SB6.out.1).2.2.2.2, slab_lt SB6.out.1⟩ ⟨(two_of SB6.out.2.1).1, (two_of SB6.out.2.1).2, slab_lt SB6.out.2.1⟩ (H.out.below SB6.out.2.2.2.2.2.2.2) L1.out L2.out L3.out (CI.out L1.out L2.out L3.out) ?_
  intro s28_0 s28_1 s28_2 s28_3 s28_4 s28_5 s28_6 s28_7 s28_8 Y3 Z3 i1 i2 i3 i4 w18 hY hZ nY nZ o8 bq
  have SB7 : Hid (StB w t e kk n a1 a2 a3 c1 c2 c3 ss ps qs T R Y Z Y' Z' w1.heap.size u1 u2 u3 u4 v1 v2 v3 v4 w18) := SB6.out.keep bq
  have M7 : Hid (MS w18 (w6.heap.size + 1) 1 p1 p2 p3 v1 v2 v3) := ⟨own_keep M6.out.1 fun j _ hl => bq.block j hl, own_keep M6.out.2.1 fun j _ hl => bq.block j hl, own_keep M6.out.2.2 fun j _ hl => bq.block j hl⟩
  have Q7 : Hid (OwnI w18 (w6.heap.size + 1) v4 (marksL K p4)) := own_keep Q6.out fun j _ hl => bq.block j hl
  have I7 : Hid (O4 true w18 w17.heap.size i1 i2 i3 i4 R) := o8
  have HZ7 : Hid (w18.heap[Z3]? = some (.cells #[.int .i64 R.c, i4] 37 (0, 0))) := hZ
  obtain ⟨y0, y1, y2, y3, y4⟩ := box5_of hY
  obtain ⟨z0, z1, z2, z3, z4⟩ := box5_of SB7.out.2.2.1
  clear hY hZ nY nZ o8 bq SB6 M6 Q6
  go_wp2_with fail
  refine (eqSp_own T R.e i1 i2 i3 u1 u2 u3 R.ss R.ps R.qs _ _ w18 I7.out.1 I7.out.2.1 I7.out.2.2.1 SB7.out.2.2.2.2.2.2.1.1 SB7.out.2.2.2.2.2.2.1.2.1 SB7.out.2.2.2.2.2.2.1.2.2.1 LR.out.1.1 LR.out.1.2.1 LR.out.1.2.2).mono ?_
  rintro r w19 ⟨rfl, bq⟩
  have SB8 : Hid (StB w t e kk n a1 a2 a3 c1 c2 c3 ss ps qs T R Y Z Y' Z' w1.heap.size u1 u2 u3 u4 v1 v2 v3 v4 w19) := SB7.out.keep bq
  have M8 : Hid (MS w19 (w6.heap.size + 1) 1 p1 p2 p3 v1 v2 v3) := ⟨own_keep M7.out.1 fun j _ hl => bq.block j hl, own_keep M7.out.2.1 fun j _ hl => bq.block j hl, own_keep M7.out.2.2 fun j _ hl => bq.block j hl⟩
  have Q8 : Hid (OwnI w19 (w6.heap.size + 1) v4 (marksL K p4)) := own_keep Q7.out fun j _ hl => bq.block j hl
  have I8 : Hid (OwnI w19 w17.heap.size i4 R.pg) := own_keep I7.out.2.2.2.1 fun j _ hl => bq.block j hl
  have HZ8 : w19.heap[Z3]? = some (.cells #[.int .i64 R.c, i4] 37 (0, 0)) := keepBlk HZ7.out bq (slab_lt HZ7.out)
  clear y0 y1 y2 y3 y4 z0 z1 z2 z3 z4 bq SB7 M7 Q7 I7 HZ7
  obtain ⟨y0, y1⟩ := two_of HZ8
  obtain ⟨z0, z1⟩ := two_of SB8.out.2.2.2.1
  clear HZ8
  go_wp2_with fail
  refine (eqReply_own R.c I8.out SB8.out.2.2.2.2.2.2.1.2.2.2.1 LR.out.2).mono ?_
  rintro r w20 ⟨rfl, bq⟩
  have SB9 : Hid (StB w t e kk n a1 a2 a3 c1 c2 c3 ss ps qs T R Y Z Y' Z' w1.heap.size u1 u2 u3 u4 v1 v2 v3 v4 w20) := SB8.out.keep bq
  have M9 : Hid (MS w20 (w6.heap.size + 1) 1 p1 p2 p3 v1 v2 v3) := ⟨own_keep M8.out.1 fun j _ hl => bq.block j hl, own_keep M8.out.2.1 fun j _ hl => bq.block j hl, own_keep M8.out.2.2 fun j _ hl => bq.block j hl⟩
  have Q9 : Hid (OwnI w20 (w6.heap.size + 1) v4 (marksL K p4)) := own_keep Q8.out fun j _ hl => bq.block j hl
  clear y0 y1 z0 z1 bq SB8 M8 Q8 I8
  obtain ⟨y0, y1, y2, y3, y4⟩ := box5_of SB9.out.2.2.2.2.1
  go_wp2_with fail
  refine (heldSp_own T R.e 1 v1 v2 v3 p1 p2 p3 _ w20 M9.out LP.out.1 LP.out.2.1 LP.out.2.2.1 (by omega) (by omega)).mono ?_
  rintro r w21 ⟨rfl, bq⟩
  rw [HK.out]
  have SBb : Hid (StB w t e kk n a1 a2 a3 c1 c2 c3 ss ps qs T R Y Z Y' Z' w1.heap.size u1 u2 u3 u4 v1 v2 v3 v4 w21) := SB9.out.keep bq
  have Qb : Hid (OwnI w21 (w6.heap.size + 1) v4 (marksL K p4)) := own_keep Q9.out fun j _ hl => bq.block j hl
  clear bq SB9 M9 Q9 y0 y1 y2 y3 y4
  obtain ⟨y0, y1⟩ := two_of SBb.out.2.2.2.2.2.1
  go_wp2_with fail
  refine (heldReply_own R.c K v4 p4 _ w21 Qb.out (by have := LP.out; omega) K0 K1).mono ?_
  rintro r w22 ⟨rfl, bq⟩
  rw [HM.out]
  have BB : Below w.heap.size w w22 := below_step SBb.out.2.2.2.2.2.2.2 (Nat.le_refl _) bq
  clear bq y0 y1
  go_wp2
  go_ret
  exact ⟨rfl, BB⟩
end Go.Proofs.Ytaklphoplfofbaa
