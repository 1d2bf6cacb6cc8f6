/- Spaces: their size, a copy of one, and when two are the same (stage 4). -/
import Derived.Test.YtaklphoplfofbaaListB
namespace Go.Proofs.Ytaklphoplfofbaa
open Go.RowKit

theorem szI_any (a : Option Addr) (n c : Nat) (left : Int) (w : World) (hn : n ≤ maxLen) (h0 : 0 ≤ left) (h1 : left ≤ 1048576) :
    Calls Try.prog 55 #[.slice a n c, .int .i64 left] w fun e w' => ∃ x : Int, e = .returned (.int .i64 x) ∧ -1 ≤ x ∧ x ≤ 1048576 ∧ (0 ≤ x → n ≤ 1048576) ∧ w' = w := by
  unfold maxLen at hn
  by_cases h : left - (n : Int) < 0
  · go_enter Try.func55, Try.ntmps55
    go_wp2
    go_ret
    exact ⟨-1, rfl, by omega, by omega, by omega, rfl⟩
  · go_enter Try.func55, Try.ntmps55
    go_wp2
    go_ret
    exact ⟨left - n, by go_num, by omega, by omega, by omega, rfl⟩
theorem szH_any (a : Option Addr) (n c : Nat) (left : Int) (w : World) (hn : n ≤ maxLen) (h0 : 0 ≤ left) (h1 : left ≤ 1048576) :
    Calls Try.prog 56 #[.slice a n c, .int .i64 left] w fun e w' => ∃ x : Int, e = .returned (.int .i64 x) ∧ -1 ≤ x ∧ x ≤ 1048576 ∧ (0 ≤ x → n ≤ 1048576) ∧ w' = w := by
  unfold maxLen at hn
  by_cases h : left - (n : Int) < 0
  · go_enter Try.func56, Try.ntmps56
    go_wp2
    go_ret
    exact ⟨-1, rfl, by omega, by omega, by omega, rfl⟩
  · go_enter Try.func56, Try.ntmps56
    go_wp2
    go_ret
    exact ⟨left - n, by go_num, by omega, by omega, by omega, rfl⟩

set_option maxRecDepth 100000 in
theorem szSpace_any (t e : Int) (a1 a2 a3 : Option Addr) (n1 n2 n3 c1 c2 c3 : Nat) (left : Int) (w : World) (hn1 : n1 ≤ maxLen) (hn2 : n2 ≤ maxLen) (hn3 : n3 ≤ maxLen) (h0 : 0 ≤ left) (h1 : left ≤ 1048576) :
    Calls Try.prog 22 #[SV t e (.slice a1 n1 c1) (.slice a2 n2 c2) (.slice a3 n3 c3), .int .i64 left] w fun r w' => ∃ x : Int, r = .returned (.int .i64 x) ∧ -1 ≤ x ∧ x ≤ 1048576 ∧ (0 ≤ x → n1 ≤ 1048576 ∧ n2 ≤ 1048576 ∧ n3 ≤ 1048576) ∧ Below w.heap.size w w' := by
  have A0 : Below w.heap.size w (w.alloc (SC t e (.slice a1 n1 c1) (.slice a2 n2 c2) (.slice a3 n3 c3) 51)) := (Below.refl _ _).alloc (Nat.le_refl _) _
  go_enter Try.func22, Try.ntmps22
  go_wp2_with fail
  refine (szI_any a1 n1 c1 left _ hn1 h0 h1).mono ?_
  rintro r w1 ⟨x, rfl, x0, x1, x2, hq⟩
  obtain rfl := hq.symm
  by_cases hx : x < 0
  · go_wp2
    go_ret
    exact ⟨-1, rfl, by omega, by omega, by omega, A0⟩
  go_wp2_with fail
  refine (szH_any a2 n2 c2 x _ hn2 (by omega) x1).mono ?_
  rintro r w1 ⟨y, rfl, y0, y1, y2, hq⟩
  obtain rfl := hq.symm
  by_cases hy : y < 0
  · go_wp2
    go_ret
    exact ⟨-1, rfl, by omega, by omega, by omega, A0⟩
  go_wp2_with fail
  refine (szI_any a3 n3 c3 y _ hn3 (by omega) y1).mono ?_
  rintro r w1 ⟨z, rfl, z0, z1, z2, hq⟩
  obtain rfl := hq.symm
  by_cases hz : z < 0
  · go_wp2
    go_ret
    exact ⟨-1, rfl, by omega, by omega, by omega, A0⟩
  have k1 := x2 (by omega)
  have k2 := y2 (by omega)
  have k3 := z2 (by omega)
  clear x2 y2 z2
  go_wp2
  go_ret
  exact ⟨z, rfl, z0, z1, fun _ => ⟨k1, k2, k3⟩, A0⟩

/-- Block b has these cells. -/
abbrev Blk (w : World) (b : Nat) (cs : Array Value) (ty : TypeId) : Prop := w.heap[b]? = some (.cells cs ty (0, 0))
theorem Blk.below {w w' : World} {b B : Nat} {cs : Array Value} {ty : TypeId} (h : Blk w b cs ty) (hb : Below B w w') (hB : b < B) : Blk w' b cs ty := (hb.block b hB).trans h
theorem Blk.set {w : World} {b o : Nat} {cs : Array Value} {ty : TypeId} (h : Blk w b cs ty) (v : Value) : Blk (w.setCell ⟨b, o, none⟩ v) b (cs.setIfInBounds o v) ty := slab_set h v
theorem set_other {w : World} {p : Addr} {g : Nat} (v : Value) (h : p.block ≠ g) : (w.setCell p v).heap[g]? = w.heap[g]? := by
  simp [World.setCell, Array.getElem?_modify, h]
theorem Blk.setO {w : World} {b g o : Nat} {cs : Array Value} {ty : TypeId} (h : Blk w b cs ty) (v : Value) (hne : g ≠ b) : Blk (w.setCell ⟨g, o, none⟩ v) b cs ty := (set_other v hne).trans h
theorem SlabI.set {w : World} {g n k : Nat} {ss : List Int} {p : Addr} (h : SlabI w g n ss k) (hp : p.block ≠ g) (v : Value) : SlabI (w.setCell p v) g n ss k := by
  obtain ⟨cur, hh, r⟩ := h
  exact ⟨cur, (set_other v hp).trans hh, r⟩
theorem SlabP.set {w : World} {g n k : Nat} {ps : List P2} {p : Addr} (h : SlabP w g n ps k) (hp : p.block ≠ g) (v : Value) : SlabP (w.setCell p v) g n ps k := by
  obtain ⟨cur, hh, r⟩ := h
  exact ⟨cur, (set_other v hp).trans hh, r⟩

abbrev nilS : Value := .slice none 0 0
abbrev fullS (g n : Nat) : Value := .slice (some ⟨g, 0, none⟩) n n

set_option maxRecDepth 100000 in
set_option maxHeartbeats 4000000 in
theorem toSpace_any (t e : Int) (a1 a2 a3 : Option Addr) (c1 c2 c3 : Nat) (ss : List Int) (ps : List P2) (qs : List Int) (w : World) (h1 : RowI w a1 ss) (h2 : RowP w a2 ps) (h3 : RowI w a3 qs) (l1 : ss.length ≤ 1048576) (l2 : ps.length ≤ 1048576) (l3 : qs.length ≤ 1048576) :
    Calls Try.prog 24 #[SV t e (.slice a1 ss.length c1) (.slice a2 ps.length c2) (.slice a3 qs.length c3)] w fun r w' => ∃ g1 g2 g3, r = .returned (SV t e (fullS g1 ss.length) (fullS g2 ps.length) (fullS g3 qs.length)) ∧ SlabI w' g1 ss.length ss ss.length ∧ SlabP w' g2 ps.length ps ps.length ∧ SlabI w' g3 qs.length qs qs.length ∧ w.heap.size ≤ g1 ∧ w.heap.size ≤ g2 ∧ w.heap.size ≤ g3 ∧ g1 ≠ g2 ∧ g1 ≠ g3 ∧ g2 ≠ g3 ∧ Below w.heap.size w w' := by
  have H1 : Hid (RowI w a1 ss) := h1
  have H2 : Hid (RowP w a2 ps) := h2
  have H3 : Hid (RowI w a3 qs) := h3
  have L1 : Hid (ss.length ≤ 1048576) := l1
  have L2 : Hid (ps.length ≤ 1048576) := l2
  have L3 : Hid (qs.length ≤ 1048576) := l3
  clear h1 h2 h3 l1 l2 l3
  have B0 : Below w.heap.size w (((w.alloc (SC t e (.slice a1 ss.length c1) (.slice a2 ps.length c2) (.slice a3 qs.length c3) 51)).alloc (SC 0 0 nilS nilS nilS 29)).alloc (SC t e nilS nilS nilS 29)) := (((Below.refl _ _).alloc (Nat.le_refl _) _).alloc (by simp) _).alloc (by simp; omega) _
  have xA : Blk (((w.alloc (SC t e (.slice a1 ss.length c1) (.slice a2 ps.length c2) (.slice a3 qs.length c3) 51)).alloc (SC 0 0 nilS nilS nilS 29)).alloc (SC t e nilS nilS nilS 29)) w.heap.size #[.int .i64 t, .int .i64 e, .slice a1 ss.length c1, .slice a2 ps.length c2, .slice a3 qs.length c3] 51 := (heap_old _ _ _ (by simp; omega)).trans ((heap_old _ _ _ (by simp)).trans (heap_new' _ _ _ rfl))
  have xR : Blk (((w.alloc (SC t e (.slice a1 ss.length c1) (.slice a2 ps.length c2) (.slice a3 qs.length c3) 51)).alloc (SC 0 0 nilS nilS nilS 29)).alloc (SC t e nilS nilS nilS 29)) (w.heap.size + 1) #[.int .i64 0, .int .i64 0, nilS, nilS, nilS] 29 := (heap_old _ _ _ (by simp)).trans (heap_new' _ _ _ (by simp))
  have xT : Blk (((w.alloc (SC t e (.slice a1 ss.length c1) (.slice a2 ps.length c2) (.slice a3 qs.length c3) 51)).alloc (SC 0 0 nilS nilS nilS 29)).alloc (SC t e nilS nilS nilS 29)) (w.heap.size + 2) #[.int .i64 t, .int .i64 e, nilS, nilS, nilS] 29 := heap_new' _ _ _ (by simp)
  have XA : Hid (Blk _ _ _ _) := xA
  have XR : Hid (Blk _ _ _ _) := xR
  have XT : Hid (Blk _ _ _ _) := xT
  clear xA xR xT
  go_enter Try.func24, Try.ntmps24
  go_wp2_with fail
  refine (toI_any a1 c1 ss _ (H1.out.below B0) L1.out).mono ?_
  rintro r w1 ⟨g1, rfl, hg1, S1, b1⟩
  have B1 := B0.trans (b1.mono B0.size)
  have xA := XA.out.below b1 (by simp; omega)
  have xR := XR.out.below b1 (by simp)
  have xT := XT.out.below b1 (by simp)
  simp at hg1
  have YA : Hid (Blk _ _ _ _) := xA.setO (g := w.heap.size + 2) (o := 2) (fullS g1 ss.length) (by omega)
  have YR : Hid (Blk _ _ _ _) := xR.setO (g := w.heap.size + 2) (o := 2) (fullS g1 ss.length) (by omega)
  have YT : Hid (Blk _ _ _ _) := xT.set (o := 2) (fullS g1 ss.length)
  have BB1 : Hid (Below w.heap.size w (w1.setCell ⟨w.heap.size + 2, 2, none⟩ (fullS g1 ss.length))) := B1.setCell (p := ⟨w.heap.size + 2, 2, none⟩) (by simp) _
  have K1 : Hid (SlabI (w1.setCell ⟨w.heap.size + 2, 2, none⟩ (fullS g1 ss.length)) g1 ss.length ss ss.length) := S1.set (by show _ ≠ _; simp; omega) _
  have s1 : w.heap.size + 2 < w1.heap.size := slab_lt xT
  have cT2 := slab_cell (o := 2) xT
  have fT := slab_free (o := 2) xT
  have cA3 := slab_cell (o := 3) xA
  simp at cT2 cA3
  clear S1 b1 B0 B1 xA xR xT XA XR XT
  go_wp2_with fail
  refine (toP_any a2 c2 ps _ (H2.out.below BB1.out) L2.out).mono ?_
  rintro r w2 ⟨g2, rfl, hg2, S2, b2⟩
  have B2 := BB1.out.trans (b2.mono BB1.out.size)
  have hl1 := K1.out.lt
  simp at hg2 hl1
  have xA := YA.out.below b2 (by simp; omega)
  have xR := YR.out.below b2 (by simp; omega)
  have xT := YT.out.below b2 (by simp; omega)
  have k1 := K1.out.below b2 K1.out.lt
  have ZA : Hid (Blk _ _ _ _) := xA.setO (g := w.heap.size + 2) (o := 3) (fullS g2 ps.length) (by omega)
  have ZR : Hid (Blk _ _ _ _) := xR.setO (g := w.heap.size + 2) (o := 3) (fullS g2 ps.length) (by omega)
  have ZT : Hid (Blk _ _ _ _) := xT.set (o := 3) (fullS g2 ps.length)
  have BB2 : Hid (Below w.heap.size w (w2.setCell ⟨w.heap.size + 2, 3, none⟩ (fullS g2 ps.length))) := B2.setCell (p := ⟨w.heap.size + 2, 3, none⟩) (by simp) _
  have M1 : Hid (SlabI (w2.setCell ⟨w.heap.size + 2, 3, none⟩ (fullS g2 ps.length)) g1 ss.length ss ss.length) := k1.set (by show _ ≠ _; simp; omega) _
  have M2 : Hid (SlabP (w2.setCell ⟨w.heap.size + 2, 3, none⟩ (fullS g2 ps.length)) g2 ps.length ps ps.length) := S2.set (by show _ ≠ _; simp; omega) _
  have s2 : w.heap.size + 2 < w2.heap.size := slab_lt xT
  clear cT2 fT cA3
  have cT3 := slab_cell (o := 3) xT
  have fT := slab_free (o := 3) xT
  have cA4 := slab_cell (o := 4) xA
  simp at cT3 cA4
  clear S2 b2 B2 BB1 xA xR xT YA YR YT K1 k1
  go_wp2_with fail
  refine (toI_any a3 c3 qs _ (H3.out.below BB2.out) L3.out).mono ?_
  rintro r w3 ⟨g3, rfl, hg3, S3, b3⟩
  have B3 := BB2.out.trans (b3.mono BB2.out.size)
  have hl2 := M2.out.lt
  have hl1' := M1.out.lt
  simp at hg3 hl2 hl1'
  have xR := ZR.out.below b3 (by simp; omega)
  have xT := ZT.out.below b3 (by simp; omega)
  have k1 := M1.out.below b3 M1.out.lt
  have k2 := M2.out.below b3 M2.out.lt
  have Q1 : Hid (SlabI w3 g1 ss.length ss ss.length) := k1
  have Q2 : Hid (SlabP w3 g2 ps.length ps ps.length) := k2
  have Q3 : Hid (SlabI w3 g3 qs.length qs qs.length) := S3
  have BB3 : Hid (Below w.heap.size w w3) := B3
  have s3 : w.heap.size + 2 < w3.heap.size := slab_lt xT
  clear cT3 fT cA4
  have fT := fun o => slab_free (o := o) xT
  have fR := fun o => slab_free (o := o) xR
  have t0 := slab_cell (o := 0) xT
  have t1 := slab_cell (o := 1) xT
  have t2 := slab_cell (o := 2) xT
  have t3 := slab_cell (o := 3) xT
  have t4 := slab_cell (o := 4) xT
  have r0 := slab_cell (o := 0) xR
  have r1 := slab_cell (o := 1) xR
  have r2 := slab_cell (o := 2) xR
  have r3 := slab_cell (o := 3) xR
  have r4 := slab_cell (o := 4) xR
  simp at t0 t1 t2 t3 t4 r0 r1 r2 r3 r4
  clear S3 b3 B3 BB2 xR xT ZA ZR ZT M1 M2 k1 k2
  go_wp2
  refine bodyPost_ret (v := SV t e (fullS g1 ss.length) (fullS g2 ps.length) (fullS g3 qs.length)) (by go_simp; simp [results, Try.results24, go_sem, r0, r1, r2, r3, r4]) rfl ⟨g1, g2, g3, rfl, ?_, ?_, ?_, by omega, by omega, by omega, by omega, by omega, by omega, ?_⟩
  · exact (((((Q1.out.set (by show _ ≠ _; simp; omega) _).set (by show _ ≠ _; simp; omega) _).set (by show _ ≠ _; simp; omega) _).set (by show _ ≠ _; simp; omega) _).set (by show _ ≠ _; simp; omega) _).set (by show _ ≠ _; simp; omega) _
  · exact (((((Q2.out.set (by show _ ≠ _; simp; omega) _).set (by show _ ≠ _; simp; omega) _).set (by show _ ≠ _; simp; omega) _).set (by show _ ≠ _; simp; omega) _).set (by show _ ≠ _; simp; omega) _).set (by show _ ≠ _; simp; omega) _
  · exact (((((Q3.out.set (by show _ ≠ _; simp; omega) _).set (by show _ ≠ _; simp; omega) _).set (by show _ ≠ _; simp; omega) _).set (by show _ ≠ _; simp; omega) _).set (by show _ ≠ _; simp; omega) _).set (by show _ ≠ _; simp; omega) _
  · exact (((((BB3.out.setCell (p := ⟨w.heap.size + 2, 4, none⟩) (by simp) _).setCell (p := ⟨w.heap.size + 1, 0, none⟩) (by simp) _).setCell (p := ⟨w.heap.size + 1, 1, none⟩) (by simp) _).setCell (p := ⟨w.heap.size + 1, 2, none⟩) (by simp) _).setCell (p := ⟨w.heap.size + 1, 3, none⟩) (by simp) _).setCell (p := ⟨w.heap.size + 1, 4, none⟩) (by simp) _

set_option maxRecDepth 100000 in
set_option maxHeartbeats 1000000 in
theorem eqSpace_same (t e : Int) (a1 a2 a3 b1 b2 b3 : Option Addr) (c1 c2 c3 d1 d2 d3 : Nat) (ss : List Int) (ps : List P2) (qs : List Int) (w : World) (h1 : RowI w a1 ss) (h2 : RowP w a2 ps) (h3 : RowI w a3 qs) (k1 : RowI w b1 ss) (k2 : RowP w b2 ps) (k3 : RowI w b3 qs) (l1 : ss.length ≤ 1048576) (l2 : ps.length ≤ 1048576) (l3 : qs.length ≤ 1048576) :
    Calls Try.prog 19 #[SV t e (.slice a1 ss.length c1) (.slice a2 ps.length c2) (.slice a3 qs.length c3), SV t e (.slice b1 ss.length d1) (.slice b2 ps.length d2) (.slice b3 qs.length d3)] w fun x w' => x = .returned (.bool true) ∧ Below w.heap.size w w' := by
  have H1 : Hid (RowI w a1 ss) := h1
  have H2 : Hid (RowP w a2 ps) := h2
  have H3 : Hid (RowI w a3 qs) := h3
  have K1 : Hid (RowI w b1 ss) := k1
  have K2 : Hid (RowP w b2 ps) := k2
  have K3 : Hid (RowI w b3 qs) := k3
  have L1 : Hid (ss.length ≤ 1048576) := l1
  have L2 : Hid (ps.length ≤ 1048576) := l2
  have L3 : Hid (qs.length ≤ 1048576) := l3
  clear h1 h2 h3 k1 k2 k3 l1 l2 l3
  have B0 : Below w.heap.size w ((w.alloc (SC t e (.slice a1 ss.length c1) (.slice a2 ps.length c2) (.slice a3 qs.length c3) 29)).alloc (SC t e (.slice b1 ss.length d1) (.slice b2 ps.length d2) (.slice b3 qs.length d3) 29)) := ((Below.refl _ _).alloc (Nat.le_refl _) _).alloc (by simp) _
  have X0 : Hid (BoxS w.heap.size t e (.slice a1 ss.length c1) (.slice a2 ps.length c2) (.slice a3 qs.length c3) ((w.alloc (SC t e (.slice a1 ss.length c1) (.slice a2 ps.length c2) (.slice a3 qs.length c3) 29)).alloc (SC t e (.slice b1 ss.length d1) (.slice b2 ps.length d2) (.slice b3 qs.length d3) 29))) := (BoxS.new 29).below ((Below.refl (w.alloc (SC t e (.slice a1 ss.length c1) (.slice a2 ps.length c2) (.slice a3 qs.length c3) 29)).heap.size _).alloc (Nat.le_refl _) _) (by simp)
  have Y0 : Hid (BoxS (w.heap.size + 1) t e (.slice b1 ss.length d1) (.slice b2 ps.length d2) (.slice b3 qs.length d3) ((w.alloc (SC t e (.slice a1 ss.length c1) (.slice a2 ps.length c2) (.slice a3 qs.length c3) 29)).alloc (SC t e (.slice b1 ss.length d1) (.slice b2 ps.length d2) (.slice b3 qs.length d3) 29))) := by
    have := BoxS.new (t := t) (e := e) (n := .slice b1 ss.length d1) (h := .slice b2 ps.length d2) (p := .slice b3 qs.length d3) (w := w.alloc (SC t e (.slice a1 ss.length c1) (.slice a2 ps.length c2) (.slice a3 qs.length c3) 29)) 29
    have e1 : (w.alloc (SC t e (.slice a1 ss.length c1) (.slice a2 ps.length c2) (.slice a3 qs.length c3) 29)).heap.size = w.heap.size + 1 := by simp
    rw [e1] at this
    exact this
  go_enter Try.func19, Try.ntmps19
  go_wp2_with fail
  refine (eqI_same a1 b1 c1 d1 ss _ (H1.out.below B0) (K1.out.below B0) L1.out).mono ?_
  rintro x w1 ⟨rfl, q1⟩
  have B1 := B0.trans (q1.mono B0.size)
  have x1 := X0.out.below q1 X0.out.2.2.2.2.2
  have y1 := Y0.out.below q1 Y0.out.2.2.2.2.2
  have X1 : Hid (BoxS _ _ _ _ _ _ w1) := x1
  have Y1 : Hid (BoxS _ _ _ _ _ _ w1) := y1
  clear B0 X0 Y0 q1
  obtain ⟨_, _, _, x13, _, _⟩ := x1
  obtain ⟨_, _, _, y13, _, _⟩ := y1
  go_wp2_with fail
  refine (eqP_same a2 b2 c2 d2 ps _ (H2.out.below B1) (K2.out.below B1) L2.out).mono ?_
  rintro x w2 ⟨rfl, q2⟩
  have B2 := B1.trans (q2.mono B1.size)
  obtain ⟨_, _, _, _, x24, _⟩ := X1.out.below q2 X1.out.2.2.2.2.2
  obtain ⟨_, _, _, _, y24, _⟩ := Y1.out.below q2 Y1.out.2.2.2.2.2
  clear B1 X1 Y1 q2 x13 y13
  go_wp2_with fail
  refine (eqI_same a3 b3 c3 d3 qs _ (H3.out.below B2) (K3.out.below B2) L3.out).mono ?_
  rintro x w3 ⟨rfl, q3⟩
  have B3 := B2.trans (q3.mono B2.size)
  clear q3 B2
  go_wp2
  go_ret
  exact ⟨rfl, B3⟩
end Go.Proofs.Ytaklphoplfofbaa
