/- impl's SpaceStep (stage 4). -/
import Derived.Test.YtaklphoplfofbaaStL
import Derived.Test.YtaklphoplfofbaaStM
import Derived.Test.YtaklphoplfofbaaStP
namespace Go.Proofs.Ytaklphoplfofbaa
open Go.RowKit Go.Maps Go.WideShapes Go.ChangeMaps Go.MapKept

/-- What SpaceStep answers; b: its lists of numbers lie apart. -/
def RetS (b : Bool) (w : World) (t : Int) (R : SR) (d : Int) (r : Ending) (w' : World) : Prop :=
  ∃ u1 u2 u3 u4, r = .returned (.tuple #[SV t R.e u1 u2 u3, .agg #[.int .i64 R.c, u4], .int .i64 d]) ∧ OwnI w' w.heap.size u1 R.ss ∧ OwnP w' w.heap.size u2 R.ps ∧ OwnI w' w.heap.size u3 R.qs ∧ OwnI w' w.heap.size u4 R.pg ∧ (b = true → SepN 0 u1 u3 ∧ SepN 0 u1 u4 ∧ SepN 0 u3 u4) ∧ Below w.heap.size w w'
/-- Of a space that is not right. -/
def zR : SR := ⟨0, [], [], [], 0, []⟩

set_option maxRecDepth 100000 in
set_option maxHeartbeats 4000000 in
theorem implStep_bad (t e kk n : Int) (p1 p2 p3 : Addr) (c1 c2 c3 : Nat) (ss : List Int) (ps : List P2) (qs : List Int) (w : World) (h1 : RowI w (some p1) ss) (h2 : RowP w (some p2) ps) (h3 : RowI w (some p3) qs) (l1 : ss.length ≤ 1048576) (l2 : ps.length ≤ 1048576) (l3 : qs.length ≤ 1048576) (bad : asB (OkSp t e ss ps qs) = false) :
    Calls Try.prog 31 #[SV t e (.slice (some p1) ss.length c1) (.slice (some p2) ps.length c2) (.slice (some p3) qs.length c3), .agg #[.int .i64 kk, .int .i64 n]] w (RetS true w 0 zR 1) := by
  have H1 : Hid (RowI w (some p1) ss) := h1
  have H2 : Hid (RowP w (some p2) ps) := h2
  have H3 : Hid (RowI w (some p3) qs) := h3
  have L1 : Hid (ss.length ≤ 1048576) := l1
  have L2 : Hid (ps.length ≤ 1048576) := l2
  have L3 : Hid (qs.length ≤ 1048576) := l3
  clear h1 h2 h3 l1 l2 l3
  obtain ⟨W0, hW0⟩ : ∃ W0, W4 w t e (.slice (some p1) ss.length c1) (.slice (some p2) ps.length c2) (.slice (some p3) qs.length c3) kk n = W0 := ⟨_, rfl⟩
  have B0 : Below w.heap.size w W0 := hW0 ▸ below_W4 w t e _ _ _ _ _
  have z0 : W0.heap.size = w.heap.size + 4 := hW0 ▸ W4_size w t e _ _ _ _ _
  have xbW0 : W0.heap[w.heap.size]? = some (.cells #[.int .i64 t, .int .i64 e, .slice (some p1) ss.length c1, .slice (some p2) ps.length c2, .slice (some p3) qs.length c3] 29 (0, 0)) := hW0 ▸ W4_b w t e _ _ _ _ _
  have xaW0 : W0.heap[w.heap.size + 1]? = some (.cells #[.int .i64 kk, .int .i64 n] 39 (0, 0)) := hW0 ▸ W4_a w t e _ _ _ _ _
  have xrW0 : W0.heap[w.heap.size + 1 + 1]? = some (.cells #[.int .i64 0, .int .i64 0, .slice none 0 0, .slice none 0 0, .slice none 0 0] 29 (0, 0)) := hW0 ▸ W4_r w t e _ _ _ _ _
  have xqW0 : W0.heap[w.heap.size + 1 + 1 + 1]? = some (.cells #[.int .i64 0, .slice none 0 0] 37 (0, 0)) := hW0 ▸ W4_q w t e _ _ _ _ _
  have cb0W0 : W0.cell? ⟨w.heap.size, 0, none⟩ = some (.int .i64 t) := (by simp [World.cell?, xbW0])
  have cb1W0 : W0.cell? ⟨w.heap.size, 1, none⟩ = some (.int .i64 e) := (by simp [World.cell?, xbW0])
  have cb2W0 : W0.cell? ⟨w.heap.size, 2, none⟩ = some (.slice (some p1) ss.length c1) := (by simp [World.cell?, xbW0])
  have cb3W0 : W0.cell? ⟨w.heap.size, 3, none⟩ = some (.slice (some p2) ps.length c2) := (by simp [World.cell?, xbW0])
  have cb4W0 : W0.cell? ⟨w.heap.size, 4, none⟩ = some (.slice (some p3) qs.length c3) := (by simp [World.cell?, xbW0])
  have fbW0 : ∀ o, W0.frozen? ⟨w.heap.size, o, none⟩ = false := fun o => (by simp [World.frozen?, xbW0])
  have ca0W0 : W0.cell? ⟨w.heap.size + 1, 0, none⟩ = some (.int .i64 kk) := (by simp [World.cell?, xaW0])
  have ca1W0 : W0.cell? ⟨w.heap.size + 1, 1, none⟩ = some (.int .i64 n) := (by simp [World.cell?, xaW0])
  have faW0 : ∀ o, W0.frozen? ⟨w.heap.size + 1, o, none⟩ = false := fun o => (by simp [World.frozen?, xaW0])
  have cr0W0 : W0.cell? ⟨w.heap.size + 1 + 1, 0, none⟩ = some (.int .i64 0) := (by simp [World.cell?, xrW0])
  have cr1W0 : W0.cell? ⟨w.heap.size + 1 + 1, 1, none⟩ = some (.int .i64 0) := (by simp [World.cell?, xrW0])
  have cr2W0 : W0.cell? ⟨w.heap.size + 1 + 1, 2, none⟩ = some (.slice none 0 0) := (by simp [World.cell?, xrW0])
  have cr3W0 : W0.cell? ⟨w.heap.size + 1 + 1, 3, none⟩ = some (.slice none 0 0) := (by simp [World.cell?, xrW0])
  have cr4W0 : W0.cell? ⟨w.heap.size + 1 + 1, 4, none⟩ = some (.slice none 0 0) := (by simp [World.cell?, xrW0])
  have frW0 : ∀ o, W0.frozen? ⟨w.heap.size + 1 + 1, o, none⟩ = false := fun o => (by simp [World.frozen?, xrW0])
  have cq0W0 : W0.cell? ⟨w.heap.size + 1 + 1 + 1, 0, none⟩ = some (.int .i64 0) := (by simp [World.cell?, xqW0])
  have cq1W0 : W0.cell? ⟨w.heap.size + 1 + 1 + 1, 1, none⟩ = some (.slice none 0 0) := (by simp [World.cell?, xqW0])
  have fqW0 : ∀ o, W0.frozen? ⟨w.heap.size + 1 + 1 + 1, o, none⟩ = false := fun o => (by simp [World.frozen?, xqW0])
  have XB0 : Hid (W0.heap[w.heap.size]? = some (.cells #[.int .i64 t, .int .i64 e, .slice (some p1) ss.length c1, .slice (some p2) ps.length c2, .slice (some p3) qs.length c3] 29 (0, 0))) := xbW0
  have XA0 : Hid (W0.heap[w.heap.size + 1]? = some (.cells #[.int .i64 kk, .int .i64 n] 39 (0, 0))) := xaW0
  have XR0 : Hid (W0.heap[w.heap.size + 1 + 1]? = some (.cells #[.int .i64 0, .int .i64 0, .slice none 0 0, .slice none 0 0, .slice none 0 0] 29 (0, 0))) := xrW0
  have XQ0 : Hid (W0.heap[w.heap.size + 1 + 1 + 1]? = some (.cells #[.int .i64 0, .slice none 0 0] 37 (0, 0))) := xqW0
  clear xbW0 xaW0 xrW0 xqW0
  go_enter Try.func31, Try.ntmps31
  go_wp2_with fail
  refine (implSpaceOK_any t e (some p1) (some p2) (some p3) c1 c2 c3 ss ps qs W0 (H1.out.below B0) (H2.out.below B0) (H3.out.below B0) L1.out L2.out L3.out).mono ?_
  rintro r w1 ⟨rfl, b1⟩
  have B1 : Below w.heap.size w w1 := B0.trans (b1.mono B0.size)
  have n1 : W0.heap.size ≤ w1.heap.size := b1.size
  have xbw1 := keepBlk XB0.out b1 (by omega)
  have xaw1 := keepBlk XA0.out b1 (by omega)
  have xrw1 := keepBlk XR0.out b1 (by omega)
  have xqw1 := keepBlk XQ0.out b1 (by omega)
  clear cb0W0 cb1W0 cb2W0 cb3W0 cb4W0 fbW0 ca0W0 ca1W0 faW0 cr0W0 cr1W0 cr2W0 cr3W0 cr4W0 frW0 cq0W0 cq1W0 fqW0
  have cb0w1 : w1.cell? ⟨w.heap.size, 0, none⟩ = some (.int .i64 t) := (by simp [World.cell?, xbw1])
  have cb1w1 : w1.cell? ⟨w.heap.size, 1, none⟩ = some (.int .i64 e) := (by simp [World.cell?, xbw1])
  have cb2w1 : w1.cell? ⟨w.heap.size, 2, none⟩ = some (.slice (some p1) ss.length c1) := (by simp [World.cell?, xbw1])
  have cb3w1 : w1.cell? ⟨w.heap.size, 3, none⟩ = some (.slice (some p2) ps.length c2) := (by simp [World.cell?, xbw1])
  have cb4w1 : w1.cell? ⟨w.heap.size, 4, none⟩ = some (.slice (some p3) qs.length c3) := (by simp [World.cell?, xbw1])
  have fbw1 : ∀ o, w1.frozen? ⟨w.heap.size, o, none⟩ = false := fun o => (by simp [World.frozen?, xbw1])
  have ca0w1 : w1.cell? ⟨w.heap.size + 1, 0, none⟩ = some (.int .i64 kk) := (by simp [World.cell?, xaw1])
  have ca1w1 : w1.cell? ⟨w.heap.size + 1, 1, none⟩ = some (.int .i64 n) := (by simp [World.cell?, xaw1])
  have faw1 : ∀ o, w1.frozen? ⟨w.heap.size + 1, o, none⟩ = false := fun o => (by simp [World.frozen?, xaw1])
  have cr0w1 : w1.cell? ⟨w.heap.size + 1 + 1, 0, none⟩ = some (.int .i64 0) := (by simp [World.cell?, xrw1])
  have cr1w1 : w1.cell? ⟨w.heap.size + 1 + 1, 1, none⟩ = some (.int .i64 0) := (by simp [World.cell?, xrw1])
  have cr2w1 : w1.cell? ⟨w.heap.size + 1 + 1, 2, none⟩ = some (.slice none 0 0) := (by simp [World.cell?, xrw1])
  have cr3w1 : w1.cell? ⟨w.heap.size + 1 + 1, 3, none⟩ = some (.slice none 0 0) := (by simp [World.cell?, xrw1])
  have cr4w1 : w1.cell? ⟨w.heap.size + 1 + 1, 4, none⟩ = some (.slice none 0 0) := (by simp [World.cell?, xrw1])
  have frw1 : ∀ o, w1.frozen? ⟨w.heap.size + 1 + 1, o, none⟩ = false := fun o => (by simp [World.frozen?, xrw1])
  have cq0w1 : w1.cell? ⟨w.heap.size + 1 + 1 + 1, 0, none⟩ = some (.int .i64 0) := (by simp [World.cell?, xqw1])
  have cq1w1 : w1.cell? ⟨w.heap.size + 1 + 1 + 1, 1, none⟩ = some (.slice none 0 0) := (by simp [World.cell?, xqw1])
  have fqw1 : ∀ o, w1.frozen? ⟨w.heap.size + 1 + 1 + 1, o, none⟩ = false := fun o => (by simp [World.frozen?, xqw1])
  have XB1 : Hid (w1.heap[w.heap.size]? = some (.cells #[.int .i64 t, .int .i64 e, .slice (some p1) ss.length c1, .slice (some p2) ps.length c2, .slice (some p3) qs.length c3] 29 (0, 0))) := xbw1
  have XA1 : Hid (w1.heap[w.heap.size + 1]? = some (.cells #[.int .i64 kk, .int .i64 n] 39 (0, 0))) := xaw1
  have XR1 : Hid (w1.heap[w.heap.size + 1 + 1]? = some (.cells #[.int .i64 0, .int .i64 0, .slice none 0 0, .slice none 0 0, .slice none 0 0] 29 (0, 0))) := xrw1
  have XQ1 : Hid (w1.heap[w.heap.size + 1 + 1 + 1]? = some (.cells #[.int .i64 0, .slice none 0 0] 37 (0, 0))) := xqw1
  clear xbw1 xaw1 xrw1 xqw1 b1 XB0 XA0 XR0 XQ0
  rw [bad]
  go_wp2
  refine bodyPost_ret (v := .tuple #[SV 0 0 (.slice none 0 0) (.slice none 0 0) (.slice none 0 0), .agg #[.int .i64 0, .slice none 0 0], .int .i64 1]) (by go_simp; simp [results, Try.results31, go_sem, cr0w1, cr1w1, cr2w1, cr3w1, cr4w1, cq0w1, cq1w1]) rfl ⟨_, _, _, _, rfl, OwnI.nil _ _, ⟨rfl, .inl ⟨rfl, rfl⟩⟩, OwnI.nil _ _, OwnI.nil _ _, fun _ => ⟨SepN.none _ _ _ _, SepN.none _ _ _ _, SepN.none _ _ _ _⟩, res_below B1 (by omega) _ _ _ _ _ _ _⟩


theorem mapOf_heap {w : World} {m : Nat} (h : w.heap[m]? = some (.map #[] 0)) : MapOf w m 0 (.map []) :=
  ⟨#[], 0, h, ⟨by simp, stamped_empty 0, by simp⟩, Nat.le_refl _, rfl⟩
/-- Four lists of a space and its reply, owned. -/
def V4 (w : World) (n : Nat) (v1 v2 v3 : Value) (ss : List Int) (ps : List P2) (qs : List Int) : Prop := OwnI w n v1 ss ∧ OwnP w n v2 ps ∧ OwnI w n v3 qs ∧ SepN 0 v1 v3
def U4 (w : World) (n : Nat) (u1 u2 u3 u4 : Value) (R : SR) : Prop := OwnI w n u1 R.ss ∧ OwnP w n u2 R.ps ∧ OwnI w n u3 R.qs ∧ OwnI w n u4 R.pg ∧ SepN 0 u1 u3 ∧ SepN 0 u1 u4 ∧ SepN 0 u3 u4
theorem V4.of {w : World} {n n' : Nat} {v1 v2 v3 : Value} {ss : List Int} {ps : List P2} {qs : List Int} (h1 : OwnI w n' v1 ss) (h2 : OwnP w n' v2 ps) (h3 : OwnI w n' v3 qs) (s : SepN 0 v1 v3) (hn : n ≤ n') : V4 w n v1 v2 v3 ss ps qs := ⟨own_mono h1 hn, own_mono h2 hn, own_mono h3 hn, s⟩
theorem V4.keep {w w' : World} {n : Nat} {v1 v2 v3 : Value} {ss : List Int} {ps : List P2} {qs : List Int} (h : V4 w n v1 v2 v3 ss ps qs) (hk : ∀ g, n ≤ g → g < w.heap.size → w'.heap[g]? = w.heap[g]?) : V4 w' n v1 v2 v3 ss ps qs := ⟨own_keep h.1 hk, own_keep h.2.1 hk, own_keep h.2.2.1 hk, h.2.2.2⟩
theorem U4.keep {w w' : World} {n : Nat} {u1 u2 u3 u4 : Value} {R : SR} (h : U4 w n u1 u2 u3 u4 R) (hk : ∀ g, n ≤ g → g < w.heap.size → w'.heap[g]? = w.heap[g]?) : U4 w' n u1 u2 u3 u4 R := ⟨own_keep h.1 hk, own_keep h.2.1 hk, own_keep h.2.2.1 hk, own_keep h.2.2.2.1 hk, h.2.2.2.2⟩
theorem own_typ {w w' : World} {B e m n : Nat} {v : Value} {xs : List Value} (h : w.ownsRow B e m v n xs) (hb : ∀ j : Nat, (∃ cs, w.heap[j]? = some (Obj.cells cs e (0, 0))) → w'.heap[j]? = w.heap[j]?) : w'.ownsRow B e m v n xs := by
  refine ⟨h.1, ?_⟩
  rcases h.2 with h | ⟨g, cap, cur, rfl, e2, hh, r⟩
  · exact .inl h
  · exact .inr ⟨g, cap, cur, rfl, e2, (hb g ⟨_, hh⟩).trans hh, r⟩
theorem U4.keepT {w w' : World} {n : Nat} {u1 u2 u3 u4 : Value} {R : SR} (h : U4 w n u1 u2 u3 u4 R) (hk : ∀ j : Nat, ((∃ cs, w.heap[j]? = some (Obj.cells cs 3 (0, 0))) ∨ ∃ cs, w.heap[j]? = some (Obj.cells cs 88 (0, 0))) → w'.heap[j]? = w.heap[j]?) : U4 w' n u1 u2 u3 u4 R :=
  ⟨own_typ h.1 fun j hj => hk j (.inl hj), own_typ h.2.1 fun j hj => hk j (.inr hj), own_typ h.2.2.1 fun j hj => hk j (.inl hj), own_typ h.2.2.2.1 fun j hj => hk j (.inl hj), h.2.2.2.2⟩
theorem sq_own {w w' : World} {n m : Nat} {es : Array MapEntry} {cl : Nat} {v1 v2 v3 : Value} {ss : List Int} {ps : List P2} {qs : List Int} {R : SR} {u1 u2 u3 u4 : Value} (hv : V4 w n v1 v2 v3 ss ps qs) (hs : SV4 w.heap.size v1 v2 v3 ss ps qs R.ss R.ps R.qs R.pg u1 u2 u3 u4 w') (hK : Kept (fun j => j = m) w w') (hm : w.heap[m]? = some (.map es cl)) (hn : n ≤ w.heap.size) : U4 w' n u1 u2 u3 u4 R := by
  obtain ⟨h1, h2, h3, sp⟩ := hv
  obtain ⟨a1, a2, a3, a4, s1, s2, s3⟩ := hs
  have k : ∀ j : Nat, (∃ cs e, w.heap[j]? = some (Obj.cells cs e (0, 0))) → w'.heap[j]? = w.heap[j]? := fun j ⟨cs, e, hj⟩ => hK.block j (slab_lt hj) fun hq => by
    have e : j = m := hq
    subst e
    rw [hm] at hj
    cases hj
  have f1 : OwnI w' n v1 ss := own_typ h1 fun j ⟨cs, hj⟩ => k j ⟨cs, _, hj⟩
  have f2 : OwnP w' n v2 ps := own_typ h2 fun j ⟨cs, hj⟩ => k j ⟨cs, _, hj⟩
  have f3 : OwnI w' n v3 qs := own_typ h3 fun j ⟨cs, hj⟩ => k j ⟨cs, _, hj⟩
  have g1 : OwnI w' n u1 R.ss := by
    rcases a1 with ⟨e, e'⟩ | o
    · rw [e, e']; exact f1
    · exact own_mono o hn
  have g2 : OwnP w' n u2 R.ps := by
    rcases a2 with ⟨e, e'⟩ | o
    · rw [e, e']; exact f2
    · exact own_mono o hn
  have g3 : OwnI w' n u3 R.qs := by
    rcases a3 with ⟨e, e'⟩ | o
    · rw [e, e']; exact f3
    · exact own_mono o hn
  have old1 : ∀ j, u1 = v1 → u1.ownBlock = some j → j < w.heap.size := fun j e p => (own_lt h1 (e ▸ p)).2
  have old3 : ∀ j, u3 = v3 → u3.ownBlock = some j → j < w.heap.size := fun j e p => (own_lt h3 (e ▸ p)).2
  refine ⟨g1, g2, g3, own_mono a4 hn, fun j _ p q => ?_, fun j _ p q => ?_, fun j _ p q => ?_⟩
  · rcases a1 with ⟨e1, _⟩ | n1
    · rcases a3 with ⟨e3, _⟩ | n3
      · exact sp j (Nat.zero_le _) (e1 ▸ p) (e3 ▸ q)
      · have := old1 j e1 p
        have := (own_lt n3 q).1
        omega
    · have x1 := (own_lt n1 p).1
      rcases s3 with e | e | s
      · have := old1 j e p
        omega
      · have := old3 j e q
        omega
      · exact s j x1 p q
  · have x4 := (own_lt a4 q).1
    rcases s1 with e | s
    · have := old1 j e p
      omega
    · exact s j x4 p q
  · have x4 := (own_lt a4 q).1
    rcases s2 with e | s
    · have := old3 j e p
      omega
    · exact s j x4 p q
theorem two_other (w : World) (r : Nat) (a b : Value) {g : Nat} (h : g ≠ r) : ((w.setCell ⟨r, 0, none⟩ a).setCell ⟨r, 1, none⟩ b).heap[g]? = w.heap[g]? := by
  rw [Below.heap_setCell _ _ _ _ h, Below.heap_setCell _ _ _ _ h]
theorem two_below {B : Nat} {u w : World} {r : Nat} (hb : Below B u w) (hr : B ≤ r) (a b : Value) : Below B u ((w.setCell ⟨r, 0, none⟩ a).setCell ⟨r, 1, none⟩ b) :=
  (hb.setCell (p := ⟨r, 0, none⟩) hr a).setCell (p := ⟨r, 1, none⟩) hr b
theorem two_at {w : World} {r : Nat} {ty : TypeId} {v0 v1 : Value} (h : w.heap[r]? = some (.cells #[v0, v1] ty (0, 0))) {a b : Value} : ((w.setCell ⟨r, 0, none⟩ a).setCell ⟨r, 1, none⟩ b).heap[r]? = some (.cells #[a, b] ty (0, 0)) :=
  slab_set (slab_set h _) _
theorem own_drew {w : World} {B e m n : Nat} {v : Value} {xs : List Value} (h : w.ownsRow B e m v n xs) : w.drew.ownsRow B e m v n xs := own_keep h fun _ _ _ => rfl
/-- A space in block y, a reply in block z. -/
abbrev Box72 (y z : Nat) (t e : Int) (v1 v2 v3 : Value) (c : Int) (p : Value) (w : World) : Prop := Box5 y t e v1 v2 v3 w ∧ w.cell? ⟨z, 0, none⟩ = some (.int .i64 c) ∧ w.cell? ⟨z, 1, none⟩ = some p
theorem box72_of {y z : Nat} {t e : Int} {v1 v2 v3 : Value} {c : Int} {p : Value} {w : World} {ty ta : TypeId} (x : w.heap[y]? = some (.cells #[.int .i64 t, .int .i64 e, v1, v2, v3] ty (0, 0))) (x' : w.heap[z]? = some (.cells #[.int .i64 c, p] ta (0, 0))) : Box72 y z t e v1 v2 v3 c p w :=
  ⟨box5_of x, by simp [World.cell?, x'], by simp [World.cell?, x']⟩
theorem box72_drew {y z : Nat} {t e : Int} {v1 v2 v3 : Value} {c : Int} {p : Value} {w : World} (x : Box72 y z t e v1 v2 v3 c p w) : Box72 y z t e v1 v2 v3 c p w.drew := x
theorem box72_set {y z g o : Nat} {t e : Int} {v1 v2 v3 v : Value} {c : Int} {p : Value} {w : World} (x : Box72 y z t e v1 v2 v3 c p w) (h1 : g ≠ y) (h2 : g ≠ z) : Box72 y z t e v1 v2 v3 c p (w.setCell ⟨g, o, none⟩ v) := by
  have k : ∀ i, (w.setCell ⟨g, o, none⟩ v).cell? ⟨z, i, none⟩ = w.cell? ⟨z, i, none⟩ := fun i => World.cell?_of_block (a := ⟨z, i, none⟩) (Below.heap_setCell _ _ _ _ (fun h => h2 h.symm))
  exact ⟨box5_set x.1 h1, (k 0).trans x.2.1, (k 1).trans x.2.2⟩
/-- What stands behind each set of the step's operations. -/
def I31 (w w1 : World) (T : Nat) (e kk n : Int) (p1 p2 p3 : Addr) (c1 c2 c3 : Nat) (ss : List Int) (ps : List P2) (qs : List Int) (lst : Array Bool) (a : Act) (w' : World) : Prop :=
  ∃ l0 l1 l2 l3 l4 l5 l6 l7 l8 l9 l10 l11 x7 x8 x14 x15 x16 x17 x18 x19 x20 x21 u1 u2 u3 u4, lst = #[l0, l1, l2, l3, l4, l5, l6, l7, l8, l9, l10, l11] ∧ a = ⟨#[SV T e (.slice (some p1) ss.length c1) (.slice (some p2) ps.length c2) (.slice (some p3) qs.length c3), .agg #[.int .i64 kk, .int .i64 n], .pointer (some ⟨w.heap.size, 0, none⟩), .pointer (some ⟨w.heap.size + 1, 0, none⟩), .pointer (some ⟨w.heap.size + 1 + 1, 0, none⟩), .pointer (some ⟨w.heap.size + 1 + 1 + 1, 0, none⟩), .int .i64 0, x7, x8, .agg #[.int .i64 (T : Int), .int .i64 e, .slice (some p1) ss.length c1, .slice (some p2) ps.length c2, .slice (some p3) qs.length c3], .bool true, .bool false, undef, undef, x14, x15, x16, x17, x18, x19, x20, x21, undef, undef], []⟩ ∧ (l0 = true → x15 = .agg #[.int .i64 (T : Int), .int .i64 e, .slice (some p1) ss.length c1, .slice (some p2) ps.length c2, .slice (some p3) qs.length c3]) ∧ (l2 = true → x17 = .agg #[.int .i64 kk, .int .i64 n]) ∧ (l1 = true → l4 = false → ∃ v1 v2 v3, x16 = SV T e v1 v2 v3 ∧ V4 w' w1.heap.size v1 v2 v3 ss ps qs) ∧ (l3 = true → l4 = false → ∃ m, x18 = .map (some m) ∧ w1.heap.size ≤ m ∧ w'.heap[m]? = some (.map #[] 0)) ∧ (l4 = true → (l1 = true ∧ l3 = true) ∧ x19 = .tuple #[SV T (stp T e ss ps qs kk n).e u1 u2 u3, .agg #[.int .i64 (stp T e ss ps qs kk n).c, u4]] ∧ U4 w' w1.heap.size u1 u2 u3 u4 (stp T e ss ps qs kk n)) ∧ (l5 = true → l4 = true ∧ x14 = .tuple #[SV T (stp T e ss ps qs kk n).e u1 u2 u3, .agg #[.int .i64 (stp T e ss ps qs kk n).c, u4]]) ∧ (l6 = true → l4 = true ∧ x20 = SV T (stp T e ss ps qs kk n).e u1 u2 u3) ∧ (l7 = true → l4 = true ∧ x21 = .agg #[.int .i64 (stp T e ss ps qs kk n).c, u4]) ∧ (l8 = true → ∃ Y7, x7 = .pointer (some ⟨Y7, 0, none⟩) ∧ w1.heap.size ≤ Y7 ∧ w'.heap[Y7]? = some (.cells (if l10 then #[.int .i64 T, .int .i64 (stp T e ss ps qs kk n).e, u1, u2, u3] else #[.int .i64 0, .int .i64 0, .slice none 0 0, .slice none 0 0, .slice none 0 0]) 29 (0, 0))) ∧ (l9 = true → ∃ Y8, x8 = .pointer (some ⟨Y8, 0, none⟩) ∧ w1.heap.size ≤ Y8 ∧ w'.heap[Y8]? = some (.cells (if l11 then #[.int .i64 (stp T e ss ps qs kk n).c, u4] else #[.int .i64 0, .slice none 0 0]) 37 (0, 0))) ∧ (l10 = true → l8 = true ∧ l6 = true) ∧ (l11 = true → l9 = true ∧ l7 = true) ∧ Below w1.heap.size w1 w'

set_option maxRecDepth 100000 in
set_option maxHeartbeats 16000000 in
theorem implStep_ok (T : Nat) (e kk n : Int) (p1 p2 p3 : Addr) (c1 c2 c3 : Nat) (ss : List Int) (ps : List P2) (qs : List Int) (w : World) (h1 : RowI w (some p1) ss) (h2 : RowP w (some p2) ps) (h3 : RowI w (some p3) qs) (l1 : ss.length ≤ 1048576) (l2 : ps.length ≤ 1048576) (l3 : qs.length ≤ 1048576) (ok : OkSp T e ss ps qs) :
    Calls Try.prog 31 #[SV T e (.slice (some p1) ss.length c1) (.slice (some p2) ps.length c2) (.slice (some p3) qs.length c3), .agg #[.int .i64 kk, .int .i64 n]] w (RetS true w T (stp T e ss ps qs kk n) 0) := by
  have OK : Hid (OkSp T e ss ps qs) := ok
  have okb := (asB_true ok).symm
  clear ok
  have H1 : Hid (RowI w (some p1) ss) := h1
  have H2 : Hid (RowP w (some p2) ps) := h2
  have H3 : Hid (RowI w (some p3) qs) := h3
  have L1 : Hid (ss.length ≤ 1048576) := l1
  have L2 : Hid (ps.length ≤ 1048576) := l2
  have L3 : Hid (qs.length ≤ 1048576) := l3
  clear h1 h2 h3 l1 l2 l3
  obtain ⟨W0, hW0⟩ : ∃ W0, W4 w (T : Int) e (.slice (some p1) ss.length c1) (.slice (some p2) ps.length c2) (.slice (some p3) qs.length c3) kk n = W0 := ⟨_, rfl⟩
  have B0 : Below w.heap.size w W0 := hW0 ▸ below_W4 w (T : Int) e _ _ _ _ _
  have z0 : W0.heap.size = w.heap.size + 4 := hW0 ▸ W4_size w (T : Int) e _ _ _ _ _
  have xbW0 : W0.heap[w.heap.size]? = some (.cells #[.int .i64 (T : Int), .int .i64 e, .slice (some p1) ss.length c1, .slice (some p2) ps.length c2, .slice (some p3) qs.length c3] 29 (0, 0)) := hW0 ▸ W4_b w (T : Int) e _ _ _ _ _
  have xaW0 : W0.heap[w.heap.size + 1]? = some (.cells #[.int .i64 kk, .int .i64 n] 39 (0, 0)) := hW0 ▸ W4_a w (T : Int) e _ _ _ _ _
  have xrW0 : W0.heap[w.heap.size + 1 + 1]? = some (.cells #[.int .i64 0, .int .i64 0, .slice none 0 0, .slice none 0 0, .slice none 0 0] 29 (0, 0)) := hW0 ▸ W4_r w (T : Int) e _ _ _ _ _
  have xqW0 : W0.heap[w.heap.size + 1 + 1 + 1]? = some (.cells #[.int .i64 0, .slice none 0 0] 37 (0, 0)) := hW0 ▸ W4_q w (T : Int) e _ _ _ _ _
  have cb0W0 : W0.cell? ⟨w.heap.size, 0, none⟩ = some (.int .i64 (T : Int)) := (by simp [World.cell?, xbW0])
  have cb1W0 : W0.cell? ⟨w.heap.size, 1, none⟩ = some (.int .i64 e) := (by simp [World.cell?, xbW0])
  have cb2W0 : W0.cell? ⟨w.heap.size, 2, none⟩ = some (.slice (some p1) ss.length c1) := (by simp [World.cell?, xbW0])
  have cb3W0 : W0.cell? ⟨w.heap.size, 3, none⟩ = some (.slice (some p2) ps.length c2) := (by simp [World.cell?, xbW0])
  have cb4W0 : W0.cell? ⟨w.heap.size, 4, none⟩ = some (.slice (some p3) qs.length c3) := (by simp [World.cell?, xbW0])
  have fbW0 : ∀ o, W0.frozen? ⟨w.heap.size, o, none⟩ = false := fun o => (by simp [World.frozen?, xbW0])
  have ca0W0 : W0.cell? ⟨w.heap.size + 1, 0, none⟩ = some (.int .i64 kk) := (by simp [World.cell?, xaW0])
  have ca1W0 : W0.cell? ⟨w.heap.size + 1, 1, none⟩ = some (.int .i64 n) := (by simp [World.cell?, xaW0])
  have faW0 : ∀ o, W0.frozen? ⟨w.heap.size + 1, o, none⟩ = false := fun o => (by simp [World.frozen?, xaW0])
  have cr0W0 : W0.cell? ⟨w.heap.size + 1 + 1, 0, none⟩ = some (.int .i64 0) := (by simp [World.cell?, xrW0])
  have cr1W0 : W0.cell? ⟨w.heap.size + 1 + 1, 1, none⟩ = some (.int .i64 0) := (by simp [World.cell?, xrW0])
  have cr2W0 : W0.cell? ⟨w.heap.size + 1 + 1, 2, none⟩ = some (.slice none 0 0) := (by simp [World.cell?, xrW0])
  have cr3W0 : W0.cell? ⟨w.heap.size + 1 + 1, 3, none⟩ = some (.slice none 0 0) := (by simp [World.cell?, xrW0])
  have cr4W0 : W0.cell? ⟨w.heap.size + 1 + 1, 4, none⟩ = some (.slice none 0 0) := (by simp [World.cell?, xrW0])
  have frW0 : ∀ o, W0.frozen? ⟨w.heap.size + 1 + 1, o, none⟩ = false := fun o => (by simp [World.frozen?, xrW0])
  have cq0W0 : W0.cell? ⟨w.heap.size + 1 + 1 + 1, 0, none⟩ = some (.int .i64 0) := (by simp [World.cell?, xqW0])
  have cq1W0 : W0.cell? ⟨w.heap.size + 1 + 1 + 1, 1, none⟩ = some (.slice none 0 0) := (by simp [World.cell?, xqW0])
  have fqW0 : ∀ o, W0.frozen? ⟨w.heap.size + 1 + 1 + 1, o, none⟩ = false := fun o => (by simp [World.frozen?, xqW0])
  have XB0 : Hid (W0.heap[w.heap.size]? = some (.cells #[.int .i64 (T : Int), .int .i64 e, .slice (some p1) ss.length c1, .slice (some p2) ps.length c2, .slice (some p3) qs.length c3] 29 (0, 0))) := xbW0
  have XA0 : Hid (W0.heap[w.heap.size + 1]? = some (.cells #[.int .i64 kk, .int .i64 n] 39 (0, 0))) := xaW0
  have XR0 : Hid (W0.heap[w.heap.size + 1 + 1]? = some (.cells #[.int .i64 0, .int .i64 0, .slice none 0 0, .slice none 0 0, .slice none 0 0] 29 (0, 0))) := xrW0
  have XQ0 : Hid (W0.heap[w.heap.size + 1 + 1 + 1]? = some (.cells #[.int .i64 0, .slice none 0 0] 37 (0, 0))) := xqW0
  clear xbW0 xaW0 xrW0 xqW0
  go_enter Try.func31, Try.ntmps31
  go_wp2_with fail
  refine (implSpaceOK_any (T : Int) e (some p1) (some p2) (some p3) c1 c2 c3 ss ps qs W0 (H1.out.below B0) (H2.out.below B0) (H3.out.below B0) L1.out L2.out L3.out).mono ?_
  rintro r w1 ⟨rfl, b1⟩
  have B1 : Below w.heap.size w w1 := B0.trans (b1.mono B0.size)
  have n1 : W0.heap.size ≤ w1.heap.size := b1.size
  have xbw1 := keepBlk XB0.out b1 (by omega)
  have xaw1 := keepBlk XA0.out b1 (by omega)
  have xrw1 := keepBlk XR0.out b1 (by omega)
  have xqw1 := keepBlk XQ0.out b1 (by omega)
  clear cb0W0 cb1W0 cb2W0 cb3W0 cb4W0 fbW0 ca0W0 ca1W0 faW0 cr0W0 cr1W0 cr2W0 cr3W0 cr4W0 frW0 cq0W0 cq1W0 fqW0
  have cb0w1 : w1.cell? ⟨w.heap.size, 0, none⟩ = some (.int .i64 (T : Int)) := (by simp [World.cell?, xbw1])
  have cb1w1 : w1.cell? ⟨w.heap.size, 1, none⟩ = some (.int .i64 e) := (by simp [World.cell?, xbw1])
  have cb2w1 : w1.cell? ⟨w.heap.size, 2, none⟩ = some (.slice (some p1) ss.length c1) := (by simp [World.cell?, xbw1])
  have cb3w1 : w1.cell? ⟨w.heap.size, 3, none⟩ = some (.slice (some p2) ps.length c2) := (by simp [World.cell?, xbw1])
  have cb4w1 : w1.cell? ⟨w.heap.size, 4, none⟩ = some (.slice (some p3) qs.length c3) := (by simp [World.cell?, xbw1])
  have fbw1 : ∀ o, w1.frozen? ⟨w.heap.size, o, none⟩ = false := fun o => (by simp [World.frozen?, xbw1])
  have ca0w1 : w1.cell? ⟨w.heap.size + 1, 0, none⟩ = some (.int .i64 kk) := (by simp [World.cell?, xaw1])
  have ca1w1 : w1.cell? ⟨w.heap.size + 1, 1, none⟩ = some (.int .i64 n) := (by simp [World.cell?, xaw1])
  have faw1 : ∀ o, w1.frozen? ⟨w.heap.size + 1, o, none⟩ = false := fun o => (by simp [World.frozen?, xaw1])
  have cr0w1 : w1.cell? ⟨w.heap.size + 1 + 1, 0, none⟩ = some (.int .i64 0) := (by simp [World.cell?, xrw1])
  have cr1w1 : w1.cell? ⟨w.heap.size + 1 + 1, 1, none⟩ = some (.int .i64 0) := (by simp [World.cell?, xrw1])
  have cr2w1 : w1.cell? ⟨w.heap.size + 1 + 1, 2, none⟩ = some (.slice none 0 0) := (by simp [World.cell?, xrw1])
  have cr3w1 : w1.cell? ⟨w.heap.size + 1 + 1, 3, none⟩ = some (.slice none 0 0) := (by simp [World.cell?, xrw1])
  have cr4w1 : w1.cell? ⟨w.heap.size + 1 + 1, 4, none⟩ = some (.slice none 0 0) := (by simp [World.cell?, xrw1])
  have frw1 : ∀ o, w1.frozen? ⟨w.heap.size + 1 + 1, o, none⟩ = false := fun o => (by simp [World.frozen?, xrw1])
  have cq0w1 : w1.cell? ⟨w.heap.size + 1 + 1 + 1, 0, none⟩ = some (.int .i64 0) := (by simp [World.cell?, xqw1])
  have cq1w1 : w1.cell? ⟨w.heap.size + 1 + 1 + 1, 1, none⟩ = some (.slice none 0 0) := (by simp [World.cell?, xqw1])
  have fqw1 : ∀ o, w1.frozen? ⟨w.heap.size + 1 + 1 + 1, o, none⟩ = false := fun o => (by simp [World.frozen?, xqw1])
  have XB1 : Hid (w1.heap[w.heap.size]? = some (.cells #[.int .i64 (T : Int), .int .i64 e, .slice (some p1) ss.length c1, .slice (some p2) ps.length c2, .slice (some p3) qs.length c3] 29 (0, 0))) := xbw1
  have XA1 : Hid (w1.heap[w.heap.size + 1]? = some (.cells #[.int .i64 kk, .int .i64 n] 39 (0, 0))) := xaw1
  have XR1 : Hid (w1.heap[w.heap.size + 1 + 1]? = some (.cells #[.int .i64 0, .int .i64 0, .slice none 0 0, .slice none 0 0, .slice none 0 0] 29 (0, 0))) := xrw1
  have XQ1 : Hid (w1.heap[w.heap.size + 1 + 1 + 1]? = some (.cells #[.int .i64 0, .slice none 0 0] 37 (0, 0))) := xqw1
  clear xbw1 xaw1 xrw1 xqw1 b1 XB0 XA0 XR0 XQ0
  rw [okb]
  have hmm := @run_makeMap Try.prog
  have HB1 : Hid (Below w.heap.size w w1) := B1
  go_wp2_with fail
  refine wp_region_inv (by kernel_rfl) (I31 w w1 T e kk n p1 p2 p3 c1 c2 c3 ss ps qs) ?h0 ?hstep ?hend
  case h0 =>
    refine ⟨false, false, false, false, false, false, false, false, false, false, false, false, undef, undef, undef, undef, undef, undef, undef, undef, undef, undef, undef, undef, undef, undef, rfl, rfl, ?_, ?_, ?_, ?_, ?_, ?_, ?_, ?_, ?_, ?_, ?_, ?_, ?_⟩
    all_goals first | (intro h; cases h) | exact below_draw
  case hstep =>
    rintro lst a w' i hsz ⟨l0, l1, l2, l3, l4, l5, l6, l7, l8, l9, l10, l11, x7, x8, x14, x15, x16, x17, x18, x19, x20, x21, u1, u2, u3, u4, rfl, rfl, m0, m2, k1, k3, k4, m5, m6, m7, k8, k9, q10, q11, hb⟩ hi
    have hlt : i < 12 := ready_lt hi
    have hnew := ready_new hi
    rcases (show i = 0 ∨ i = 1 ∨ i = 2 ∨ i = 3 ∨ i = 4 ∨ i = 5 ∨ i = 6 ∨ i = 7 ∨ i = 8 ∨ i = 9 ∨ i = 10 ∨ i = 11 by omega) with rfl | rfl | rfl | rfl | rfl | rfl | rfl | rfl | rfl | rfl | rfl | rfl
    all_goals (refine wpOp_step (by rfl) (fun K hK => ?_))
    all_goals (have hd := ready_deps hi rfl)
    all_goals (simp [Region.binds] at hd hnew)
    · subst hnew
      have cb0 : w'.cell? ⟨w.heap.size, 0, none⟩ = some (.int .i64 (T : Int)) := ((hb.cell (p := ⟨w.heap.size, 0, none⟩) (by show w.heap.size < _; omega)).trans cb0w1)
      have cb1 : w'.cell? ⟨w.heap.size, 1, none⟩ = some (.int .i64 e) := ((hb.cell (p := ⟨w.heap.size, 1, none⟩) (by show w.heap.size < _; omega)).trans cb1w1)
      have cb2 : w'.cell? ⟨w.heap.size, 2, none⟩ = some (.slice (some p1) ss.length c1) := ((hb.cell (p := ⟨w.heap.size, 2, none⟩) (by show w.heap.size < _; omega)).trans cb2w1)
      have cb3 : w'.cell? ⟨w.heap.size, 3, none⟩ = some (.slice (some p2) ps.length c2) := ((hb.cell (p := ⟨w.heap.size, 3, none⟩) (by show w.heap.size < _; omega)).trans cb3w1)
      have cb4 : w'.cell? ⟨w.heap.size, 4, none⟩ = some (.slice (some p3) qs.length c3) := ((hb.cell (p := ⟨w.heap.size, 4, none⟩) (by show w.heap.size < _; omega)).trans cb4w1)
      go_simp
      exact hK _ _ ⟨_, _, _, _, _, _, _, _, _, _, _, _, _, _, _, _, _, _, _, _, _, _, u1, u2, u3, u4, rfl, rfl, (fun _ => rfl), m2, k1, k3, k4, m5, m6, m7, k8, k9, q10, q11, hb⟩
    · obtain rfl : l4 = false := (by cases h : l4; rfl; exact absurd (k4 h).1.1 (by simp [hnew]))
      subst hnew
      obtain rfl := m0 hd
      go_simp
      go_at_call 60
      refine (copySpace_sep T e p1 p2 p3 c1 c2 c3 ss ps qs w' (H1.out.below (HB1.out.trans (hb.mono HB1.out.size))) (H2.out.below (HB1.out.trans (hb.mono HB1.out.size))) (H3.out.below (HB1.out.trans (hb.mono HB1.out.size))) L1.out L2.out L3.out).mono ?_
      rintro r w'' ⟨v1, v2, v3, rfl, o1, o2, o3, sp, b2⟩
      exact hK _ _ ⟨_, _, _, _, _, _, _, _, _, _, _, _, _, _, _, _, _, _, _, _, _, _, u1, u2, u3, u4, rfl, rfl, m0, m2, (fun _ _ => ⟨v1, v2, v3, rfl, V4.of o1 o2 o3 sp (by have := hb.size; omega)⟩), (fun h h' => (by obtain ⟨m, em, hm, hh⟩ := k3 h h'; exact ⟨m, em, hm, ((fun j hl => b2.block j hl) m (slab_lt hh)).trans hh⟩)), (fun h => absurd (k4 h).1.1 (by simp)), m5, m6, m7, (fun h => (by obtain ⟨Y, eY, hY, hh⟩ := k8 h; exact ⟨Y, eY, hY, ((fun j hl => b2.block j hl) Y (slab_lt hh)).trans hh⟩)), (fun h => (by obtain ⟨Y, eY, hY, hh⟩ := k9 h; exact ⟨Y, eY, hY, ((fun j hl => b2.block j hl) Y (slab_lt hh)).trans hh⟩)), q10, q11, (hb.trans (b2.mono hb.size))⟩
    · subst hnew
      have ca0 : w'.cell? ⟨w.heap.size + 1, 0, none⟩ = some (.int .i64 kk) := ((hb.cell (p := ⟨w.heap.size + 1, 0, none⟩) (by show w.heap.size + 1 < _; omega)).trans ca0w1)
      have ca1 : w'.cell? ⟨w.heap.size + 1, 1, none⟩ = some (.int .i64 n) := ((hb.cell (p := ⟨w.heap.size + 1, 1, none⟩) (by show w.heap.size + 1 < _; omega)).trans ca1w1)
      go_simp
      exact hK _ _ ⟨_, _, _, _, _, _, _, _, _, _, _, _, _, _, _, _, _, _, _, _, _, _, u1, u2, u3, u4, rfl, rfl, m0, (fun _ => rfl), k1, k3, k4, m5, m6, m7, k8, k9, q10, q11, hb⟩
    · obtain rfl : l4 = false := (by cases h : l4; rfl; exact absurd (k4 h).1.2 (by simp [hnew]))
      subst hnew
      go_simp
      exact hK _ _ ⟨_, _, _, _, _, _, _, _, _, _, _, _, _, _, _, _, _, _, _, _, _, _, u1, u2, u3, u4, rfl, rfl, m0, m2, (fun h h' => (by obtain ⟨v1, v2, v3, ev, hv⟩ := k1 h h'; exact ⟨v1, v2, v3, ev, hv.keep fun j _ hl => (fun j hl => heap_old _ _ _ hl) j hl⟩)), (fun _ _ => ⟨_, rfl, hb.size, heap_new' _ _ _ rfl⟩), (fun h => absurd (k4 h).1.2 (by simp)), m5, m6, m7, (fun h => (by obtain ⟨Y, eY, hY, hh⟩ := k8 h; exact ⟨Y, eY, hY, ((fun j hl => heap_old _ _ _ hl) Y (slab_lt hh)).trans hh⟩)), (fun h => (by obtain ⟨Y, eY, hY, hh⟩ := k9 h; exact ⟨Y, eY, hY, ((fun j hl => heap_old _ _ _ hl) Y (slab_lt hh)).trans hh⟩)), q10, q11, (hb.alloc hb.size _)⟩
    · subst hnew
      obtain ⟨v1, v2, v3, rfl, hv⟩ := k1 hd.1 rfl
      obtain rfl := m2 hd.2.1
      obtain ⟨m, rfl, hm, hmm⟩ := k3 hd.2.2.1 rfl
      obtain rfl : l10 = false := (by cases h : l10; rfl; exact absurd (m6 (q10 h).2).1 (by simp))
      obtain rfl : l11 = false := (by cases h : l11; rfl; exact absurd (m7 (q11 h).2).1 (by simp))
      go_simp
      go_at_call 44
      refine (spaceAct_any T e kk n m 0 (.map []) v1 v2 v3 ss ps qs w' OK.out hv.1.read (OwnP.read hv.2.1) hv.2.2.1.read (mapOf_heap hmm) L1.out L2.out).mono ?_
      rintro r w'' ⟨⟨y1, y2, y3, y4, rfl, hsq⟩, hKp, _⟩
      exact hK _ _ ⟨_, _, _, _, _, _, _, _, _, _, _, _, _, _, _, _, _, _, _, _, _, _, y1, y2, y3, y4, rfl, rfl, m0, m2, (fun _ h => (by cases h)), (fun _ h => (by cases h)), (fun _ => ⟨⟨hd.1, hd.2.2.1⟩, rfl, sq_own hv hsq hKp hmm hb.size⟩), (fun h => absurd (m5 h).1 (by simp)), (fun h => absurd (m6 h).1 (by simp)), (fun h => absurd (m7 h).1 (by simp)), (fun h => (by obtain ⟨Y, eY, hY, hh⟩ := k8 h; refine ⟨Y, eY, hY, (hKp.block Y (slab_lt hh) (fun hq => ?_)).trans hh⟩; have e : Y = m := hq; subst e; rw [hmm] at hh; cases hh)), (fun h => (by obtain ⟨Y, eY, hY, hh⟩ := k9 h; refine ⟨Y, eY, hY, (hKp.block Y (slab_lt hh) (fun hq => ?_)).trans hh⟩; have e : Y = m := hq; subst e; rw [hmm] at hh; cases hh)), (fun h => absurd (m6 (q10 h).2).1 (by simp)), (fun h => absurd (m7 (q11 h).2).1 (by simp)), (hb.trans (hKp.below hb.size (fun k hk => by have e : k = m := hk; omega)))⟩
    · subst hnew
      obtain ⟨_, rfl, _⟩ := k4 hd
      go_simp
      exact hK _ _ ⟨_, _, _, _, _, _, _, _, _, _, _, _, _, _, _, _, _, _, _, _, _, _, u1, u2, u3, u4, rfl, rfl, m0, m2, k1, k3, k4, (fun _ => ⟨hd, rfl⟩), m6, m7, k8, k9, q10, q11, hb⟩
    · subst hnew
      obtain ⟨h4, rfl⟩ := m5 hd
      go_simp
      exact hK _ _ ⟨_, _, _, _, _, _, _, _, _, _, _, _, _, _, _, _, _, _, _, _, _, _, u1, u2, u3, u4, rfl, rfl, m0, m2, k1, k3, (by first | exact k4 | exact (fun h => ⟨(k4 h).1, rfl, (k4 h).2.2⟩)), m5, (fun _ => ⟨h4, rfl⟩), m7, k8, k9, (fun h => ⟨(q10 h).1, rfl⟩), q11, hb⟩
    · subst hnew
      obtain ⟨h4, rfl⟩ := m5 hd
      go_simp
      exact hK _ _ ⟨_, _, _, _, _, _, _, _, _, _, _, _, _, _, _, _, _, _, _, _, _, _, u1, u2, u3, u4, rfl, rfl, m0, m2, k1, k3, (by first | exact k4 | exact (fun h => ⟨(k4 h).1, rfl, (k4 h).2.2⟩)), m5, m6, (fun _ => ⟨h4, rfl⟩), k8, k9, q10, (fun h => ⟨(q11 h).1, rfl⟩), hb⟩
    · obtain rfl : l10 = false := (by cases h : l10; rfl; exact absurd (q10 h).1 (by simp [hnew]))
      subst hnew
      go_simp
      exact hK _ _ ⟨_, _, _, _, _, _, _, _, _, _, _, _, _, _, _, _, _, _, _, _, _, _, u1, u2, u3, u4, rfl, rfl, m0, m2, (fun h h' => (by obtain ⟨v1, v2, v3, ev, hv⟩ := k1 h h'; exact ⟨v1, v2, v3, ev, hv.keep fun j _ hl => (fun j hl => heap_old _ _ _ hl) j hl⟩)), (fun h h' => (by obtain ⟨m, em, hm, hh⟩ := k3 h h'; exact ⟨m, em, hm, ((fun j hl => heap_old _ _ _ hl) m (slab_lt hh)).trans hh⟩)), (fun h => ⟨(k4 h).1, (k4 h).2.1, (k4 h).2.2.keep fun j _ hl => (fun j hl => heap_old _ _ _ hl) j hl⟩), m5, m6, m7, (fun _ => ⟨_, rfl, hb.size, heap_new' _ _ _ rfl⟩), (fun h => (by obtain ⟨Y, eY, hY, hh⟩ := k9 h; exact ⟨Y, eY, hY, ((fun j hl => heap_old _ _ _ hl) Y (slab_lt hh)).trans hh⟩)), (fun h => (by cases h)), q11, (hb.alloc hb.size _)⟩
    · obtain rfl : l11 = false := (by cases h : l11; rfl; exact absurd (q11 h).1 (by simp [hnew]))
      subst hnew
      go_simp
      exact hK _ _ ⟨_, _, _, _, _, _, _, _, _, _, _, _, _, _, _, _, _, _, _, _, _, _, u1, u2, u3, u4, rfl, rfl, m0, m2, (fun h h' => (by obtain ⟨v1, v2, v3, ev, hv⟩ := k1 h h'; exact ⟨v1, v2, v3, ev, hv.keep fun j _ hl => (fun j hl => heap_old _ _ _ hl) j hl⟩)), (fun h h' => (by obtain ⟨m, em, hm, hh⟩ := k3 h h'; exact ⟨m, em, hm, ((fun j hl => heap_old _ _ _ hl) m (slab_lt hh)).trans hh⟩)), (fun h => ⟨(k4 h).1, (k4 h).2.1, (k4 h).2.2.keep fun j _ hl => (fun j hl => heap_old _ _ _ hl) j hl⟩), m5, m6, m7, (fun h => (by obtain ⟨Y, eY, hY, hh⟩ := k8 h; exact ⟨Y, eY, hY, ((fun j hl => heap_old _ _ _ hl) Y (slab_lt hh)).trans hh⟩)), (fun _ => ⟨_, rfl, hb.size, heap_new' _ _ _ rfl⟩), q10, (fun h => (by cases h)), (hb.alloc hb.size _)⟩
    · have h8 : l8 = true := (by simp [hd])
      have h6 : l6 = true := (by simp [hd])
      obtain ⟨h4, rfl⟩ := m6 h6
      subst hnew
      obtain ⟨Y, rfl, hYn, hY0⟩ := k8 h8
      have hU := (k4 h4).2.2
      obtain ⟨b1, n1, d1, rfl⟩ := own_shq hU.1
      obtain ⟨b2, n2, d2, rfl⟩ := own_shq hU.2.1
      obtain ⟨b3, n3, d3, rfl⟩ := own_shq hU.2.2.1
      obtain ⟨b4, n4, d4, rfl⟩ := own_shq hU.2.2.2.1
      replace hY0 : w'.heap[Y]? = some (.cells #[.int .i64 0, .int .i64 0, .slice none 0 0, .slice none 0 0, .slice none 0 0] 29 (0, 0)) := hY0
      have cy0 : w'.cell? ⟨Y, 0, none⟩ = some (.int .i64 0) := (by simp [World.cell?, hY0])
      have cy1 : w'.cell? ⟨Y, 1, none⟩ = some (.int .i64 0) := (by simp [World.cell?, hY0])
      have cy2 : w'.cell? ⟨Y, 2, none⟩ = some (.slice none 0 0) := (by simp [World.cell?, hY0])
      have cy3 : w'.cell? ⟨Y, 3, none⟩ = some (.slice none 0 0) := (by simp [World.cell?, hY0])
      have cy4 : w'.cell? ⟨Y, 4, none⟩ = some (.slice none 0 0) := (by simp [World.cell?, hY0])
      have fy : ∀ o, w'.frozen? ⟨Y, o, none⟩ = false := fun o => (by simp [World.frozen?, hY0])
      go_simp
      exact hK _ _ ⟨_, _, _, _, _, _, _, _, _, _, _, _, _, _, _, _, _, _, _, _, _, _, _, _, _, _, rfl, rfl, (by first | exact m0 | exact (fun _ => rfl) | exact (fun _ => ⟨h4, rfl⟩)), (by first | exact m2 | exact (fun _ => rfl) | exact (fun _ => ⟨h4, rfl⟩)), (fun _ h => absurd h (by simp [h4])), (fun _ h => absurd h (by simp [h4])), (fun h => ⟨(k4 h).1, (by first | exact (k4 h).2.1 | rfl), U4.keepT (k4 h).2.2 fun j hh => five_other _ _ _ _ _ _ _ (by intro hq; subst hq; rcases hh with ⟨cs, hh⟩ | ⟨cs, hh⟩ <;> (rw [hY0] at hh; cases hh))⟩), (by first | exact m5 | exact (fun _ => rfl) | exact (fun _ => ⟨h4, rfl⟩)), (by first | exact m6 | exact (fun _ => rfl) | exact (fun _ => ⟨h4, rfl⟩)), (by first | exact m7 | exact (fun _ => rfl) | exact (fun _ => ⟨h4, rfl⟩)), (fun _ => ⟨_, rfl, hYn, (five_at hY0)⟩), (fun h => (by obtain ⟨Y, eY, hY, hh⟩ := k9 h; exact ⟨Y, eY, hY, (five_other _ _ _ _ _ _ _ (by intro hq; subst hq; rw [hY0] at hh; injection hh with hh; injection hh with _ h2; exact absurd h2 (by decide))).trans hh⟩)), (fun _ => ⟨h8, h6⟩), q11, (five_below hb hYn _ _ _ _ _)⟩
    · have h8 : l9 = true := (by simp [hd])
      have h6 : l7 = true := (by simp [hd])
      obtain ⟨h4, rfl⟩ := m7 h6
      subst hnew
      obtain ⟨Y, rfl, hYn, hY0⟩ := k9 h8
      have hU := (k4 h4).2.2
      obtain ⟨b1, n1, d1, rfl⟩ := own_shq hU.1
      obtain ⟨b2, n2, d2, rfl⟩ := own_shq hU.2.1
      obtain ⟨b3, n3, d3, rfl⟩ := own_shq hU.2.2.1
      obtain ⟨b4, n4, d4, rfl⟩ := own_shq hU.2.2.2.1
      replace hY0 : w'.heap[Y]? = some (.cells #[.int .i64 0, .slice none 0 0] 37 (0, 0)) := hY0
      have cy0 : w'.cell? ⟨Y, 0, none⟩ = some (.int .i64 0) := (by simp [World.cell?, hY0])
      have cy1 : w'.cell? ⟨Y, 1, none⟩ = some (.slice none 0 0) := (by simp [World.cell?, hY0])
      have fy : ∀ o, w'.frozen? ⟨Y, o, none⟩ = false := fun o => (by simp [World.frozen?, hY0])
      go_simp
      exact hK _ _ ⟨_, _, _, _, _, _, _, _, _, _, _, _, _, _, _, _, _, _, _, _, _, _, _, _, _, _, rfl, rfl, (by first | exact m0 | exact (fun _ => rfl) | exact (fun _ => ⟨h4, rfl⟩)), (by first | exact m2 | exact (fun _ => rfl) | exact (fun _ => ⟨h4, rfl⟩)), (fun _ h => absurd h (by simp [h4])), (fun _ h => absurd h (by simp [h4])), (fun h => ⟨(k4 h).1, (by first | exact (k4 h).2.1 | rfl), U4.keepT (k4 h).2.2 fun j hh => two_other _ _ _ _ (by intro hq; subst hq; rcases hh with ⟨cs, hh⟩ | ⟨cs, hh⟩ <;> (rw [hY0] at hh; cases hh))⟩), (by first | exact m5 | exact (fun _ => rfl) | exact (fun _ => ⟨h4, rfl⟩)), (by first | exact m6 | exact (fun _ => rfl) | exact (fun _ => ⟨h4, rfl⟩)), (by first | exact m7 | exact (fun _ => rfl) | exact (fun _ => ⟨h4, rfl⟩)), (fun h => (by obtain ⟨Y, eY, hY, hh⟩ := k8 h; exact ⟨Y, eY, hY, (two_other _ _ _ _ (by intro hq; subst hq; rw [hY0] at hh; injection hh with hh; injection hh with _ h2; exact absurd h2 (by decide))).trans hh⟩)), (fun _ => ⟨_, rfl, hYn, (two_at hY0)⟩), q10, (fun _ => ⟨h8, h6⟩), (two_below hb hYn _ _)⟩
  case hend =>
    rintro lst a w' hsz ⟨l0, l1, l2, l3, l4, l5, l6, l7, l8, l9, l10, l11, x7, x8, x14, x15, x16, x17, x18, x19, x20, x21, u1, u2, u3, u4, rfl, rfl, m0, m2, k1, k3, k4, m5, m6, m7, k8, k9, q10, q11, hb⟩ hrd
    have hall := ready_done (by kernel_rfl) hsz hrd
    have e10 : l10 = true := hall 10 (by decide)
    have e11 : l11 = true := hall 11 (by decide)
    have e4 : l4 = true := hall 4 (by decide)
    have e8 : l8 = true := hall 8 (by decide)
    have e9 : l9 = true := hall 9 (by decide)
    subst e10 e11 e4
    obtain ⟨Y7, rfl, hY7, hh7⟩ := k8 e8
    obtain ⟨Y8, rfl, hY8, hh8⟩ := k9 e9
    obtain ⟨_, _, g1, g2, g3, g4, s13, s14, s34⟩ := k4 rfl
    obtain ⟨b1, n1, d1, rfl⟩ := own_shq g1
    obtain ⟨b2, n2, d2, rfl⟩ := own_shq g2
    obtain ⟨b3, n3, d3, rfl⟩ := own_shq g3
    obtain ⟨b4, n4, d4, rfl⟩ := own_shq g4
    rw [if_pos rfl] at hh7 hh8
    have cr0 : w'.cell? ⟨w.heap.size + 1 + 1, 0, none⟩ = some (.int .i64 0) := ((hb.cell (p := ⟨w.heap.size + 1 + 1, 0, none⟩) (by show w.heap.size + 1 + 1 < _; omega)).trans cr0w1)
    have cr1 : w'.cell? ⟨w.heap.size + 1 + 1, 1, none⟩ = some (.int .i64 0) := ((hb.cell (p := ⟨w.heap.size + 1 + 1, 1, none⟩) (by show w.heap.size + 1 + 1 < _; omega)).trans cr1w1)
    have cr2 : w'.cell? ⟨w.heap.size + 1 + 1, 2, none⟩ = some (.slice none 0 0) := ((hb.cell (p := ⟨w.heap.size + 1 + 1, 2, none⟩) (by show w.heap.size + 1 + 1 < _; omega)).trans cr2w1)
    have cr3 : w'.cell? ⟨w.heap.size + 1 + 1, 3, none⟩ = some (.slice none 0 0) := ((hb.cell (p := ⟨w.heap.size + 1 + 1, 3, none⟩) (by show w.heap.size + 1 + 1 < _; omega)).trans cr3w1)
    have cr4 : w'.cell? ⟨w.heap.size + 1 + 1, 4, none⟩ = some (.slice none 0 0) := ((hb.cell (p := ⟨w.heap.size + 1 + 1, 4, none⟩) (by show w.heap.size + 1 + 1 < _; omega)).trans cr4w1)
    have cq0 : w'.cell? ⟨w.heap.size + 1 + 1 + 1, 0, none⟩ = some (.int .i64 0) := ((hb.cell (p := ⟨w.heap.size + 1 + 1 + 1, 0, none⟩) (by show w.heap.size + 1 + 1 + 1 < _; omega)).trans cq0w1)
    have cq1 : w'.cell? ⟨w.heap.size + 1 + 1 + 1, 1, none⟩ = some (.slice none 0 0) := ((hb.cell (p := ⟨w.heap.size + 1 + 1 + 1, 1, none⟩) (by show w.heap.size + 1 + 1 + 1 < _; omega)).trans cq1w1)
    have fr : ∀ o, w'.frozen? ⟨w.heap.size + 1 + 1, o, none⟩ = false := fun o => (hb.frozen (p := ⟨w.heap.size + 1 + 1, o, none⟩) (by show w.heap.size + 1 + 1 < _; omega)).trans (frw1 o)
    have fq : ∀ o, w'.frozen? ⟨w.heap.size + 1 + 1 + 1, o, none⟩ = false := fun o => (hb.frozen (p := ⟨w.heap.size + 1 + 1 + 1, o, none⟩) (by show w.heap.size + 1 + 1 + 1 < _; omega)).trans (fqw1 o)
    have T1 : Hid (Box72 Y7 Y8 T (stp T e ss ps qs kk n).e (.slice b1 n1 d1) (.slice b2 n2 d2) (.slice b3 n3 d3) (stp T e ss ps qs kk n).c (.slice b4 n4 d4) w'.drew) := box72_of (keepBlk hh7 below_draw (slab_lt hh7)) (keepBlk hh8 below_draw (slab_lt hh8))
    have T0 : Hid (Box72 Y7 Y8 T (stp T e ss ps qs kk n).e (.slice b1 n1 d1) (.slice b2 n2 d2) (.slice b3 n3 d3) (stp T e ss ps qs kk n).c (.slice b4 n4 d4) w') := box72_of hh7 hh8
    have HN1 : Hid (w1.heap.size ≤ Y7 ∧ w1.heap.size ≤ Y8) := ⟨hY7, hY8⟩
    have hne1 : w.heap.size + 1 + 1 ≠ Y7 := by omega
    have hne2 : w.heap.size + 1 + 1 ≠ Y8 := by omega
    have hne3 : w.heap.size + 1 + 1 + 1 ≠ Y7 := by omega
    have hne4 : w.heap.size + 1 + 1 + 1 ≠ Y8 := by omega
    have N1 : Hid (w.heap.size + 1 + 1 + 1 < w1.heap.size) := by show _ < _; omega
    have O1 : Hid (OwnI w' w1.heap.size (.slice b1 n1 d1) (stp T e ss ps qs kk n).ss) := g1
    have O2 : Hid (OwnP w' w1.heap.size (.slice b2 n2 d2) (stp T e ss ps qs kk n).ps) := g2
    have O3 : Hid (OwnI w' w1.heap.size (.slice b3 n3 d3) (stp T e ss ps qs kk n).qs) := g3
    have O4 : Hid (OwnI w' w1.heap.size (.slice b4 n4 d4) (stp T e ss ps qs kk n).pg) := g4
    have SP : Hid (SepN 0 (.slice b1 n1 d1) (.slice b3 n3 d3) ∧ SepN 0 (.slice b1 n1 d1) (.slice b4 n4 d4) ∧ SepN 0 (.slice b3 n3 d3) (.slice b4 n4 d4)) := ⟨s13, s14, s34⟩
    have HB : Hid (Below w.heap.size w w') := HB1.out.trans (hb.mono HB1.out.size)
    clear m0 m2 k1 k3 k4 m5 m6 m7 k8 k9 q10 q11 hall hsz hrd g1 g2 g3 g4 s13 s14 s34 hb hh7 hh8 e8 e9 hY7 hY8
    generalize hRe : (stp T e ss ps qs kk n).e = Re at *
    generalize hRc : (stp T e ss ps qs kk n).c = Rc at *
    go_wp2_with fail
    go_region_held3 (Box72 Y7 Y8 T Re (.slice b1 n1 d1) (.slice b2 n2 d2) (.slice b3 n3 d3) Rc (.slice b4 n4 d4)) (with_reducible (first | exact T1.out | (repeat (first | exact T0.out | refine box72_drew ?_ | refine box72_set ?_ (by assumption) (by assumption))))) (fail)
    go_wp2
    refine bodyPost_ret (v := .tuple #[SV T Re (.slice b1 n1 d1) (.slice b2 n2 d2) (.slice b3 n3 d3), .agg #[.int .i64 Rc, .slice b4 n4 d4], .int .i64 0]) (by go_simp; simp [results, Try.results31, go_sem, cr0, cr1, cr2, cr3, cr4, cq0, cq1]) rfl ⟨.slice b1 n1 d1, .slice b2 n2 d2, .slice b3 n3 d3, .slice b4 n4 d4, by rw [hRe, hRc], ?_, ?_, ?_, ?_, fun _ => SP.out, ?_⟩
    · exact own_drew (res_own O1.out N1.out (by have := N1.out; omega) _ _ _ _ _ _ _)
    · exact own_drew (res_own O2.out N1.out (by have := N1.out; omega) _ _ _ _ _ _ _)
    · exact own_drew (res_own O3.out N1.out (by have := N1.out; omega) _ _ _ _ _ _ _)
    · exact own_drew (res_own O4.out N1.out (by have := N1.out; omega) _ _ _ _ _ _ _)
    · exact (res_below HB.out (by omega) _ _ _ _ _ _ _).drew
end Go.Proofs.Ytaklphoplfofbaa
