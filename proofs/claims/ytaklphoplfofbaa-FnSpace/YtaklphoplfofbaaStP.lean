/- l04Own: the specification's copy of a space (stage 4). -/
import Derived.Test.YtaklphoplfofbaaStR
namespace Go.Proofs.Ytaklphoplfofbaa
open Go.RowKit

theorem own_shr {w : World} {B e m n : Nat} {v : Value} {xs : List Value} (h : w.ownsRow B e m v n xs) : ∃ a k c, v = .slice a k c := by
  obtain ⟨a, c, h⟩ := own_shp h
  exact ⟨a, n, c, h⟩
/-- An empty list is made, or what was appended to it is owned. -/
def ChI (w : World) (n : Nat) (b p : Bool) (xb xa : Value) (l : List Int) : Prop := (b = true → p = false → ∃ g, xb = .slice (some ⟨g, 0, none⟩) 0 0 ∧ n ≤ g ∧ w.heap[g]? = some (.cells #[] 3 (0, 0))) ∧ (p = true → b = true ∧ OwnI w n xa l)
def ChP (w : World) (n : Nat) (b p : Bool) (xb xa : Value) (l : List P2) : Prop := (b = true → p = false → ∃ g, xb = .slice (some ⟨g, 0, none⟩) 0 0 ∧ n ≤ g ∧ w.heap[g]? = some (.cells #[] 88 (0, 0))) ∧ (p = true → b = true ∧ OwnP w n xa l)
/-- The block that such a list lies in now. -/
def curB (b p : Bool) (xb xa : Value) : Option Nat := if p then xa.ownBlock else if b then xb.ownBlock else none
theorem ChI.lt {w : World} {n : Nat} {b p : Bool} {xb xa : Value} {l : List Int} (h : ChI w n b p xb xa l) {j : Nat} (hj : curB b p xb xa = some j) : n ≤ j ∧ j < w.heap.size ∧ ∃ cs, w.heap[j]? = some (.cells cs 3 (0, 0)) := by
  cases p
  · cases b
    · cases hj
    · obtain ⟨g, rfl, hn, hg⟩ := h.1 rfl rfl
      cases hj
      exact ⟨hn, slab_lt hg, _, hg⟩
  · have ho := (h.2 rfl).2
    have hj' : xa.ownBlock = some j := hj
    have h1 := own_lt ho hj'
    refine ⟨h1.1, h1.2, ?_⟩
    rcases ho.2 with ⟨rfl, _⟩ | ⟨g, cap, cur, rfl, _, hh, _⟩
    · cases hj'
    · cases hj'; exact ⟨_, hh⟩
theorem ChP.lt {w : World} {n : Nat} {b p : Bool} {xb xa : Value} {l : List P2} (h : ChP w n b p xb xa l) {j : Nat} (hj : curB b p xb xa = some j) : n ≤ j ∧ j < w.heap.size ∧ ∃ cs, w.heap[j]? = some (.cells cs 88 (0, 0)) := by
  cases p
  · cases b
    · cases hj
    · obtain ⟨g, rfl, hn, hg⟩ := h.1 rfl rfl
      cases hj
      exact ⟨hn, slab_lt hg, _, hg⟩
  · have ho := (h.2 rfl).2
    have hj' : xa.ownBlock = some j := hj
    have h1 := own_lt ho hj'
    refine ⟨h1.1, h1.2, ?_⟩
    rcases ho.2 with ⟨rfl, _⟩ | ⟨g, cap, cur, rfl, _, hh, _⟩
    · cases hj'
    · cases hj'; exact ⟨_, hh⟩
theorem own_at {w w' : World} {B e m n : Nat} {v : Value} {xs : List Value} (h : w.ownsRow B e m v n xs) (hb : ∀ j, v.ownBlock = some j → w'.heap[j]? = w.heap[j]?) : w'.ownsRow B e m v n xs := by
  refine ⟨h.1, ?_⟩
  rcases h.2 with h | ⟨g, cap, cur, rfl, e2, hh, r⟩
  · exact .inl h
  · exact .inr ⟨g, cap, cur, rfl, e2, (hb g rfl).trans hh, r⟩
theorem ChI.keep {w w' : World} {n : Nat} {b p : Bool} {xb xa : Value} {l : List Int} (h : ChI w n b p xb xa l) (hk : ∀ j, curB b p xb xa = some j → w'.heap[j]? = w.heap[j]?) : ChI w' n b p xb xa l := by
  cases p
  · cases b
    · exact ⟨fun h => (by cases h), fun h => (by cases h)⟩
    · refine ⟨fun _ _ => ?_, fun h => (by cases h)⟩
      obtain ⟨g, rfl, hn, hg⟩ := h.1 rfl rfl
      exact ⟨g, rfl, hn, (hk g rfl).trans hg⟩
  · exact ⟨fun _ h => (by cases h), fun _ => ⟨(h.2 rfl).1, own_at (h.2 rfl).2 hk⟩⟩
theorem ChP.keep {w w' : World} {n : Nat} {b p : Bool} {xb xa : Value} {l : List P2} (h : ChP w n b p xb xa l) (hk : ∀ j, curB b p xb xa = some j → w'.heap[j]? = w.heap[j]?) : ChP w' n b p xb xa l := by
  cases p
  · cases b
    · exact ⟨fun h => (by cases h), fun h => (by cases h)⟩
    · refine ⟨fun _ _ => ?_, fun h => (by cases h)⟩
      obtain ⟨g, rfl, hn, hg⟩ := h.1 rfl rfl
      exact ⟨g, rfl, hn, (hk g rfl).trans hg⟩
  · exact ⟨fun _ h => (by cases h), fun _ => ⟨(h.2 rfl).1, own_at (h.2 rfl).2 hk⟩⟩
theorem ChI.alloc {w : World} {n : Nat} {b p : Bool} {xb xa : Value} {l : List Int} (h : ChI w n b p xb xa l) (o : Obj) : ChI (w.alloc o) n b p xb xa l := h.keep fun _ hj => heap_old _ _ _ (h.lt hj).2.1
theorem ChP.alloc {w : World} {n : Nat} {b p : Bool} {xb xa : Value} {l : List P2} (h : ChP w n b p xb xa l) (o : Obj) : ChP (w.alloc o) n b p xb xa l := h.keep fun _ hj => heap_old _ _ _ (h.lt hj).2.1
theorem ChI.made {w : World} {n : Nat} {xa : Value} {l : List Int} (hn : n ≤ w.heap.size) : ChI (w.alloc (.cells #[] 3)) n true false (.slice (some ⟨w.heap.size, 0, none⟩) 0 0) xa l := ⟨fun _ _ => ⟨_, rfl, hn, heap_new' _ _ _ rfl⟩, fun h => (by cases h)⟩
theorem ChP.made {w : World} {n : Nat} {xa : Value} {l : List P2} (hn : n ≤ w.heap.size) : ChP (w.alloc (.cells #[] 88)) n true false (.slice (some ⟨w.heap.size, 0, none⟩) 0 0) xa l := ⟨fun _ _ => ⟨_, rfl, hn, heap_new' _ _ _ rfl⟩, fun h => (by cases h)⟩
theorem five_other (w : World) (r : Nat) (a b c d f : Value) {g : Nat} (h : g ≠ r) : (((((w.setCell ⟨r, 0, none⟩ a).setCell ⟨r, 1, none⟩ b).setCell ⟨r, 2, none⟩ c).setCell ⟨r, 3, none⟩ d).setCell ⟨r, 4, none⟩ f).heap[g]? = w.heap[g]? := by
  rw [Below.heap_setCell _ _ _ _ h, Below.heap_setCell _ _ _ _ h, Below.heap_setCell _ _ _ _ h, Below.heap_setCell _ _ _ _ h, Below.heap_setCell _ _ _ _ h]
theorem five_below {B : Nat} {u w : World} {r : Nat} (hb : Below B u w) (hr : B ≤ r) (a b c d f : Value) : Below B u (((((w.setCell ⟨r, 0, none⟩ a).setCell ⟨r, 1, none⟩ b).setCell ⟨r, 2, none⟩ c).setCell ⟨r, 3, none⟩ d).setCell ⟨r, 4, none⟩ f) :=
  ((((hb.setCell (p := ⟨r, 0, none⟩) hr a).setCell (p := ⟨r, 1, none⟩) hr b).setCell (p := ⟨r, 2, none⟩) hr c).setCell (p := ⟨r, 3, none⟩) hr d).setCell (p := ⟨r, 4, none⟩) hr f
theorem five_at {w : World} {r : Nat} {ty : TypeId} {v0 v1 v2 v3 v4 : Value} (h : w.heap[r]? = some (.cells #[v0, v1, v2, v3, v4] ty (0, 0))) {a b c d f : Value} : (((((w.setCell ⟨r, 0, none⟩ a).setCell ⟨r, 1, none⟩ b).setCell ⟨r, 2, none⟩ c).setCell ⟨r, 3, none⟩ d).setCell ⟨r, 4, none⟩ f).heap[r]? = some (.cells #[a, b, c, d, f] ty (0, 0)) :=
  slab_set (slab_set (slab_set (slab_set (slab_set h _) _) _) _) _
/-- What stands behind each set of the copy's operations. -/
def I46 (w : World) (t e : Int) (a1 a2 a3 : Option Addr) (x c1 z c2 y c3 : Nat) (ss : List Int) (ps : List P2) (qs : List Int) (lst : Array Bool) (a : Act) (w' : World) : Prop :=
  ∃ l0 l1 l2 l3 l4 l5 l6 l7 l8 l9 l10 l11 l12 l13 l14 l15 l16 l17 x3 x4 x5 x6 x7 x8 x9 x10 x11 x12 x13 x14 x15 x16 x17 x18 x19, lst = #[l0, l1, l2, l3, l4, l5, l6, l7, l8, l9, l10, l11, l12, l13, l14, l15, l16, l17] ∧ a = ⟨#[SV t e (.slice a1 x c1) (.slice a2 z c2) (.slice a3 y c3), .pointer (some ⟨w.heap.size, 0, none⟩), .pointer (some ⟨w.heap.size + 1, 0, none⟩), x3, x4, x5, x6, x7, x8, x9, x10, x11, x12, x13, x14, x15, x16, x17, x18, x19], []⟩ ∧ (l0 = true → x3 = .pointer (some ⟨w.heap.size, 0, none⟩)) ∧ (l1 = true → x4 = .int .i64 t) ∧ (l2 = true → x5 = .pointer (some ⟨w.heap.size, 1, none⟩)) ∧ (l3 = true → x6 = .int .i64 e) ∧ (l5 = true → x8 = .pointer (some ⟨w.heap.size, 2, none⟩)) ∧ (l6 = true → x9 = .slice a1 x c1) ∧ (l9 = true → x12 = .pointer (some ⟨w.heap.size, 3, none⟩)) ∧ (l10 = true → x13 = .slice a2 z c2) ∧ (l13 = true → x16 = .pointer (some ⟨w.heap.size, 4, none⟩)) ∧ (l14 = true → x17 = .slice a3 y c3) ∧ ChI w' (w.heap.size + 2) l4 l7 x7 x10 ss ∧ ChP w' (w.heap.size + 2) l8 l11 x11 x14 ps ∧ ChI w' (w.heap.size + 2) l12 l15 x15 x18 qs ∧ (∀ j, curB l4 l7 x7 x10 = some j → curB l12 l15 x15 x18 = some j → False) ∧ (l16 = true → (l7 = true ∧ l11 = true ∧ l15 = true) ∧ x19 = SV t e x10 x14 x18) ∧ Below w.heap.size w w' ∧ w.heap.size + 2 ≤ w'.heap.size ∧ w'.heap[w.heap.size]? = some (.cells #[.int .i64 t, .int .i64 e, .slice a1 x c1, .slice a2 z c2, .slice a3 y c3] 29 (0, 0)) ∧ w'.heap[w.heap.size + 1]? = some (.cells (if l17 then #[.int .i64 t, .int .i64 e, x10, x14, x18] else #[.int .i64 0, .int .i64 0, .slice none 0 0, .slice none 0 0, .slice none 0 0]) 29 (0, 0)) ∧ (l17 = true → l16 = true)
theorem i46_frame {w t e a1 a2 a3 x c1 z c2 y c3 ss ps qs} {lst : Array Bool} {a : Act} {w' : World} (h : I46 w t e a1 a2 a3 x c1 z c2 y c3 ss ps qs lst a w') : Below w.heap.size w w' := by
  obtain ⟨l0, l1, l2, l3, l4, l5, l6, l7, l8, l9, l10, l11, l12, l13, l14, l15, l16, l17, x3, x4, x5, x6, x7, x8, x9, x10, x11, x12, x13, x14, x15, x16, x17, x18, x19, rfl, rfl, m0, m1, m2, m3, m5, m6, m9, m10, m13, m14, k1, k2, k3, d13, q16, hb, hz, hx, hr, q17⟩ := h
  exact hb

set_option maxRecDepth 100000 in
set_option maxHeartbeats 16000000 in
theorem l04Own_any (t e : Int) (v1 v2 v3 : Value) (ss : List Int) (ps : List P2) (qs : List Int) (w : World) (h1 : ReadI w v1 ss) (h2 : ReadP w v2 ps) (h3 : ReadI w v3 qs) (l1 : ss.length ≤ 1048576) (l2 : ps.length ≤ 1048576) (l3 : qs.length ≤ 1048576) :
    Calls Try.prog 46 #[SV t e v1 v2 v3] w fun r w' => ∃ u1 u2 u3, r = .returned (SV t e u1 u2 u3) ∧ OwnI w' w.heap.size u1 ss ∧ OwnP w' w.heap.size u2 ps ∧ OwnI w' w.heap.size u3 qs ∧ SepN 0 u1 u3 ∧ Below w.heap.size w w' := by
  have HL1 : Hid (ss.length ≤ 1048576) := l1
  have HL2 : Hid (ps.length ≤ 1048576) := l2
  have HL3 : Hid (qs.length ≤ 1048576) := l3
  have HR1 : Hid (ReadI w v1 ss) := h1
  have HR2 : Hid (ReadP w v2 ps) := h2
  have HR3 : Hid (ReadI w v3 qs) := h3
  obtain ⟨a1, c1, rfl, _⟩ := h1.row
  obtain ⟨a2, c2, rfl, _⟩ := h2.row
  obtain ⟨a3, c3, rfl, _⟩ := h3.row
  clear h1 h2 h3
  obtain ⟨x, hx⟩ : ∃ x, ss.length = x := ⟨_, rfl⟩
  obtain ⟨z, hz⟩ : ∃ z, ps.length = z := ⟨_, rfl⟩
  obtain ⟨y, hy⟩ : ∃ y, qs.length = y := ⟨_, rfl⟩
  have HX : Hid (ss.length = x) := hx
  have HZ : Hid (ps.length = z) := hz
  have HY : Hid (qs.length = y) := hy
  rw [hx] at HR1 ⊢
  rw [hz] at HR2 ⊢
  rw [hy] at HR3 ⊢
  try rw [hx] at l1
  try rw [hz] at l2
  try rw [hy] at l3
  clear hx hy hz
  obtain ⟨W0, hW0⟩ : ∃ W0, ((w.alloc (SC t e (.slice a1 x c1) (.slice a2 z c2) (.slice a3 y c3) 29)).alloc (.cells #[.int .i64 0, .int .i64 0, .slice none 0 0, .slice none 0 0, .slice none 0 0] 29)) = W0 := ⟨_, rfl⟩
  have B0 : Below w.heap.size w W0 := hW0 ▸ (((Below.refl _ _).alloc (Nat.le_refl _) _).alloc (by simp) _)
  have z0 : W0.heap.size = w.heap.size + 2 := by rw [← hW0]; simp
  have xb : W0.heap[w.heap.size]? = some (.cells #[.int .i64 t, .int .i64 e, .slice a1 x c1, .slice a2 z c2, .slice a3 y c3] 29 (0, 0)) := by
    rw [← hW0]
    exact (heap_old _ _ _ (by simp)).trans (heap_new' _ _ _ rfl)
  have xr : W0.heap[w.heap.size + 1]? = some (.cells #[.int .i64 0, .int .i64 0, .slice none 0 0, .slice none 0 0, .slice none 0 0] 29 (0, 0)) := by
    rw [← hW0]
    exact heap_new' _ _ _ (by simp)
  go_enter Try.func46, Try.ntmps46
  go_wp2_with fail
  refine wp_region_inv (by kernel_rfl) (I46 w t e a1 a2 a3 x c1 z c2 y c3 ss ps qs) ?h0 ?hstep ?hend
  case h0 =>
    refine ⟨false, false, false, false, false, false, false, false, false, false, false, false, false, false, false, false, false, false, undef, undef, undef, undef, undef, undef, undef, undef, undef, undef, undef, undef, undef, undef, undef, undef, undef, rfl, rfl, ?_, ?_, ?_, ?_, ?_, ?_, ?_, ?_, ?_, ?_, ?_, ?_, ?_, ?_, ?_, ?_, ?_, ?_, ?_, ?_⟩
    all_goals first | (intro j h; cases h) | (intro h; cases h) | exact ⟨fun h => (by cases h), fun h => (by cases h)⟩ | skip
    · exact B0.trans (below_draw.mono B0.size)
    · show _ ≤ W0.heap.size; omega
    · exact xb
    · exact xr
  case hstep =>
    rintro lst a w' i hsz ⟨l0, l1, l2, l3, l4, l5, l6, l7, l8, l9, l10, l11, l12, l13, l14, l15, l16, l17, x3, x4, x5, x6, x7, x8, x9, x10, x11, x12, x13, x14, x15, x16, x17, x18, x19, rfl, rfl, m0, m1, m2, m3, m5, m6, m9, m10, m13, m14, k1, k2, k3, d13, q16, hb, hz, hx, hr, q17⟩ hi
    have hlt : i < 18 := ready_lt hi
    have hnew := ready_new hi
    rcases (show i = 0 ∨ i = 1 ∨ i = 2 ∨ i = 3 ∨ i = 4 ∨ i = 5 ∨ i = 6 ∨ i = 7 ∨ i = 8 ∨ i = 9 ∨ i = 10 ∨ i = 11 ∨ i = 12 ∨ i = 13 ∨ i = 14 ∨ i = 15 ∨ i = 16 ∨ i = 17 by omega) with rfl | rfl | rfl | rfl | rfl | rfl | rfl | rfl | rfl | rfl | rfl | rfl | rfl | rfl | rfl | rfl | rfl | rfl
    all_goals (refine wpOp_step (by rfl) (fun K hK => ?_))
    all_goals (have hd := ready_deps hi rfl)
    all_goals (simp [Region.binds] at hd hnew)
    · subst hnew
      go_simp
      exact hK _ _ ⟨_, _, _, _, _, _, _, _, _, _, _, _, _, _, _, _, _, _, _, _, _, _, _, _, _, _, _, _, _, _, _, _, _, _, _, rfl, rfl, (fun _ => rfl), m1, m2, m3, m5, m6, m9, m10, m13, m14, k1, k2, k3, d13, q16, hb, hz, hx, hr, q17⟩
    · subst hnew
      obtain rfl := m0 hd
      have cb : w'.cell? ⟨w.heap.size, 0, none⟩ = some (.int .i64 t) := (by simp [World.cell?, hx])
      go_simp
      exact hK _ _ ⟨_, _, _, _, _, _, _, _, _, _, _, _, _, _, _, _, _, _, _, _, _, _, _, _, _, _, _, _, _, _, _, _, _, _, _, rfl, rfl, m0, (fun _ => rfl), m2, m3, m5, m6, m9, m10, m13, m14, k1, k2, k3, d13, q16, hb, hz, hx, hr, q17⟩
    · subst hnew
      go_simp
      exact hK _ _ ⟨_, _, _, _, _, _, _, _, _, _, _, _, _, _, _, _, _, _, _, _, _, _, _, _, _, _, _, _, _, _, _, _, _, _, _, rfl, rfl, m0, m1, (fun _ => rfl), m3, m5, m6, m9, m10, m13, m14, k1, k2, k3, d13, q16, hb, hz, hx, hr, q17⟩
    · subst hnew
      obtain rfl := m2 hd
      have cb : w'.cell? ⟨w.heap.size, 1, none⟩ = some (.int .i64 e) := (by simp [World.cell?, hx])
      go_simp
      exact hK _ _ ⟨_, _, _, _, _, _, _, _, _, _, _, _, _, _, _, _, _, _, _, _, _, _, _, _, _, _, _, _, _, _, _, _, _, _, _, rfl, rfl, m0, m1, m2, (fun _ => rfl), m5, m6, m9, m10, m13, m14, k1, k2, k3, d13, q16, hb, hz, hx, hr, q17⟩
    · subst hnew
      obtain rfl : l7 = false := (by cases h : l7; rfl; exact absurd (k1.2 h).1 (by simp))
      go_simp
      exact hK _ _ ⟨_, _, _, _, _, _, _, _, _, _, _, _, _, _, _, _, _, _, _, _, _, _, _, _, _, _, _, _, _, _, _, _, _, _, _, rfl, rfl, m0, m1, m2, m3, m5, m6, m9, m10, m13, m14, (ChI.made hz), (k2.alloc _), (k3.alloc _), (fun j p q => by have := (k3.lt q).2.1; have e : w'.heap.size = j := (by simpa [curB, Value.ownBlock] using p); omega), (fun h => absurd (q16 h).1.1 (by simp)), (hb.alloc (by omega) _), (by simp; omega), ((heap_old _ _ _ (by omega)).trans hx), ((heap_old _ _ _ (by omega)).trans hr), q17⟩
    · subst hnew
      go_simp
      exact hK _ _ ⟨_, _, _, _, _, _, _, _, _, _, _, _, _, _, _, _, _, _, _, _, _, _, _, _, _, _, _, _, _, _, _, _, _, _, _, rfl, rfl, m0, m1, m2, m3, (fun _ => rfl), m6, m9, m10, m13, m14, k1, k2, k3, d13, q16, hb, hz, hx, hr, q17⟩
    · subst hnew
      obtain rfl := m5 hd
      have cb : w'.cell? ⟨w.heap.size, 2, none⟩ = some (.slice a1 x c1) := (by simp [World.cell?, hx])
      go_simp
      exact hK _ _ ⟨_, _, _, _, _, _, _, _, _, _, _, _, _, _, _, _, _, _, _, _, _, _, _, _, _, _, _, _, _, _, _, _, _, _, _, rfl, rfl, m0, m1, m2, m3, m5, (fun _ => rfl), m9, m10, m13, m14, k1, k2, k3, d13, q16, hb, hz, hx, hr, q17⟩
    · obtain rfl : l16 = false := (by cases h : l16; rfl; exact absurd (q16 h).1.1 (by simp [hnew]))
      obtain rfl : l17 = false := (by cases h : l17; rfl; exact absurd (q17 h) (by simp))
      obtain ⟨g, rfl, hg1, hg2⟩ := k1.1 hd.1 hnew
      obtain rfl := m6 hd.2
      obtain ⟨v', w'', hr', ho, hgr, hw⟩ := app_I _ ss w' (HR1.out.below hb) HL1.out g hg2 (w.heap.size + 2) hg1
      have hgl := slab_lt hg2
      refine step_append_run (by rfl) _ _ _ _ (by rfl) _ _ (by rfl) (by rfl) _ _ hr' ?_
      exact hK _ _ ⟨_, _, _, _, _, _, _, _, _, _, _, _, _, _, _, _, _, _, _, _, _, _, _, _, _, _, _, _, _, _, _, _, _, _, _, rfl, rfl, m0, m1, m2, m3, m5, m6, m9, m10, m13, m14, ⟨fun _ h => (by cases h), fun _ => ⟨hd.1, ho⟩⟩, (k2.keep fun j hj => hgr.block j (k2.lt hj).2.1 (by obtain ⟨cs, hcs⟩ := (k2.lt hj).2.2; intro hh; cases hh; rw [hg2] at hcs; cases hcs)), (k3.keep fun j hj => hgr.block j (k3.lt hj).2.1 (by intro hh; have e : j = g := (by simpa using hh); subst e; exact d13 j (by simp [curB, hnew, hd.1, Value.ownBlock]) hj)), (fun j p q => by have hlt := (k3.lt q).2.1; rcases hw j p with e | e; (subst e; exact d13 _ (by simp [curB, hnew, hd.1, Value.ownBlock]) q); omega), (fun h => (by cases h)), (hb.grown hgr (by omega) (fun q hq => by cases hq; omega)), (Nat.le_trans hz hgr.size), ((hgr.block _ (by omega) (by simp; omega)).trans hx), ((hgr.block _ (by omega) (by simp; omega)).trans hr), (fun h => (by cases h))⟩
    · subst hnew
      obtain rfl : l11 = false := (by cases h : l11; rfl; exact absurd (k2.2 h).1 (by simp))
      go_simp
      exact hK _ _ ⟨_, _, _, _, _, _, _, _, _, _, _, _, _, _, _, _, _, _, _, _, _, _, _, _, _, _, _, _, _, _, _, _, _, _, _, rfl, rfl, m0, m1, m2, m3, m5, m6, m9, m10, m13, m14, (k1.alloc _), (ChP.made hz), (k3.alloc _), d13, (fun h => absurd (q16 h).1.2.1 (by simp)), (hb.alloc (by omega) _), (by simp; omega), ((heap_old _ _ _ (by omega)).trans hx), ((heap_old _ _ _ (by omega)).trans hr), q17⟩
    · subst hnew
      go_simp
      exact hK _ _ ⟨_, _, _, _, _, _, _, _, _, _, _, _, _, _, _, _, _, _, _, _, _, _, _, _, _, _, _, _, _, _, _, _, _, _, _, rfl, rfl, m0, m1, m2, m3, m5, m6, (fun _ => rfl), m10, m13, m14, k1, k2, k3, d13, q16, hb, hz, hx, hr, q17⟩
    · subst hnew
      obtain rfl := m9 hd
      have cb : w'.cell? ⟨w.heap.size, 3, none⟩ = some (.slice a2 z c2) := (by simp [World.cell?, hx])
      go_simp
      exact hK _ _ ⟨_, _, _, _, _, _, _, _, _, _, _, _, _, _, _, _, _, _, _, _, _, _, _, _, _, _, _, _, _, _, _, _, _, _, _, rfl, rfl, m0, m1, m2, m3, m5, m6, m9, (fun _ => rfl), m13, m14, k1, k2, k3, d13, q16, hb, hz, hx, hr, q17⟩
    · obtain rfl : l16 = false := (by cases h : l16; rfl; exact absurd (q16 h).1.2.1 (by simp [hnew]))
      obtain rfl : l17 = false := (by cases h : l17; rfl; exact absurd (q17 h) (by simp))
      obtain ⟨g, rfl, hg1, hg2⟩ := k2.1 hd.1 hnew
      obtain rfl := m10 hd.2.1
      obtain ⟨v', w'', hr', ho, hgr, hw⟩ := app_P _ ps w' (HR2.out.below hb) HL2.out g hg2 (w.heap.size + 2) hg1
      have hgl := slab_lt hg2
      refine step_append_run (by rfl) _ _ _ _ (by rfl) _ _ (by rfl) (by rfl) _ _ hr' ?_
      exact hK _ _ ⟨_, _, _, _, _, _, _, _, _, _, _, _, _, _, _, _, _, _, _, _, _, _, _, _, _, _, _, _, _, _, _, _, _, _, _, rfl, rfl, m0, m1, m2, m3, m5, m6, m9, m10, m13, m14, (k1.keep fun j hj => hgr.block j (k1.lt hj).2.1 (by obtain ⟨cs, hcs⟩ := (k1.lt hj).2.2; intro hh; cases hh; rw [hg2] at hcs; cases hcs)), ⟨fun _ h => (by cases h), fun _ => ⟨hd.1, ho⟩⟩, (k3.keep fun j hj => hgr.block j (k3.lt hj).2.1 (by obtain ⟨cs, hcs⟩ := (k3.lt hj).2.2; intro hh; cases hh; rw [hg2] at hcs; cases hcs)), d13, (fun h => (by cases h)), (hb.grown hgr (by omega) (fun q hq => by cases hq; omega)), (Nat.le_trans hz hgr.size), ((hgr.block _ (by omega) (by simp; omega)).trans hx), ((hgr.block _ (by omega) (by simp; omega)).trans hr), (fun h => (by cases h))⟩
    · subst hnew
      obtain rfl : l15 = false := (by cases h : l15; rfl; exact absurd (k3.2 h).1 (by simp))
      go_simp
      exact hK _ _ ⟨_, _, _, _, _, _, _, _, _, _, _, _, _, _, _, _, _, _, _, _, _, _, _, _, _, _, _, _, _, _, _, _, _, _, _, rfl, rfl, m0, m1, m2, m3, m5, m6, m9, m10, m13, m14, (k1.alloc _), (k2.alloc _), (ChI.made hz), (fun j p q => by have := (k1.lt p).2.1; have e : w'.heap.size = j := (by simpa [curB, Value.ownBlock] using q); omega), (fun h => absurd (q16 h).1.2.2 (by simp)), (hb.alloc (by omega) _), (by simp; omega), ((heap_old _ _ _ (by omega)).trans hx), ((heap_old _ _ _ (by omega)).trans hr), q17⟩
    · subst hnew
      go_simp
      exact hK _ _ ⟨_, _, _, _, _, _, _, _, _, _, _, _, _, _, _, _, _, _, _, _, _, _, _, _, _, _, _, _, _, _, _, _, _, _, _, rfl, rfl, m0, m1, m2, m3, m5, m6, m9, m10, (fun _ => rfl), m14, k1, k2, k3, d13, q16, hb, hz, hx, hr, q17⟩
    · subst hnew
      obtain rfl := m13 hd
      have cb : w'.cell? ⟨w.heap.size, 4, none⟩ = some (.slice a3 y c3) := (by simp [World.cell?, hx])
      go_simp
      exact hK _ _ ⟨_, _, _, _, _, _, _, _, _, _, _, _, _, _, _, _, _, _, _, _, _, _, _, _, _, _, _, _, _, _, _, _, _, _, _, rfl, rfl, m0, m1, m2, m3, m5, m6, m9, m10, m13, (fun _ => rfl), k1, k2, k3, d13, q16, hb, hz, hx, hr, q17⟩
    · obtain rfl : l16 = false := (by cases h : l16; rfl; exact absurd (q16 h).1.2.2 (by simp [hnew]))
      obtain rfl : l17 = false := (by cases h : l17; rfl; exact absurd (q17 h) (by simp))
      obtain ⟨g, rfl, hg1, hg2⟩ := k3.1 hd.1 hnew
      obtain rfl := m14 hd.2.1
      obtain ⟨v', w'', hr', ho, hgr, hw⟩ := app_I _ qs w' (HR3.out.below hb) HL3.out g hg2 (w.heap.size + 2) hg1
      have hgl := slab_lt hg2
      refine step_append_run (by rfl) _ _ _ _ (by rfl) _ _ (by rfl) (by rfl) _ _ hr' ?_
      exact hK _ _ ⟨_, _, _, _, _, _, _, _, _, _, _, _, _, _, _, _, _, _, _, _, _, _, _, _, _, _, _, _, _, _, _, _, _, _, _, rfl, rfl, m0, m1, m2, m3, m5, m6, m9, m10, m13, m14, (k1.keep fun j hj => hgr.block j (k1.lt hj).2.1 (by intro hh; have e : j = g := (by simpa using hh); subst e; exact d13 j hj (by simp [curB, hnew, hd.1, Value.ownBlock]))), (k2.keep fun j hj => hgr.block j (k2.lt hj).2.1 (by obtain ⟨cs, hcs⟩ := (k2.lt hj).2.2; intro hh; cases hh; rw [hg2] at hcs; cases hcs)), ⟨fun _ h => (by cases h), fun _ => ⟨hd.1, ho⟩⟩, (fun j p q => by have hlt := (k1.lt p).2.1; rcases hw j q with e | e; (subst e; exact d13 _ p (by simp [curB, hnew, hd.1, Value.ownBlock])); omega), (fun h => (by cases h)), (hb.grown hgr (by omega) (fun q hq => by cases hq; omega)), (Nat.le_trans hz hgr.size), ((hgr.block _ (by omega) (by simp; omega)).trans hx), ((hgr.block _ (by omega) (by simp; omega)).trans hr), (fun h => (by cases h))⟩
    · subst hnew
      obtain rfl : l17 = false := (by cases h : l17; rfl; exact absurd (q17 h) (by simp))
      obtain rfl := m1 hd.1
      obtain rfl := m3 hd.2.1
      obtain ⟨_, _, h7, h11, h15⟩ := hd
      obtain ⟨b1, n1, d1, rfl⟩ := own_shr (k1.2 h7).2
      obtain ⟨b2, n2, d2, rfl⟩ := own_shr (k2.2 h11).2
      obtain ⟨b3, n3, d3, rfl⟩ := own_shr (k3.2 h15).2
      go_simp
      exact hK _ _ ⟨_, _, _, _, _, _, _, _, _, _, _, _, _, _, _, _, _, _, _, _, _, _, _, _, _, _, _, _, _, _, _, _, _, _, _, rfl, rfl, m0, m1, m2, m3, m5, m6, m9, m10, m13, m14, k1, k2, k3, d13, (fun _ => ⟨⟨h7, h11, h15⟩, rfl⟩), hb, hz, hx, hr, (fun h => (by cases h))⟩
    · subst hnew
      have h16 : l16 = true := (by simp [hd])
      obtain ⟨⟨h7, h11, h15⟩, rfl⟩ := q16 h16
      obtain ⟨b1, n1, d1, rfl⟩ := own_shr (k1.2 h7).2
      obtain ⟨b2, n2, d2, rfl⟩ := own_shr (k2.2 h11).2
      obtain ⟨b3, n3, d3, rfl⟩ := own_shr (k3.2 h15).2
      have hr0 : w'.heap[w.heap.size + 1]? = some (.cells #[.int .i64 0, .int .i64 0, .slice none 0 0, .slice none 0 0, .slice none 0 0] 29 (0, 0)) := hr
      have cr0 : w'.cell? ⟨w.heap.size + 1, 0, none⟩ = some (.int .i64 0) := (by simp [World.cell?, hr0])
      have cr1 : w'.cell? ⟨w.heap.size + 1, 1, none⟩ = some (.int .i64 0) := (by simp [World.cell?, hr0])
      have cr2 : w'.cell? ⟨w.heap.size + 1, 2, none⟩ = some (.slice none 0 0) := (by simp [World.cell?, hr0])
      have cr3 : w'.cell? ⟨w.heap.size + 1, 3, none⟩ = some (.slice none 0 0) := (by simp [World.cell?, hr0])
      have cr4 : w'.cell? ⟨w.heap.size + 1, 4, none⟩ = some (.slice none 0 0) := (by simp [World.cell?, hr0])
      have fr : ∀ o, w'.frozen? ⟨w.heap.size + 1, o, none⟩ = false := fun o => (by simp [World.frozen?, hr0])
      go_simp
      exact hK _ _ ⟨_, _, _, _, _, _, _, _, _, _, _, _, _, _, _, _, _, _, _, _, _, _, _, _, _, _, _, _, _, _, _, _, _, _, _, rfl, rfl, (by first | exact m0 | exact (fun _ => rfl)), (by first | exact m1 | exact (fun _ => rfl)), (by first | exact m2 | exact (fun _ => rfl)), (by first | exact m3 | exact (fun _ => rfl)), (by first | exact m5 | exact (fun _ => rfl)), (by first | exact m6 | exact (fun _ => rfl)), (by first | exact m9 | exact (fun _ => rfl)), (by first | exact m10 | exact (fun _ => rfl)), (by first | exact m13 | exact (fun _ => rfl)), (by first | exact m14 | exact (fun _ => rfl)), (k1.keep fun j hj => five_other _ _ _ _ _ _ _ (by have := (k1.lt hj).1; omega)), (k2.keep fun j hj => five_other _ _ _ _ _ _ _ (by have := (k2.lt hj).1; omega)), (k3.keep fun j hj => five_other _ _ _ _ _ _ _ (by have := (k3.lt hj).1; omega)), d13, q16, (five_below hb (by omega) _ _ _ _ _), (by simpa [World.setCell] using hz), ((five_other _ _ _ _ _ _ _ (by omega)).trans hx), (five_at hr), (fun _ => h16)⟩
  case hend =>
    rintro lst a w' hsz ⟨l0, l1, l2, l3, l4, l5, l6, l7, l8, l9, l10, l11, l12, l13, l14, l15, l16, l17, x3, x4, x5, x6, x7, x8, x9, x10, x11, x12, x13, x14, x15, x16, x17, x18, x19, rfl, rfl, m0, m1, m2, m3, m5, m6, m9, m10, m13, m14, k1, k2, k3, d13, q16, hb, hz, hx, hr, q17⟩ hrd
    have hall := ready_done (by kernel_rfl) hsz hrd
    have e17 : l17 = true := hall 17 (by decide)
    have e7 : l7 = true := hall 7 (by decide)
    have e11 : l11 = true := hall 11 (by decide)
    have e15 : l15 = true := hall 15 (by decide)
    subst e17 e7 e11 e15
    have o1 := (k1.2 rfl).2
    have o2 := (k2.2 rfl).2
    have o3 := (k3.2 rfl).2
    obtain ⟨b1, n1, d1, rfl⟩ := own_shr o1
    obtain ⟨b2, n2, d2, rfl⟩ := own_shr o2
    obtain ⟨b3, n3, d3, rfl⟩ := own_shr o3
    rw [if_pos rfl] at hr
    have cr0 : w'.cell? ⟨w.heap.size + 1, 0, none⟩ = some (.int .i64 t) := (by simp [World.cell?, hr])
    have cr1 : w'.cell? ⟨w.heap.size + 1, 1, none⟩ = some (.int .i64 e) := (by simp [World.cell?, hr])
    have cr2 : w'.cell? ⟨w.heap.size + 1, 2, none⟩ = some (.slice b1 n1 d1) := (by simp [World.cell?, hr])
    have cr3 : w'.cell? ⟨w.heap.size + 1, 3, none⟩ = some (.slice b2 n2 d2) := (by simp [World.cell?, hr])
    have cr4 : w'.cell? ⟨w.heap.size + 1, 4, none⟩ = some (.slice b3 n3 d3) := (by simp [World.cell?, hr])
    have fr : ∀ o, w'.frozen? ⟨w.heap.size + 1, o, none⟩ = false := fun o => (by simp [World.frozen?, hr])
    have SP : Hid (SepN 0 (.slice b1 n1 d1) (.slice b3 n3 d3)) := fun j _ p q => d13 j p q
    have O1 : Hid (OwnI w' w.heap.size (.slice b1 n1 d1) ss) := own_mono o1 (by omega)
    have O2 : Hid (OwnP w' w.heap.size (.slice b2 n2 d2) ps) := own_mono o2 (by omega)
    have O3 : Hid (OwnI w' w.heap.size (.slice b3 n3 d3) qs) := own_mono o3 (by omega)
    have HB : Hid (Below w.heap.size w w') := hb
    clear k1 k2 k3 d13 q16 q17 hb hx hr o1 o2 o3 m0 m1 m2 m3 m5 m6 m9 m10 m13 m14 hall hsz hrd
    go_wp2
    refine bodyPost_ret (v := SV t e (.slice b1 n1 d1) (.slice b2 n2 d2) (.slice b3 n3 d3)) (by go_simp; simp [results, Try.results46, go_sem, cr0, cr1, cr2, cr3, cr4]) rfl ⟨_, _, _, rfl, O1.out, O2.out, O3.out, SP.out, HB.out⟩
end Go.Proofs.Ytaklphoplfofbaa
