/- What spec's l05Compact makes: its places, its nodes in a block (stage 5). -/
import Derived.Test.YthflalpapdaidaaCpJ
namespace Go.Proofs.Ythflalpapdaidaa
open Go.RowKit

/-- The nodes ns can be read at a, each list in a block. -/
def RowZ (w : World) (a : Option Addr) (ns : List Nd) : Prop :=
  ∀ i, i < ns.length → ∃ b off, a = some ⟨b, off, none⟩ ∧ b < w.heap.size ∧ ∃ ka kc va vc ia ic, Cell4 w b (off + i * 4) (.bool (nthN ns i).1) (.slice (some ka) (nthN ns i).2.1.length kc) (.slice (some va) (nthN ns i).2.2.1.length vc) (.slice (some ia) (nthN ns i).2.2.2.length ic) ∧ NodeR w (some ka) (some va) (some ia) (nthN ns i)
theorem RowZ.row {w : World} {a : Option Addr} {ns : List Nd} (h : RowZ w a ns) : RowN w a ns := fun i hi => by
  obtain ⟨b, off, e, hl, ka, kc, va, vc, ia, ic, ⟨h0, h1, h2, h3⟩, hr⟩ := h i hi
  exact ⟨b, off, e, hl, some ka, kc, some va, vc, some ia, ic, h0, h1, h2, h3, hr⟩
theorem RowZ.below {w w' : World} {a : Option Addr} {ns : List Nd} (h : RowZ w a ns) (hb : Below w.heap.size w w') : RowZ w' a ns := fun i hi => by
  obtain ⟨b, off, e, hl, ka, kc, va, vc, ia, ic, hc, hr⟩ := h i hi
  exact ⟨b, off, e, Nat.lt_of_lt_of_le hl hb.size, ka, kc, va, vc, ia, ic, hc.below hl hb, hr.below hb⟩
theorem SlabN.rowZ {w : World} {g : Nat} {ns : List Nd} (h : SlabN w g ns.length ns ns.length) (ht : TextsN ns) (hs : ∀ i, i < ns.length → SmallN (nthN ns i)) : RowZ w (some ⟨g, 0, none⟩) ns := fun i hi => by
  have hl := h.lt
  obtain ⟨cur, hh, _, hc⟩ := h
  obtain ⟨g1, g2, g3, _, _, _, p0, p1, p2, p3, s1, s2, s3⟩ := hc i hi
  obtain ⟨t1, t2⟩ := ht i hi
  obtain ⟨m1, m2, m3⟩ := hs i hi
  refine ⟨g, 0, rfl, hl, _, _, _, _, _, _, ⟨(slab_cell hh).trans (by rw [Nat.zero_add]; exact p0), (slab_cell hh).trans (by rw [Nat.zero_add]; exact p1), (slab_cell hh).trans (by rw [Nat.zero_add]; exact p2), (slab_cell hh).trans (by rw [Nat.zero_add]; exact p3)⟩, s1.row t1, s2.row t2, s3.row, ?_, ?_, ?_⟩ <;> (unfold maxLen; omega)
theorem grown_kept {w w' : World} {v : Value} (h : w.grownBy w' v.ownBlock) {b : Nat} (hb : b < w.heap.size) (hn : v.ownBlock = some b → False) : w'.heap[b]? = w.heap[b]? := h.block b hb (fun e => hn e.symm)
theorem OwnNE.lt {w : World} {B : Nat} {v : Value} {l : List NE} (h : OwnNE w B v l) {g : Nat} (hg : v.ownBlock = some g) : B ≤ g ∧ g < w.heap.size := by
  rcases h.slab with ⟨rfl, _⟩ | ⟨g', cap, cur, rfl, h1, _, h3, _⟩
  · simp [Value.ownBlock] at hg
  · simp [Value.ownBlock] at hg
    subst hg
    exact ⟨h1, slab_lt h3⟩
theorem rowI_blk {w w' : World} {h : Nat} {ss : List Int} (H : RowI w (some ⟨h, 0, none⟩) ss) (hs : w.heap.size ≤ w'.heap.size) (e : w'.heap[h]? = w.heap[h]?) : RowI w' (some ⟨h, 0, none⟩) ss := fun i hi => by
  obtain ⟨b, off, e0, hlt, hc⟩ := H i hi
  cases e0
  exact ⟨h, 0, rfl, by omega, (World.cell?_of_block (w := w) e).trans hc⟩
/-- One number appended, and where. -/
theorem app_I6 (v : Value) (l : List Int) (x : Int) (w : World) (B : Nat) (c : Nat) (h : OwnI w B v l) (hl : l.length + 1 ≤ 2097152) (ad : Addr) (hx : w.cell? ad = some (.int .i64 x)) (hB : B ≤ w.heap.size) :
    ∃ v' w', (Builtin.append_ #[47, 47] 47 #[v, .slice (some ad) 1 c]).run Try.prog w = .ok v' w' ∧ OwnI w' B v' (l ++ [x]) ∧ w.grownBy w' v.ownBlock ∧ (v'.ownBlock = v.ownBlock ∨ v'.ownBlock = some w.heap.size) := by
  obtain ⟨i0, hi, hz0, hz1, hz2⟩ := info_parts info3
  obtain ⟨v', w', hrun, r1, r2, _, r4⟩ := run_append_own_at (P := Try.prog) (w := w) B 47 47 3 i0 (.int .i64 0) 1 8 Try.underlying47 hi hz0 hz1 hz2 rfl (by decide) v l.length (l.map (Value.int .i64)) h ad 1 c [.int .i64 x] rfl (fun j u hu => by
    match j, hu with
    | 0, hu =>
      simp at hu
      subst hu
      obtain ⟨b, o, s⟩ := ad
      have hs : s = none := by simpa using World.cell?_spot hx
      subst hs
      rw [add_plain]
      exact hx) (fun u hu => by simp at hu; subst hu; rfl) (by unfold maxLen; omega) (by omega) hB
  exact ⟨v', w', hrun, OwnI.snoc r1, r2, r4⟩
/-- A told node of which the kids lie in a block of their own. -/
def EntZ (w0 w1 : World) (y : Nat) (p v : Value) (wr : World) (e : NE) (n : Nd) : Prop := ∃ ka kc va vc h c, e = (n.1, (some ka, n.2.1.length, kc), (some va, n.2.2.1.length, vc), (some ⟨h, 0, none⟩, n.2.2.2.length, c)) ∧ RowS w0 (some ka) n.2.1 ∧ RowS w0 (some va) n.2.2.1 ∧ SmallN n ∧ RowI wr (some ⟨h, 0, none⟩) n.2.2.2 ∧ w1.heap.size ≤ h ∧ h < wr.heap.size ∧ (h = y → False) ∧ (p.ownBlock = some h → False) ∧ (v.ownBlock = some h → False)
theorem EntZ.move {w0 w1 wr wr' : World} {y : Nat} {p p' v v' : Value} {e : NE} {n : Nd} (H : EntZ w0 w1 y p v wr e n) (hs : wr.heap.size ≤ wr'.heap.size) (hb : ∀ b, b < wr.heap.size → (b = y → False) → (p.ownBlock = some b → False) → (v.ownBlock = some b → False) → wr'.heap[b]? = wr.heap[b]?)
    (hp : p'.ownBlock = p.ownBlock ∨ ∀ g, p'.ownBlock = some g → wr.heap.size ≤ g) (hv : v'.ownBlock = v.ownBlock ∨ ∀ g, v'.ownBlock = some g → wr.heap.size ≤ g) : EntZ w0 w1 y p' v' wr' e n := by
  obtain ⟨ka, kc, va, vc, h, c, e0, r1, r2, s, r3, ho, hl, n1, n2, n3⟩ := H
  refine ⟨ka, kc, va, vc, h, c, e0, r1, r2, s, rowI_blk r3 hs (hb h hl n1 n2 n3), ho, by omega, n1, fun e => ?_, fun e => ?_⟩
  · rcases hp with q | q
    · exact n2 (q ▸ e)
    · have := q h e; omega
  · rcases hv with q | q
    · exact n3 (q ▸ e)
    · have := q h e; omega
/-- Places in a list, nodes in a list behind block y. -/
structure CkI (w0 w1 : World) (y : Nat) (p v : Value) (ps : List Int) (es : List NE) (os : List Nd) (wr : World) : Prop where
  bel : Below w1.heap.size w1 wr
  yl : w1.heap.size ≤ y
  box : wr.heap[y]? = some (.cells #[v] 25 (0, 0))
  own : OwnI wr w1.heap.size p ps
  nod : OwnNE wr w1.heap.size v es
  py : p.ownBlock = some y → False
  vy : v.ownBlock = some y → False
  pv : ∀ g, p.ownBlock = some g → v.ownBlock = some g → False
  len : es.length = os.length
  kid : ∀ i, i < os.length → EntZ w0 w1 y p v wr (nthE es i) (nthN os i)
theorem CkI.below {w0 w1 wr wr' : World} {y : Nat} {p v : Value} {ps : List Int} {es : List NE} {os : List Nd} (H : CkI w0 w1 y p v ps es os wr) (hb : Below wr.heap.size wr wr') : CkI w0 w1 y p v ps es os wr' :=
  ⟨below_step H.bel (Nat.le_refl _) hb, H.yl, (hb.block y (slab_lt H.box)).trans H.box, H.own.below hb, H.nod.below hb, H.py, H.vy, H.pv, H.len, fun i hi => (H.kid i hi).move hb.size (fun b q _ _ _ => hb.block b q) (.inl rfl) (.inl rfl)⟩
theorem CkI.place {w0 w1 wr : World} {y : Nat} {p v : Value} {ps : List Int} {es : List NE} {os : List Nd} (H : CkI w0 w1 y p v ps es os wr) (x : Int) (hl : ps.length + 1 ≤ 2097152) :
    ∃ p' w', (Builtin.append_ #[47, 47] 47 #[p, .slice (some ⟨wr.heap.size, 0, none⟩) 1 1]).run Try.prog (wr.alloc (.cells #[.int .i64 x] 3)) = .ok p' w' ∧ CkI w0 w1 y p' v (ps ++ [x]) es os w' := by
  have hb : Below wr.heap.size wr (wr.alloc (.cells #[.int .i64 x] 3)) := (Below.refl _ _).alloc (Nat.le_refl _) _
  have K := H.below hb
  have hyl := slab_lt H.box
  obtain ⟨p', w', h1, h2, h3, h4⟩ := app_I6 p ps x _ w1.heap.size 1 K.own hl ⟨wr.heap.size, 0, none⟩ (slab_cell (heap_new' _ _ _ rfl)) K.bel.size
  have hs : (wr.alloc (.cells #[.int .i64 x] 3)).heap.size = wr.heap.size + 1 := by simp
  have key : ∀ b, b < (wr.alloc (.cells #[.int .i64 x] 3)).heap.size → (p.ownBlock = some b → False) → w'.heap[b]? = (wr.alloc (.cells #[.int .i64 x] 3)).heap[b]? := fun b q n => grown_kept h3 q n
  have hp : p'.ownBlock = p.ownBlock ∨ ∀ g, p'.ownBlock = some g → (wr.alloc (.cells #[.int .i64 x] 3)).heap.size ≤ g := by
    rcases h4 with q | q
    · exact .inl q
    · exact .inr fun g e => by rw [q] at e; cases e; exact Nat.le_refl _
  refine ⟨p', w', h1, own_below K.bel K.bel.size K.own h3, K.yl, (key y (by omega) H.py).trans K.box, h2, ?_, fun e => ?_, K.vy, fun g e1 e2 => ?_, K.len, fun i hi => (K.kid i hi).move h3.size (fun b q _ n _ => key b q n) hp (.inl rfl)⟩
  · obtain ⟨k1, k2⟩ := K.nod
    refine ⟨k1, ?_⟩
    rcases k2 with k | ⟨g, cap, cur, e, hg, hh, r⟩
    · exact .inl k
    · exact .inr ⟨g, cap, cur, e, hg, (key g (slab_lt hh) fun q => H.pv g q (by rw [e]; rfl)).trans hh, r⟩
  · rcases hp with q | q
    · exact H.py (q ▸ e)
    · have := q y e; omega
  · rcases hp with q | q
    · exact H.pv g (q ▸ e1) e2
    · have := q g e1
      have := (K.nod.lt e2).2
      omega
theorem nthE_left {a b : List NE} {i : Nat} (h : i < a.length) : nthE (a ++ b) i = nthE a i := by unfold nthE; rw [List.getD_eq_getElem?_getD, List.getD_eq_getElem?_getD, List.getElem?_append_left h]
theorem nthE_last {a : List NE} {n : NE} : nthE (a ++ [n]) a.length = n := by unfold nthE; rw [List.getD_eq_getElem?_getD, List.getElem?_append_right (Nat.le_refl _)]; simp
set_option maxHeartbeats 1000000 in
theorem CkI.push {w0 w1 wr : World} {y : Nat} {p v : Value} {ps : List Int} {es : List NE} {os : List Nd} (H : CkI w0 w1 y p v ps es os wr) (n : Nd) (ka va : Addr) (kc vc h c : Nat) (hl : es.length + 1 ≤ 1048576)
    (r1 : RowS w0 (some ka) n.2.1) (r2 : RowS w0 (some va) n.2.2.1) (hs : SmallN n) (r3 : RowI wr (some ⟨h, 0, none⟩) n.2.2.2) (ho : w1.heap.size ≤ h) (hh : h < wr.heap.size) (ny : h = y → False) (np : p.ownBlock = some h → False) (nv : v.ownBlock = some h → False) :
    ∃ v' es' w', (Builtin.append_ #[23, 23] 23 #[v, .slice (some ⟨wr.heap.size, 0, none⟩) 1 1]).run Try.prog (wr.alloc (.cells #[.bool n.1, .slice (some ka) n.2.1.length kc, .slice (some va) n.2.2.1.length vc, .slice (some ⟨h, 0, none⟩) n.2.2.2.length c] 93)) = .ok v' w' ∧
      w'.heap[y]? = some (.cells #[v] 25 (0, 0)) ∧ CkI w0 w1 y p v' ps es' (os ++ [n]) (w'.setCell ⟨y, 0, none⟩ v') := by
  obtain ⟨W, hW⟩ : ∃ W, wr.alloc (.cells #[.bool n.1, .slice (some ka) n.2.1.length kc, .slice (some va) n.2.2.1.length vc, .slice (some ⟨h, 0, none⟩) n.2.2.2.length c] 93) = W := ⟨_, rfl⟩
  have hb : Below wr.heap.size wr W := hW ▸ (Below.refl _ _).alloc (Nat.le_refl _) _
  have K := H.below hb
  have hyl := slab_lt H.box
  have hsz : W.heap.size = wr.heap.size + 1 := by rw [← hW]; simp
  have hW0 : W.heap[wr.heap.size]? = some (.cells #[.bool n.1, .slice (some ka) n.2.1.length kc, .slice (some va) n.2.2.1.length vc, .slice (some ⟨h, 0, none⟩) n.2.2.2.length c] 93 (0, 0)) := hW ▸ heap_new' _ _ _ rfl
  rw [hW]
  clear hW
  obtain ⟨v', w', g1, g2, g3, g4⟩ := app_NE v es [(n.1, (some ka, n.2.1.length, kc), (some va, n.2.2.1.length, vc), (some ⟨h, 0, none⟩, n.2.2.2.length, c))] W w1.heap.size ⟨wr.heap.size, 0, none⟩ 1 K.nod (by simpa using hl) (fun i hi => by
    obtain rfl : i = 0 := by simp at hi; omega
    exact ⟨wr.heap.size, 0, rfl, by omega, slab_cell hW0, slab_cell hW0, slab_cell hW0, slab_cell hW0⟩) K.bel.size
  have key : ∀ b, b < W.heap.size → (v.ownBlock = some b → False) → w'.heap[b]? = W.heap[b]? := fun b q n => grown_kept g3 q n
  have hv : v'.ownBlock = v.ownBlock ∨ ∀ g, v'.ownBlock = some g → W.heap.size ≤ g := by
    rcases g4 with q | q
    · exact .inl q
    · exact .inr fun g e => by rw [q] at e; cases e; exact Nat.le_refl _
  have hbx : w'.heap[y]? = some (.cells #[v] 25 (0, 0)) := (key y (by omega) H.vy).trans K.box
  have ssz : (w'.setCell ⟨y, 0, none⟩ v').heap.size = w'.heap.size := by simp [World.setCell]
  have key2 : ∀ b, b < W.heap.size → (b = y → False) → (v.ownBlock = some b → False) → (w'.setCell ⟨y, 0, none⟩ v').heap[b]? = W.heap[b]? := fun b q n1 n2 => (set_other _ (by show y ≠ b; exact fun e => n1 e.symm)).trans (key b q n2)
  have vy' : v'.ownBlock = some y → False := fun e => by
    rcases hv with q | q
    · exact H.vy (q ▸ e)
    · have := q y e; omega
  refine ⟨v', es ++ [(n.1, (some ka, n.2.1.length, kc), (some va, n.2.2.1.length, vc), (some ⟨h, 0, none⟩, n.2.2.2.length, c))], w', g1, hbx, ?_⟩
  refine ⟨(ne_grown K.bel K.bel.size K.nod g3).setCell (p := ⟨y, 0, none⟩) K.yl _, K.yl, slab_set hbx _, ?_, ?_, K.py, vy', fun g e1 e2 => ?_, by simp [K.len], fun i hi => ?_⟩
  · obtain ⟨k1, k2⟩ := K.own
    refine ⟨k1, ?_⟩
    rcases k2 with k | ⟨g, cap, cur, e, hg, hh, r⟩
    · exact .inl k
    · exact .inr ⟨g, cap, cur, e, hg, (key2 g (slab_lt hh) (fun q => H.py (by rw [e, ← q]; rfl)) fun q => H.pv g (by rw [e]; rfl) q).trans hh, r⟩
  · obtain ⟨k1, k2⟩ := g2
    refine ⟨k1, ?_⟩
    rcases k2 with k | ⟨g, cap, cur, e, hg, hh, r⟩
    · exact .inl k
    · exact .inr ⟨g, cap, cur, e, hg, (set_other _ (by show y ≠ g; exact fun q => vy' (by rw [e, ← q]; rfl))).trans hh, r⟩
  · rcases hv with q | q
    · exact H.pv g e1 (q ▸ e2)
    · have := q g e2
      have := (K.own.blk e1).2
      omega
  · by_cases e : i < os.length
    · rw [nthN_left e, nthE_left (by rw [K.len]; exact e)]
      exact (K.kid i e).move (by rw [ssz]; exact g3.size) (fun b q n1 _ n3 => key2 b q n1 n3) (.inl rfl) hv
    · obtain rfl : i = os.length := by simp at hi; omega
      rw [nthN_last, ← K.len, nthE_last]
      refine ⟨ka, kc, va, vc, h, c, rfl, r1, r2, hs, ?_, ho, by have := g3.size; rw [ssz]; omega, ny, np, fun q => ?_⟩
      · exact rowI_blk (rowI_blk r3 (by omega) (hb.block h hh)) (by rw [ssz]; exact g3.size) (key2 h (by omega) ny nv)
      · rcases hv with z | z
        · exact nv (z ▸ q)
        · have := z h q; omega
theorem CkI.slice {w0 w1 wr : World} {y : Nat} {p v : Value} {ps : List Int} {es : List NE} {os : List Nd} (H : CkI w0 w1 y p v ps es os wr) : ∃ a c, v = .slice a os.length c := by
  rcases H.nod.slab with ⟨rfl, h0⟩ | ⟨g, cap, cur, rfl, _⟩
  · exact ⟨none, 0, by rw [← H.len, h0]⟩
  · exact ⟨_, cap, by rw [H.len]⟩
/-- They can be read, also when something else than they has changed. -/
theorem CkI.rowZ {w0 w1 wr wr' : World} {y : Nat} {p : Value} {a : Option Addr} {n c : Nat} {ps : List Int} {es : List NE} {os : List Nd} (H : CkI w0 w1 y p (.slice a n c) ps es os wr) (hs : wr.heap.size ≤ wr'.heap.size) (hb : ∀ b, w1.heap.size ≤ b → b < wr.heap.size → wr'.heap[b]? = wr.heap[b]?) (h0 : Below w0.heap.size w0 wr') : RowZ wr' a os := fun i hi => by
  rcases H.nod.slab with ⟨e, h1⟩ | ⟨g, cap, cur, e, hg, hc, hh, hs', hel⟩
  · have := H.len; omega
  · cases e
    obtain ⟨e0, e1, e2, e3⟩ := hel i (by rw [H.len]; exact hi)
    obtain ⟨ka, kc, va, vc, h, c, e4, r1, r2, s, r3, ho, hl, n1, n2, n3⟩ := H.kid i hi
    rw [e4] at e0 e1 e2 e3
    have hh' := (hb g hg (slab_lt hh)).trans hh
    obtain ⟨s1, s2, s3⟩ := s
    rw [show i * 4 = 0 + i * 4 by omega] at e0 e1 e2 e3
    exact ⟨g, 0, rfl, slab_lt hh', ka, kc, va, vc, ⟨h, 0, none⟩, c, ⟨(slab_cell hh').trans e0, (slab_cell hh').trans e1, (slab_cell hh').trans e2, (slab_cell hh').trans e3⟩, r1.below h0, r2.below h0, rowI_blk r3 hs (hb h ho hl), by unfold maxLen; omega, by unfold maxLen; omega, by unfold maxLen; omega⟩
end Go.Proofs.Ythflalpapdaidaa
