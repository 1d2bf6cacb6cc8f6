/- What spec's l05Own makes: nodes with lists of their own (stage 5). -/
import Derived.Test.YthflalpapdaidaaCpO
namespace Go.Proofs.Ythflalpapdaidaa
open Go.RowKit

/-- A list lies within lo and hi, in another block than y and v's. -/
def Apart (lo hi y : Nat) (v : Value) (a : Option Addr) : Prop := ∀ ad, a = some ad → lo ≤ ad.block ∧ ad.block < hi ∧ (ad.block = y → False) ∧ (v.ownBlock = some ad.block → False)
theorem Apart.move {lo hi hi' y : Nat} {v v' : Value} {a : Option Addr} (H : Apart lo hi y v a) (hh : hi ≤ hi') (hv : v'.ownBlock = v.ownBlock ∨ ∀ g, v'.ownBlock = some g → hi ≤ g) : Apart lo hi' y v' a := fun ad e => by
  obtain ⟨h1, h2, h3, h4⟩ := H ad e
  refine ⟨h1, by omega, h3, fun q => ?_⟩
  rcases hv with z | z
  · exact h4 (z ▸ q)
  · have := z _ q; omega
theorem rowS_same {w w' : World} {a : Option Addr} {ss : List ByteArray} (H : RowS w a ss) (hs : w.heap.size ≤ w'.heap.size) (e : ∀ ad, a = some ad → w'.heap[ad.block]? = w.heap[ad.block]?) : RowS w' a ss := fun i hi => by
  obtain ⟨b, off, e0, hlt, hc, r⟩ := H i hi
  exact ⟨b, off, e0, by omega, (World.cell?_of_block (w := w) (show w'.heap[b]? = w.heap[b]? from e _ e0)).trans hc, r⟩
theorem rowI_same {w w' : World} {a : Option Addr} {ss : List Int} (H : RowI w a ss) (hs : w.heap.size ≤ w'.heap.size) (e : ∀ ad, a = some ad → w'.heap[ad.block]? = w.heap[ad.block]?) : RowI w' a ss := fun i hi => by
  obtain ⟨b, off, e0, hlt, hc⟩ := H i hi
  exact ⟨b, off, e0, by omega, (World.cell?_of_block (w := w) (show w'.heap[b]? = w.heap[b]? from e _ e0)).trans hc⟩
theorem OwnL.blk {ty : TypeId} {w : World} {lo hi n c : Nat} {a : Option Addr} {xs : List Value} (H : OwnL ty w lo hi (.slice a n c) xs) : ∀ ad, a = some ad → lo ≤ ad.block ∧ ad.block < hi := fun ad e => by
  rcases H with ⟨h, _⟩ | ⟨h, c', cur, h0, _, p2, p3, _⟩
  · cases h; cases e
  · cases h0; cases e; exact ⟨p2, p3⟩
/-- A told node with lists of its own. -/
def EntJ (w1 : World) (y : Nat) (v : Value) (wr : World) (e : NE) (n : Nd) : Prop := ∃ a1 c1 a2 c2 a3 c3, e = (n.1, (a1, n.2.1.length, c1), (a2, n.2.2.1.length, c2), (a3, n.2.2.2.length, c3)) ∧ SmallN n ∧ RowS wr a1 n.2.1 ∧ RowS wr a2 n.2.2.1 ∧ RowI wr a3 n.2.2.2 ∧ Apart w1.heap.size wr.heap.size y v a1 ∧ Apart w1.heap.size wr.heap.size y v a2 ∧ Apart w1.heap.size wr.heap.size y v a3
theorem EntJ.move {w1 wr wr' : World} {y : Nat} {v v' : Value} {e : NE} {n : Nd} (H : EntJ w1 y v wr e n) (hs : wr.heap.size ≤ wr'.heap.size) (hb : ∀ b, b < wr.heap.size → (b = y → False) → (v.ownBlock = some b → False) → wr'.heap[b]? = wr.heap[b]?)
    (hv : v'.ownBlock = v.ownBlock ∨ ∀ g, v'.ownBlock = some g → wr.heap.size ≤ g) : EntJ w1 y v' wr' e n := by
  obtain ⟨a1, c1, a2, c2, a3, c3, e0, s, r1, r2, r3, p1, p2, p3⟩ := H
  exact ⟨a1, c1, a2, c2, a3, c3, e0, s, rowS_same r1 hs fun ad e => hb _ (p1 ad e).2.1 (p1 ad e).2.2.1 (p1 ad e).2.2.2, rowS_same r2 hs fun ad e => hb _ (p2 ad e).2.1 (p2 ad e).2.2.1 (p2 ad e).2.2.2, rowI_same r3 hs fun ad e => hb _ (p3 ad e).2.1 (p3 ad e).2.2.1 (p3 ad e).2.2.2, p1.move hs hv, p2.move hs hv, p3.move hs hv⟩
structure OwJ (w1 : World) (y : Nat) (v : Value) (es : List NE) (os : List Nd) (wr : World) : Prop where
  bel : Below w1.heap.size w1 wr
  yl : w1.heap.size ≤ y
  box : wr.heap[y]? = some (.cells #[v] 25 (0, 0))
  nod : OwnNE wr w1.heap.size v es
  vy : v.ownBlock = some y → False
  len : es.length = os.length
  kid : ∀ i, i < os.length → EntJ w1 y v wr (nthE es i) (nthN os i)
theorem OwJ.below {w1 wr wr' : World} {y : Nat} {v : Value} {es : List NE} {os : List Nd} (H : OwJ w1 y v es os wr) (hb : Below wr.heap.size wr wr') : OwJ w1 y v es os wr' :=
  ⟨below_step H.bel (Nat.le_refl _) hb, H.yl, (hb.block y (slab_lt H.box)).trans H.box, H.nod.below hb, H.vy, H.len, fun i hi => (H.kid i hi).move hb.size (fun b q _ _ => hb.block b q) (.inl rfl)⟩
theorem OwJ.new {w1 : World} : OwJ w1 (w1.heap.size + 1) (.slice (some ⟨w1.heap.size, 0, none⟩) 0 0) [] [] ((w1.alloc (.cells #[] 93)).alloc (.cells #[.slice (some ⟨w1.heap.size, 0, none⟩) 0 0] 25)) := by
  refine ⟨((Below.refl _ _).alloc (Nat.le_refl _) _).alloc (by simp) _, Nat.le_succ _, heap_new' _ _ _ (by simp), ⟨rfl, .inr ⟨w1.heap.size, 0, #[], rfl, Nat.le_refl _, (heap_old _ _ _ (by simp)).trans (heap_new' _ _ _ rfl), by simp, by simp, by simp, by simp [cellsN]⟩⟩, fun e => by simp [Value.ownBlock] at e, rfl, fun i hi => by simp at hi⟩
theorem OwJ.slice {w1 wr : World} {y : Nat} {v : Value} {es : List NE} {os : List Nd} (H : OwJ w1 y v es os wr) : ∃ a c, v = .slice a os.length c := by
  rcases H.nod.slab with ⟨rfl, h0⟩ | ⟨g, cap, cur, rfl, _⟩
  · exact ⟨none, 0, by rw [← H.len, h0]⟩
  · exact ⟨_, cap, by rw [H.len]⟩
theorem OwJ.rowN {w1 wr wr' : World} {y : Nat} {a : Option Addr} {n c : Nat} {es : List NE} {os : List Nd} (H : OwJ w1 y (.slice a n c) es os wr) (hs : wr.heap.size ≤ wr'.heap.size) (hb : ∀ b, w1.heap.size ≤ b → b < wr.heap.size → wr'.heap[b]? = wr.heap[b]?) : RowN wr' a os := fun i hi => by
  rcases H.nod.slab with ⟨e, h1⟩ | ⟨g, cap, cur, e, hg, hc, hh, hs', hel⟩
  · have := H.len; omega
  · cases e
    obtain ⟨e0, e1, e2, e3⟩ := hel i (by rw [H.len]; exact hi)
    obtain ⟨a1, c1, a2, c2, a3, c3, e4, ⟨s1, s2, s3⟩, r1, r2, r3, p1, p2, p3⟩ := H.kid i hi
    rw [e4] at e0 e1 e2 e3
    have hh' := (hb g hg (slab_lt hh)).trans hh
    rw [show i * 4 = 0 + i * 4 by omega] at e0 e1 e2 e3
    exact ⟨g, 0, rfl, slab_lt hh', a1, c1, a2, c2, a3, c3, (slab_cell hh').trans e0, (slab_cell hh').trans e1, (slab_cell hh').trans e2, (slab_cell hh').trans e3, rowS_same r1 hs fun ad e => hb _ (p1 ad e).1 (p1 ad e).2.1, rowS_same r2 hs fun ad e => hb _ (p2 ad e).1 (p2 ad e).2.1, rowI_same r3 hs fun ad e => hb _ (p3 ad e).1 (p3 ad e).2.1, by unfold maxLen; omega, by unfold maxLen; omega, by unfold maxLen; omega⟩
set_option maxHeartbeats 1000000 in
theorem OwJ.push {w1 wr : World} {y : Nat} {v : Value} {es : List NE} {os : List Nd} (H : OwJ w1 y v es os wr) (n : Nd) (a1 a2 a3 : Option Addr) (c1 c2 c3 : Nat) (hl : es.length + 1 ≤ 1048576) (hs : SmallN n)
    (r1 : RowS wr a1 n.2.1) (r2 : RowS wr a2 n.2.2.1) (r3 : RowI wr a3 n.2.2.2) (p1 : Apart w1.heap.size wr.heap.size y v a1) (p2 : Apart w1.heap.size wr.heap.size y v a2) (p3 : Apart w1.heap.size wr.heap.size y v a3) :
    ∃ v' es' w', (Builtin.append_ #[23, 23] 23 #[v, .slice (some ⟨wr.heap.size, 0, none⟩) 1 1]).run Try.prog (wr.alloc (.cells #[.bool n.1, .slice a1 n.2.1.length c1, .slice a2 n.2.2.1.length c2, .slice a3 n.2.2.2.length c3] 93)) = .ok v' w' ∧
      w'.heap[y]? = some (.cells #[v] 25 (0, 0)) ∧ OwJ w1 y v' es' (os ++ [n]) (w'.setCell ⟨y, 0, none⟩ v') := by
  obtain ⟨W, hW⟩ : ∃ W, wr.alloc (.cells #[.bool n.1, .slice a1 n.2.1.length c1, .slice a2 n.2.2.1.length c2, .slice a3 n.2.2.2.length c3] 93) = W := ⟨_, rfl⟩
  have hb : Below wr.heap.size wr W := hW ▸ (Below.refl _ _).alloc (Nat.le_refl _) _
  have K := H.below hb
  have hyl := slab_lt H.box
  have hsz : W.heap.size = wr.heap.size + 1 := by rw [← hW]; simp
  have hW0 : W.heap[wr.heap.size]? = some (.cells #[.bool n.1, .slice a1 n.2.1.length c1, .slice a2 n.2.2.1.length c2, .slice a3 n.2.2.2.length c3] 93 (0, 0)) := hW ▸ heap_new' _ _ _ rfl
  rw [hW]
  clear hW
  obtain ⟨v', w', g1, g2, g3, g4⟩ := app_NE v es [(n.1, (a1, n.2.1.length, c1), (a2, n.2.2.1.length, c2), (a3, n.2.2.2.length, c3))] W w1.heap.size ⟨wr.heap.size, 0, none⟩ 1 K.nod (by simpa using hl) (fun i hi => by
    obtain rfl : i = 0 := by simp at hi; omega
    exact ⟨wr.heap.size, 0, rfl, by omega, slab_cell hW0, slab_cell hW0, slab_cell hW0, slab_cell hW0⟩) K.bel.size
  have key : ∀ b, b < W.heap.size → (v.ownBlock = some b → False) → w'.heap[b]? = W.heap[b]? := fun b q n => grown_kept g3 q n
  have hv : v'.ownBlock = v.ownBlock ∨ ∀ g, v'.ownBlock = some g → W.heap.size ≤ g := by
    rcases g4 with q | q
    · exact .inl q
    · exact .inr fun g e => by rw [q] at e; cases e; exact Nat.le_refl _
  have hbx : w'.heap[y]? = some (.cells #[v] 25 (0, 0)) := (key y (by omega) H.vy).trans K.box
  have ssz : (w'.setCell ⟨y, 0, none⟩ v').heap.size = w'.heap.size := by simp [World.setCell]
  have key2 : ∀ b, b < W.heap.size → (b = y → False) → (v.ownBlock = some b → False) → (w'.setCell ⟨y, 0, none⟩ v').heap[b]? = W.heap[b]? := fun b q n1 n2 => (set_other _ (by show y ≠ b; exact fun e => n1 e.symm)).trans (key b q n2)
  have vy' : v'.ownBlock = some y → False := fun e => by
    rcases hv with q | q
    · exact H.vy (q ▸ e)
    · have := q y e; omega
  refine ⟨v', es ++ [(n.1, (a1, n.2.1.length, c1), (a2, n.2.2.1.length, c2), (a3, n.2.2.2.length, c3))], w', g1, hbx, ?_⟩
  refine ⟨(ne_grown K.bel K.bel.size K.nod g3).setCell (p := ⟨y, 0, none⟩) K.yl _, K.yl, slab_set hbx _, ?_, vy', by simp [K.len], fun i hi => ?_⟩
  · obtain ⟨k1, k2⟩ := g2
    refine ⟨k1, ?_⟩
    rcases k2 with k | ⟨g, cap, cur, e, hg, hh, r⟩
    · exact .inl k
    · exact .inr ⟨g, cap, cur, e, hg, (set_other _ (by show y ≠ g; exact fun q => vy' (by rw [e, ← q]; rfl))).trans hh, r⟩
  · by_cases e : i < os.length
    · rw [nthN_left e, nthE_left (by rw [K.len]; exact e)]
      exact (K.kid i e).move (by rw [ssz]; exact g3.size) (fun b q n1 n3 => key2 b q n1 n3) hv
    · obtain rfl : i = os.length := by simp at hi; omega
      rw [nthN_last, ← K.len, nthE_last]
      have q : EntJ w1 y v wr (n.1, (a1, n.2.1.length, c1), (a2, n.2.2.1.length, c2), (a3, n.2.2.2.length, c3)) n := ⟨a1, c1, a2, c2, a3, c3, rfl, hs, r1, r2, r3, p1, p2, p3⟩
      exact (q.move (v' := v) hb.size (fun b z _ _ => hb.block b z) (.inl rfl)).move (by rw [ssz]; exact g3.size) (fun b q n1 n3 => key2 b q n1 n3) hv
theorem nth_take_succ {ns : List Nd} {q : Nat} (h : q < ns.length) : ns.take (q + 1) = ns.take q ++ [nthN ns q] := by
  rw [List.take_add_one, List.getElem?_eq_getElem h]
  unfold nthN
  rw [List.getD_eq_getElem?_getD, List.getElem?_eq_getElem h]
  rfl
end Go.Proofs.Ythflalpapdaidaa
