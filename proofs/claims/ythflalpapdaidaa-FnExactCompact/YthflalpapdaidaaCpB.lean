/- Lists and nodes that own their memory (stage 5). -/
import Derived.Test.YthflalpapdaidaaRcL
import Derived.Test.YthflalpapdaidaaCpM
import Derived.Maps.AppendAt
namespace Go.Proofs.Ythflalpapdaidaa
open Go.RowKit

/-- A list of one-celled values that owns its block, within lo and hi. -/
def OwnL (ty : TypeId) (w : World) (lo hi : Nat) (v : Value) (xs : List Value) : Prop :=
  (v = .slice none 0 0 ∧ xs.length = 0) ∨ ∃ h c cur, v = .slice (some ⟨h, 0, none⟩) xs.length c ∧ xs.length ≤ c ∧ lo ≤ h ∧ h < hi ∧ w.heap[h]? = some (.cells cur ty (0, 0)) ∧ cur.size = c ∧ ∀ i, i < xs.length → cur[i]? = xs[i]?
theorem OwnL.mono {ty : TypeId} {w : World} {lo lo' hi hi' : Nat} {v : Value} {xs : List Value} (H : OwnL ty w lo hi v xs) (hl : lo' ≤ lo) (hh : hi ≤ hi') : OwnL ty w lo' hi' v xs := by
  rcases H with h | ⟨h, c, cur, e, p1, p2, p3, p4⟩
  · exact .inl h
  · exact .inr ⟨h, c, cur, e, p1, by omega, by omega, p4⟩
theorem OwnL.same {ty : TypeId} {w w' : World} {lo hi : Nat} {v : Value} {xs : List Value} (H : OwnL ty w lo hi v xs) (hb : ∀ b, lo ≤ b → b < hi → b < w.heap.size → w'.heap[b]? = w.heap[b]?) : OwnL ty w' lo hi v xs := by
  rcases H with h | ⟨h, c, cur, e, p1, p2, p3, p4, p5⟩
  · exact .inl h
  · exact .inr ⟨h, c, cur, e, p1, p2, p3, (hb h p2 p3 (slab_lt p4)).trans p4, p5⟩
theorem OwnL.shape {ty : TypeId} {w : World} {lo hi : Nat} {v : Value} {xs : List Value} (H : OwnL ty w lo hi v xs) : ∃ a c, v = .slice a xs.length c := by
  rcases H with ⟨rfl, h⟩ | ⟨h, c, cur, e, _⟩
  · exact ⟨none, 0, by rw [h]⟩
  · exact ⟨_, c, e⟩
/-- Out of what an append owns. -/
theorem OwnL.of {ty : TypeId} {w : World} {B n : Nat} {v : Value} {xs : List Value} (h : w.ownsRow B ty 1 v n xs) (hn : xs.length = n) : OwnL ty w B w.heap.size v xs := by
  subst hn
  rcases h.2 with ⟨rfl, h0⟩ | ⟨g, c, cur, rfl, hg, hh, hc, _, hs, ht⟩
  · exact .inl ⟨rfl, h0⟩
  · refine .inr ⟨g, c, cur, rfl, hc, hg, slab_lt hh, hh, by rw [hs, Nat.mul_one], fun i hi => ?_⟩
    have := congrArg (fun q => q[i]?) ht
    simp only [Nat.mul_one] at this
    rw [List.getElem?_take_of_lt hi] at this
    rw [← Array.getElem?_toList]
    exact this
/-- Texts and numbers as values. -/
abbrev vS (ss : List ByteArray) : List Value := ss.map Value.string
abbrev vI (ss : List Int) : List Value := ss.map (Value.int .i64)
theorem nthS_get {ss : List ByteArray} {k : Nat} (hk : k < ss.length) : nthS ss k = ss[k] := by
  unfold nthS; rw [List.getD_eq_getElem?_getD, List.getElem?_eq_getElem hk]; rfl
theorem OwnL.rowS {w : World} {lo hi : Nat} {v : Value} {ss : List ByteArray} (H : OwnL 9 w lo hi v (vS ss)) (ht : ∀ j, j < ss.length → (nthS ss j).size ≤ maxLen) : ∃ a c, v = .slice a ss.length c ∧ RowS w a ss := by
  rcases H with ⟨rfl, h⟩ | ⟨h, c, cur, rfl, p1, p2, p3, p4, p5, p6⟩
  · rw [List.length_map] at h
    exact ⟨none, 0, by rw [h], fun i hi => by omega⟩
  · rw [List.length_map] at p6 ⊢
    refine ⟨_, c, rfl, fun i hi => ⟨h, 0, rfl, slab_lt p4, ?_, ht i hi⟩⟩
    rw [slab_cell p4, Nat.zero_add, p6 i hi, List.getElem?_map, List.getElem?_eq_getElem hi, nthS_get hi]
    rfl
theorem OwnL.rowI {w : World} {lo hi : Nat} {v : Value} {ss : List Int} (H : OwnL 3 w lo hi v (vI ss)) : ∃ a c, v = .slice a ss.length c ∧ RowI w a ss := by
  rcases H with ⟨rfl, h⟩ | ⟨h, c, cur, rfl, p1, p2, p3, p4, p5, p6⟩
  · rw [List.length_map] at h
    exact ⟨none, 0, by rw [h], fun i hi => by omega⟩
  · rw [List.length_map] at p6 ⊢
    refine ⟨_, c, rfl, fun i hi => ⟨h, 0, rfl, slab_lt p4, ?_⟩⟩
    rw [slab_cell p4, Nat.zero_add, p6 i hi, List.getElem?_map, List.getElem?_eq_getElem hi, nthI_get hi]
    rfl

/-- A node's cells, its lists owning their blocks within lo and hi. -/
def NodD (w : World) (lo hi : Nat) (p q r s : Value) (n : Nd) : Prop := p = .bool n.1 ∧ ∃ m1 m2, lo ≤ m1 ∧ m1 ≤ m2 ∧ m2 ≤ hi ∧ OwnL 9 w lo m1 q (vS n.2.1) ∧ OwnL 9 w m1 m2 r (vS n.2.2.1) ∧ OwnL 3 w m2 hi s (vI n.2.2.2)
theorem NodD.same {w w' : World} {lo hi : Nat} {p q r s : Value} {n : Nd} (H : NodD w lo hi p q r s n) (hb : ∀ b, lo ≤ b → b < hi → b < w.heap.size → w'.heap[b]? = w.heap[b]?) : NodD w' lo hi p q r s n := by
  obtain ⟨e, m1, m2, a, b, c, h1, h2, h3⟩ := H
  exact ⟨e, m1, m2, a, b, c, h1.same fun x p q => hb x (by omega) (by omega), h2.same fun x p q => hb x (by omega) (by omega), h3.same fun x p q => hb x (by omega) (by omega)⟩
theorem NodD.mono {w : World} {lo lo' hi hi' : Nat} {p q r s : Value} {n : Nd} (H : NodD w lo hi p q r s n) (hl : lo' ≤ lo) (hh : hi ≤ hi') : NodD w lo' hi' p q r s n := by
  obtain ⟨e, m1, m2, a, b, c, h1, h2, h3⟩ := H
  exact ⟨e, m1, m2, by omega, b, by omega, h1.mono hl (Nat.le_refl _), h2, h3.mono (Nat.le_refl _) hh⟩
/-- Four cells of a block. -/
def El4 (cur : Array Value) (i : Nat) (p q r s : Value) : Prop := cur[i * 4]? = some p ∧ cur[i * 4 + 1]? = some q ∧ cur[i * 4 + 2]? = some r ∧ cur[i * 4 + 3]? = some s
theorem El4.same {cur cur' : Array Value} {i : Nat} {p q r s : Value} (h : El4 cur i p q r s) (e : ∀ o, i * 4 ≤ o → o < i * 4 + 4 → cur'[o]? = cur[o]?) : El4 cur' i p q r s := by
  obtain ⟨h0, h1, h2, h3⟩ := h
  exact ⟨(e _ (by omega) (by omega)).trans h0, (e _ (by omega) (by omega)).trans h1, (e _ (by omega) (by omega)).trans h2, (e _ (by omega) (by omega)).trans h3⟩
/-- A block of N nodes, of which the first k are those of ns, with lists of their own. -/
def SlabO (w : World) (lo g N : Nat) (ns : List Nd) (k : Nat) : Prop :=
  ∃ (cur : Array Value) (ms : Nat → Nat), w.heap[g]? = some (.cells cur 93 (0, 0)) ∧ cur.size = N * 4 ∧ lo ≤ ms 0 ∧ (∀ i, i < k → ms i ≤ ms (i + 1)) ∧ ms k ≤ w.heap.size ∧ ∀ i, i < k → ∃ p q r s, El4 cur i p q r s ∧ NodD w (ms i) (ms (i + 1)) p q r s (nthN ns i)
theorem SlabO.zero {w : World} {g N : Nat} {cur : Array Value} (ns : List Nd) (h : w.heap[g]? = some (.cells cur 93 (0, 0))) (hs : cur.size = N * 4) : SlabO w (g + 1) g N ns 0 :=
  ⟨cur, fun _ => g + 1, h, hs, Nat.le_refl _, fun i hi => by omega, slab_lt h, fun i hi => by omega⟩
theorem SlabO.lt {w : World} {lo g N k : Nat} {ns : List Nd} (h : SlabO w lo g N ns k) : g < w.heap.size := by
  obtain ⟨cur, ms, hh, _⟩ := h
  exact slab_lt hh
theorem SlabO.there {w : World} {lo g N k j : Nat} {ns : List Nd} (h : SlabO w lo g N ns k) (hj : j < N * 4) : ∃ v, w.cell? ⟨g, j, none⟩ = some v := by
  obtain ⟨cur, ms, hh, hs, _⟩ := h
  exact blk_there hh (by omega)
theorem SlabO.free {w : World} {lo g N k : Nat} {ns : List Nd} (h : SlabO w lo g N ns k) (o : Nat) : w.frozen? ⟨g, o, none⟩ = false := by
  obtain ⟨cur, ms, hh, _⟩ := h
  exact slab_free hh
theorem ms_le {ms : Nat → Nat} {k : Nat} (h : ∀ i, i < k → ms i ≤ ms (i + 1)) : ∀ i j, i ≤ j → j ≤ k → ms i ≤ ms j
  | i, 0, h1, _ => by obtain rfl : i = 0 := (by omega); exact Nat.le_refl _
  | i, j + 1, h1, h2 => by
    by_cases e : i = j + 1
    · rw [e]; exact Nat.le_refl _
    · exact Nat.le_trans (ms_le h i j (by omega) (by omega)) (h j (by omega))
theorem SlabO.below {w w' : World} {lo g N k : Nat} {ns : List Nd} (h : SlabO w lo g N ns k) (hb : Below w.heap.size w w') : SlabO w' lo g N ns k := by
  obtain ⟨cur, ms, hh, hs, q1, q2, q3, q4⟩ := h
  refine ⟨cur, ms, (hb.block g (slab_lt hh)).trans hh, hs, q1, q2, Nat.le_trans q3 hb.size, fun i hi => ?_⟩
  obtain ⟨p, q, r, s, he, hn⟩ := q4 i hi
  exact ⟨p, q, r, s, he, hn.same fun b _ _ h => hb.block b h⟩
/-- One more node stands there. -/
theorem SlabO.push {w w' : World} {lo g N k : Nat} {ns : List Nd} {p q r s : Value} (h : SlabO w lo g N ns k) (hlo : g < lo) (hsz : w.heap.size ≤ w'.heap.size) (hb : ∀ b, b ≠ g → b < w.heap.size → w'.heap[b]? = w.heap[b]?)
    (hg : ∀ cur : Array Value, w.heap[g]? = some (.cells cur 93 (0, 0)) → cur.size = N * 4 → ∃ cur' : Array Value, w'.heap[g]? = some (.cells cur' 93 (0, 0)) ∧ cur'.size = N * 4 ∧ (∀ o, o < k * 4 → cur'[o]? = cur[o]?) ∧ El4 cur' k p q r s)
    (hk : NodD w' w.heap.size w'.heap.size p q r s (nthN ns k)) : SlabO w' lo g N ns (k + 1) := by
  obtain ⟨cur, ms, hh, hs, q1, q2, q3, q4⟩ := h
  obtain ⟨cur', h1, h2, h3, h4⟩ := hg cur hh hs
  obtain ⟨mz, z1, z2⟩ : ∃ mz : Nat → Nat, (∀ i, i ≤ k → mz i = ms i) ∧ mz (k + 1) = w'.heap.size := ⟨fun i => if i ≤ k then ms i else w'.heap.size, fun i hi => if_pos hi, if_neg (by omega)⟩
  refine ⟨cur', mz, h1, h2, by rw [z1 0 (by omega)]; exact q1, fun i hi => ?_, by rw [z2]; exact Nat.le_refl _, fun i hi => ?_⟩
  · by_cases e : i = k
    · subst e
      rw [z1 i (Nat.le_refl _), z2]
      omega
    · rw [z1 i (by omega), z1 (i + 1) (by omega)]
      exact q2 i (by omega)
  · by_cases e : i = k
    · subst e
      rw [z1 i (Nat.le_refl _), z2]
      exact ⟨p, q, r, s, h4, hk.mono q3 (Nat.le_refl _)⟩
    · rw [z1 i (by omega), z1 (i + 1) (by omega)]
      obtain ⟨p', q', r', s', he', hn'⟩ := q4 i (by omega)
      have hm := ms_le q2 0 i (by omega) (by omega)
      exact ⟨p', q', r', s', he'.same fun o p1 p2 => h3 o (by omega), hn'.same fun b p1 p2 p3 => hb b (by omega) p3⟩
/-- A list of nodes that owns its memory, within lo and hi. -/
def ForD (w : World) (lo hi : Nat) (v : Value) (ns : List Nd) : Prop :=
  (v = .slice none 0 0 ∧ ns.length = 0) ∨ ∃ (g c : Nat) (cur : Array Value) (ms : Nat → Nat), v = .slice (some ⟨g, 0, none⟩) ns.length c ∧ ns.length ≤ c ∧ lo ≤ g ∧ g < hi ∧ w.heap[g]? = some (.cells cur 93 (0, 0)) ∧ cur.size = c * 4 ∧ g + 1 ≤ ms 0 ∧ (∀ i, i < ns.length → ms i ≤ ms (i + 1)) ∧ ms ns.length ≤ hi ∧
    ∀ i, i < ns.length → ∃ p q r s, El4 cur i p q r s ∧ NodD w (ms i) (ms (i + 1)) p q r s (nthN ns i)
theorem SlabO.forest {w : World} {lo g c : Nat} {ns : List Nd} (h : SlabO w (g + 1) g c ns ns.length) (hc : ns.length ≤ c) (hlo : lo ≤ g) : ForD w lo w.heap.size (.slice (some ⟨g, 0, none⟩) ns.length c) ns := by
  obtain ⟨cur, ms, hh, hs, q1, q2, q3, q4⟩ := h
  exact .inr ⟨g, c, cur, ms, rfl, hc, hlo, slab_lt hh, hh, hs, q1, q2, q3, q4⟩
theorem ForD.mono {w : World} {lo lo' hi hi' : Nat} {v : Value} {ns : List Nd} (H : ForD w lo hi v ns) (hl : lo' ≤ lo) (hh : hi ≤ hi') : ForD w lo' hi' v ns := by
  rcases H with h | ⟨g, c, cur, ms, e, a, b, d, h1, h2, h3, h4, h5, h6⟩
  · exact .inl h
  · exact .inr ⟨g, c, cur, ms, e, a, by omega, by omega, h1, h2, h3, h4, by omega, h6⟩
theorem ForD.same {w w' : World} {lo hi : Nat} {v : Value} {ns : List Nd} (H : ForD w lo hi v ns) (hb : ∀ b, lo ≤ b → b < hi → b < w.heap.size → w'.heap[b]? = w.heap[b]?) : ForD w' lo hi v ns := by
  rcases H with h | ⟨g, c, cur, ms, e, a, b, d, h1, h2, h3, h4, h5, h6⟩
  · exact .inl h
  · refine .inr ⟨g, c, cur, ms, e, a, b, d, (hb g b d (slab_lt h1)).trans h1, h2, h3, h4, h5, fun i hi => ?_⟩
    obtain ⟨p, q, r, s, he, hn⟩ := h6 i hi
    have m1 := ms_le h4 0 i (by omega) (by omega)
    have m2 := ms_le h4 (i + 1) ns.length (by omega) (Nat.le_refl _)
    exact ⟨p, q, r, s, he, hn.same fun x p q => hb x (by omega) (by omega)⟩
theorem ForD.below {w w' : World} {lo hi : Nat} {v : Value} {ns : List Nd} (H : ForD w lo hi v ns) (hb : Below w.heap.size w w') : ForD w' lo hi v ns := H.same fun b _ _ h => hb.block b h
theorem ForD.kept {S : Nat → Prop} {w w' : World} {lo hi : Nat} {v : Value} {ns : List Nd} (H : ForD w lo hi v ns) (hK : Kept S w w') (hS : ∀ b, lo ≤ b → b < hi → ¬ S b) : ForD w' lo hi v ns := H.same fun b p q r => hK.block b r (hS b p q)
/-- It can be read. -/
theorem ForD.row {w : World} {lo hi : Nat} {v : Value} {ns : List Nd} (H : ForD w lo hi v ns) (ht : TextsN ns) (hs : ∀ i, i < ns.length → SmallN (nthN ns i)) : ∃ a c, v = .slice a ns.length c ∧ RowN w a ns := by
  rcases H with ⟨rfl, h⟩ | ⟨g, c, cur, ms, e, a, b, d, h1, h2, h3, h4, h5, h6⟩
  · exact ⟨none, 0, by rw [h], fun i hi => by omega⟩
  · refine ⟨_, c, e, fun i hi => ⟨g, 0, rfl, slab_lt h1, ?_⟩⟩
    obtain ⟨p, q, r, s, ⟨e0, e1, e2, e3⟩, rfl, m1, m2, _, _, _, o1, o2, o3⟩ := h6 i hi
    obtain ⟨ka, kc, rfl, r1⟩ := o1.rowS (ht i hi).1
    obtain ⟨va, vc, rfl, r2⟩ := o2.rowS (ht i hi).2
    obtain ⟨ia, ic, rfl, r3⟩ := o3.rowI
    obtain ⟨s1, s2, s3⟩ := hs i hi
    rw [Nat.zero_add]
    exact ⟨ka, kc, va, vc, ia, ic, (slab_cell h1).trans e0, (slab_cell h1).trans e1, (slab_cell h1).trans e2, (slab_cell h1).trans e3, r1, r2, r3, by unfold maxLen; omega, by unfold maxLen; omega, by unfold maxLen; omega⟩
end Go.Proofs.Ythflalpapdaidaa
