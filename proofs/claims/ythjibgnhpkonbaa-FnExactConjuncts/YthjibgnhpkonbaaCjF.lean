/- Lists of trees that a callee made, their trees as they stood (stage 14). -/
import Derived.Test.YthjibgnhpkonbaaCjB
import Derived.Lib.AppendZeros
import Derived.Laws.Cover3
namespace Go.Proofs.Ythjibgnhpkonbaa
open Go.RowKit

/-- A tree's node and where its kids lie. -/
abbrev E := ND × (Option Addr × Nat × Nat)
abbrev sv (e : E) : Value := .slice e.2.1 e.2.2.1 e.2.2.2
def nthE (es : List E) (i : Nat) : E := es.getD i (⟨0, 0, ⟨#[]⟩, ⟨#[]⟩, 0, 0, ⟨#[]⟩⟩, none, 0, 0)
theorem nthE_left {es ts : List E} {i : Nat} (h : i < es.length) : nthE (es ++ ts) i = nthE es i := by unfold nthE; rw [List.getD_eq_getElem?_getD, List.getD_eq_getElem?_getD, List.getElem?_append_left h]
theorem nthE_right {es ts : List E} {i : Nat} : nthE (es ++ ts) (es.length + i) = nthE ts i := by
  unfold nthE
  rw [List.getD_eq_getElem?_getD, List.getD_eq_getElem?_getD, List.getElem?_append_right (by omega)]
  congr 2
  omega
/-- The cells of some trees. -/
def cellsE : List E → List Value
  | [] => []
  | e :: es => .int .i64 e.1.k :: .int .i64 e.1.n :: .string e.1.nm :: .string e.1.of :: .int .i64 e.1.vk :: .int .i64 e.1.vn :: .string e.1.vt :: sv e :: cellsE es
theorem cellsE_len : ∀ l : List E, (cellsE l).length = l.length * 8
  | [] => rfl
  | v :: vs => by simp only [cellsE, List.length_cons, cellsE_len vs]; omega
theorem cellsE_append : ∀ l r : List E, cellsE (l ++ r) = cellsE l ++ cellsE r
  | [], _ => rfl
  | v :: vs, r => by simp only [cellsE, List.cons_append, cellsE_append vs r]
theorem cellsE_one : ∀ (l : List E), ∀ u ∈ cellsE l, u.oneCell' = true
  | [], u, h => by simp [cellsE] at h
  | v :: vs, u, h => by
    simp only [cellsE, List.mem_cons] at h
    rcases h with rfl | rfl | rfl | rfl | rfl | rfl | rfl | rfl | h
    all_goals first | rfl | exact cellsE_one vs u h
/-- Its cells stand in a list of cells. -/
def ElL (cs : List Value) (i : Nat) (e : E) : Prop := cs[i * 8]? = some (.int .i64 e.1.k) ∧ cs[i * 8 + 1]? = some (.int .i64 e.1.n) ∧ cs[i * 8 + 2]? = some (.string e.1.nm) ∧ cs[i * 8 + 3]? = some (.string e.1.of) ∧ cs[i * 8 + 4]? = some (.int .i64 e.1.vk) ∧ cs[i * 8 + 5]? = some (.int .i64 e.1.vn) ∧ cs[i * 8 + 6]? = some (.string e.1.vt) ∧ cs[i * 8 + 7]? = some (sv e)
theorem cellsE_get : ∀ (l : List E) (i : Nat), i < l.length → ElL (cellsE l) i (nthE l i)
  | [], i, h => by simp at h
  | v :: vs, 0, _ => ⟨rfl, rfl, rfl, rfl, rfl, rfl, rfl, rfl⟩
  | v :: vs, i + 1, h => by
    have ih := cellsE_get vs i (by simpa using h)
    have e : ∀ r, (cellsE (v :: vs))[(i + 1) * 8 + r]? = (cellsE vs)[i * 8 + r]? := fun r => by
      rw [show (i + 1) * 8 + r = i * 8 + r + 1 + 1 + 1 + 1 + 1 + 1 + 1 + 1 by omega]
      simp only [cellsE, List.getElem?_cons_succ]
    obtain ⟨h0, h1, h2, h3, h4, h5, h6, h7⟩ := ih
    exact ⟨(e 0).trans h0, (e 1).trans h1, (e 2).trans h2, (e 3).trans h3, (e 4).trans h4, (e 5).trans h5, (e 6).trans h6, (e 7).trans h7⟩
/-- A list of trees that can be read, their kids aside. -/
def RowE (w : World) (a : Option Addr) (es : List E) : Prop := ∀ i, i < es.length → ∃ b off, a = some ⟨b, off, none⟩ ∧ b < w.heap.size ∧ CellT w b (off + i * 8) (nthE es i).1 (sv (nthE es i))
theorem RowE.below {w w' : World} {a : Option Addr} {es : List E} (h : RowE w a es) (hb : Below w.heap.size w w') : RowE w' a es := fun i hi => by
  obtain ⟨b, off, e, h1, h2⟩ := h i hi
  exact ⟨b, off, e, Nat.lt_of_lt_of_le h1 hb.size, h2.same (hb.block b h1)⟩
theorem rowE_cells {w : World} {b off : Nat} {us : List E} (h : RowE w (some ⟨b, off, none⟩) us) (j : Nat) (u : Value) (hj : (cellsE us)[j]? = some u) : w.cell? ((⟨b, off, none⟩ : Addr).add j) = some u := by
  have hl : j < us.length * 8 := by
    rw [← cellsE_len us]
    exact (List.getElem?_eq_some_iff.1 hj).1
  obtain ⟨i, r, hr, rfl⟩ : ∃ i r, r < 8 ∧ j = i * 8 + r := ⟨j / 8, j % 8, Nat.mod_lt _ (by omega), by omega⟩
  have hi : i < us.length := by omega
  obtain ⟨b', off', e, _, c0, c1, c2, c3, c4, c5, c6, c7⟩ := h i hi
  cases e
  obtain ⟨g0, g1, g2, g3, g4, g5, g6, g7⟩ := cellsE_get us i hi
  rw [add_plain, ← Nat.add_assoc]
  have key : ∀ {x : Value} {n : Nat}, (cellsE us)[i * 8 + n]? = some x → (cellsE us)[i * 8 + n]? = some u → x = u := fun p q => by rw [p] at q; cases q; rfl
  match r, hr with
  | 0, _ => rw [← key g0 hj]; exact c0
  | 1, _ => rw [← key g1 hj]; exact c1
  | 2, _ => rw [← key g2 hj]; exact c2
  | 3, _ => rw [← key g3 hj]; exact c3
  | 4, _ => rw [← key g4 hj]; exact c4
  | 5, _ => rw [← key g5 hj]; exact c5
  | 6, _ => rw [← key g6 hj]; exact c6
  | 7, _ => rw [← key g7 hj]; exact c7
/-- A list of trees of the call's own. -/
abbrev OwnTr (w : World) (B : Nat) (v : Value) (l : List E) : Prop := w.ownsRow B 33 8 v l.length (cellsE l)
theorem OwnTr.nil (w : World) (B : Nat) : OwnTr w B (.slice none 0 0) [] := ⟨rfl, .inl ⟨rfl, rfl⟩⟩
theorem OwnTr.below {w w' : World} {B : Nat} {v : Value} {l : List E} (h : OwnTr w B v l) (hb : Below w.heap.size w w') : OwnTr w' B v l := by
  obtain ⟨h1, h2⟩ := h
  refine ⟨h1, ?_⟩
  rcases h2 with h | ⟨g, cap, cur, e, hg, hh, r⟩
  · exact .inl h
  · exact .inr ⟨g, cap, cur, e, hg, (hb.block g (slab_lt hh)).trans hh, r⟩
theorem OwnTr.mono {w : World} {B B' : Nat} {v : Value} {l : List E} (h : OwnTr w B v l) (hB : B' ≤ B) : OwnTr w B' v l := by
  obtain ⟨h1, h2⟩ := h
  refine ⟨h1, ?_⟩
  rcases h2 with h | ⟨g, cap, cur, e, hg, r⟩
  · exact .inl h
  · exact .inr ⟨g, cap, cur, e, Nat.le_trans hB hg, r⟩
theorem OwnTr.empty {w : World} {B : Nat} (hB : B ≤ w.heap.size) : OwnTr (w.alloc (.cells #[] 33)) B (.slice (some ⟨w.heap.size, 0, none⟩) 0 0) [] :=
  ⟨rfl, .inr ⟨w.heap.size, 0, #[], rfl, hB, heap_alloc_new w _, by simp, by simp, by simp, by simp [cellsE]⟩⟩
theorem OwnTr.one {w : World} {B : Nat} (e : E) (hB : B ≤ w.heap.size) : OwnTr (w.alloc (.cells #[.int .i64 e.1.k, .int .i64 e.1.n, .string e.1.nm, .string e.1.of, .int .i64 e.1.vk, .int .i64 e.1.vn, .string e.1.vt, sv e] 33)) B (.slice (some ⟨w.heap.size, 0, none⟩) 1 1) [e] :=
  ⟨rfl, .inr ⟨w.heap.size, 1, _, rfl, hB, heap_alloc_new w _, Nat.le_refl _, by first | decide | simp [maxLen], rfl, by first | rfl | simp [cellsE]⟩⟩
theorem own_grown {B : Nat} {w u u' : World} {v : Value} {l : List E} (h : Below B w u) (hB : B ≤ u.heap.size) (ho : OwnTr u B v l) (hg : u.grownBy u' v.ownBlock) : Below B w u' :=
  h.grown hg hB fun k e => by
    obtain ⟨_, h2⟩ := ho
    rcases h2 with ⟨rfl, _⟩ | ⟨g, cap, cur, rfl, hg', _⟩
    · simp [Value.ownBlock] at e
    · simp [Value.ownBlock] at e
      omega
/-- Where it lies. -/
theorem OwnTr.slab {w : World} {B : Nat} {u : Value} {l : List E} (h : OwnTr w B u l) : (u = .slice none 0 0 ∧ l.length = 0) ∨ ∃ g cap cur, u = .slice (some ⟨g, 0, none⟩) l.length cap ∧ B ≤ g ∧ l.length ≤ cap ∧ w.heap[g]? = some (.cells cur 33 (0, 0)) ∧ cur.size = cap * 8 ∧ ∀ i, i < l.length → ElC cur i (nthE l i).1 (sv (nthE l i)) := by
  obtain ⟨_, h2⟩ := h
  rcases h2 with ⟨rfl, h0⟩ | ⟨g, cap, cur, rfl, hg, hh, hc, _, hs, ht⟩
  · exact .inl ⟨rfl, h0⟩
  · refine .inr ⟨g, cap, cur, rfl, hg, hc, hh, hs, fun i hi => ?_⟩
    have key : ∀ j u, (cellsE l)[j]? = some u → cur[j]? = some u := fun j u hj => by
      rw [← ht, List.getElem?_take] at hj
      split at hj
      · rw [← Array.getElem?_toList]; exact hj
      · cases hj
    obtain ⟨g0, g1, g2, g3, g4, g5, g6, g7⟩ := cellsE_get l i hi
    exact ⟨key _ _ g0, key _ _ g1, key _ _ g2, key _ _ g3, key _ _ g4, key _ _ g5, key _ _ g6, key _ _ g7⟩
theorem OwnTr.row {w : World} {B : Nat} {v : Value} {l : List E} (h : OwnTr w B v l) : ∃ a cap, v = .slice a l.length cap ∧ l.length ≤ cap ∧ RowE w a l ∧ (0 < l.length → ∃ g, a = some ⟨g, 0, none⟩ ∧ B ≤ g ∧ g < w.heap.size) := by
  rcases h.slab with ⟨rfl, h0⟩ | ⟨g, cap, cur, rfl, h1, h2, h3, h4, h5⟩
  · exact ⟨none, 0, by rw [h0], by omega, fun i hi => by omega, fun h => by omega⟩
  · exact ⟨_, cap, rfl, h2, fun i hi => ⟨g, 0, rfl, slab_lt h3, by rw [Nat.zero_add]; exact (h5 i hi).cell h3⟩, fun _ => ⟨g, rfl, h1, slab_lt h3⟩⟩
set_option maxRecDepth 100000 in
/-- Trees appended to a list of the call's own. -/
theorem app_Tr (v : Value) (l us : List E) (w : World) (B b off c : Nat) (h : OwnTr w B v l) (hl : l.length + us.length ≤ 2097160) (hx : RowE w (some ⟨b, off, none⟩) us) (hB : B ≤ w.heap.size) :
    ∃ v' w', (Builtin.append_ #[31, 31] 31 #[v, .slice (some ⟨b, off, none⟩) us.length c]).run Try.prog w = .ok v' w' ∧ OwnTr w' B v' (l ++ us) ∧ w.grownBy w' v.ownBlock := by
  obtain ⟨i0, hi, hz0, hz1, hz2⟩ := info_parts infoT
  obtain ⟨v', w', h1, h2, h3, _⟩ := run_append_own (P := Try.prog) w B 31 31 33 i0 _ 8 104 Try.underlying31 hi hz0 hz1 hz2 rfl (by decide) v l.length (cellsE l) h ⟨b, off, none⟩ us.length c (cellsE us) (cellsE_len us) (fun j u hj => rowE_cells hx j u hj) (cellsE_one us) (by unfold maxLen; omega) (by omega)
    hB
  exact ⟨v', w', h1, by rw [← List.length_append, ← cellsE_append] at h2; exact h2, h3⟩
set_option maxRecDepth 100000 in
/-- Likewise, and which block it is then. -/
theorem app_Tr_at (v : Value) (l us : List E) (w : World) (B b off c : Nat) (h : OwnTr w B v l) (hl : l.length + us.length ≤ 2097160) (hx : RowE w (some ⟨b, off, none⟩) us) (hB : B ≤ w.heap.size) :
    ∃ v' w', (Builtin.append_ #[31, 31] 31 #[v, .slice (some ⟨b, off, none⟩) us.length c]).run Try.prog w = .ok v' w' ∧ OwnTr w' B v' (l ++ us) ∧ w.grownBy w' v.ownBlock ∧ (v'.ownBlock = v.ownBlock ∨ v'.ownBlock = some w.heap.size) := by
  obtain ⟨i0, hi, hz0, hz1, hz2⟩ := info_parts infoT
  obtain ⟨v', w', h1, h2, h3, _, h4⟩ := run_append_own_at (P := Try.prog) (w := w) B 31 31 33 i0 _ 8 104 Try.underlying31 hi hz0 hz1 hz2 rfl (by decide) v l.length (cellsE l) h ⟨b, off, none⟩ us.length c (cellsE us) (cellsE_len us) (fun j u hj => rowE_cells hx j u hj) (cellsE_one us) (by unfold maxLen; omega) (by omega)
    hB
  exact ⟨v', w', h1, by rw [← List.length_append, ← cellsE_append] at h2; exact h2, h3, h4⟩

/-- These are the trees of f, with kids that can be read in w. -/
def KidE (w : World) (es : List E) (f : Fo) : Prop := es.length = f.len ∧ ∀ i, i < f.len → (nthE es i).1 = f.node i ∧ (nthE es i).2.2.1 = (f.kids i).len ∧ ((f.kids i).len ≤ (nthE es i).2.2.2 ∧ (f.kids i).len ≤ maxLen ∧ TextsN maxLen (f.node i)) ∧ RowT 0 w (nthE es i).2.1 0 (f.kids i)
theorem KidE.below {w w' : World} {es : List E} {f : Fo} (h : KidE w es f) (hb : Below w.heap.size w w') : KidE w' es f := ⟨h.1, fun i hi => by
  obtain ⟨h1, h2, h3, h4⟩ := h.2 i hi
  exact ⟨h1, h2, h3, h4.below hb⟩⟩
theorem KidE.nil (w : World) : KidE w [] .nil := ⟨rfl, fun i hi => by simp [Fo.len] at hi⟩
theorem KidE.one {w : World} {x : ND} {ks : Fo} {ka : Option Addr} {kc : Nat} (h : RowT 0 w ka 0 ks) (h1 : ks.len ≤ kc) (h2 : ks.len ≤ maxLen) (h3 : TextsN maxLen x) : KidE w [(x, ka, ks.len, kc)] (.cons x ks .nil) := ⟨rfl, fun i hi => by
  obtain rfl : i = 0 := by simp [Fo.len] at hi; omega
  exact ⟨rfl, rfl, ⟨h1, h2, h3⟩, h⟩⟩
theorem KidE.app {w : World} {es ts : List E} {f g : Fo} (h : KidE w es f) (h' : KidE w ts g) : KidE w (es ++ ts) (f.app g) := ⟨by rw [List.length_append, h.1, h'.1, Fo.app_len], fun i hi => by
  rw [Fo.app_len] at hi
  by_cases hlt : i < f.len
  · obtain ⟨e1, e2⟩ := Fo.app_left f g i hlt
    rw [e1, e2, nthE_left (by rw [h.1]; exact hlt)]
    exact h.2 i hlt
  · obtain ⟨j, rfl⟩ : ∃ j, i = f.len + j := ⟨i - f.len, by omega⟩
    obtain ⟨e1, e2⟩ := Fo.app_right f g j
    rw [e1, e2]
    have : nthE (es ++ ts) (f.len + j) = nthE ts j := by rw [← h.1]; exact nthE_right
    rw [this]
    exact h'.2 j (by omega)⟩
theorem RowE.trees {w : World} {a : Option Addr} {es : List E} {f : Fo} (h : RowE w a es) (hk : KidE w es f) : RowT 0 w a 0 f := RowT.mk fun i hi => by
  obtain ⟨b, off, rfl, h1, h2⟩ := h i (by rw [hk.1]; exact hi)
  obtain ⟨k1, k2, k3, k4⟩ := hk.2 i hi
  rw [Nat.zero_add]
  rw [k1] at h2
  unfold sv at h2
  rw [k2] at h2
  exact ⟨b, off, _, _, rfl, Nat.zero_le _, h1, h2, k3, k4⟩
theorem RowT.es {w : World} : ∀ {f : Fo} {a : Option Addr} {i : Nat}, RowT 0 w a i f → ∃ es : List E, KidE w es f ∧ ∀ j, j < f.len → ∃ b off, a = some ⟨b, off, none⟩ ∧ b < w.heap.size ∧ CellT w b (off + (i + j) * 8) (nthE es j).1 (sv (nthE es j))
  | .nil, _, _, _ => ⟨[], KidE.nil w, fun j hj => by simp [Fo.len] at hj⟩
  | .cons x ks r, a, i, h => by
    obtain ⟨⟨b, off, ka, kc, e, _, h2, h3, ⟨h4, h5, h6⟩, h7⟩, hr⟩ := h
    obtain ⟨es, k1, k2⟩ := RowT.es (f := r) hr
    refine ⟨(x, ka, ks.len, kc) :: es, (KidE.one h7 h4 h5 h6).app k1, fun j hj => ?_⟩
    cases j with
    | zero => exact ⟨b, off, e, h2, h3⟩
    | succ j =>
      obtain ⟨b', off', e', q1, q2⟩ := k2 j (by simp only [Fo.len] at hj; omega)
      exact ⟨b', off', e', q1, by rw [show i + (j + 1) = i + 1 + j by omega]; exact q2⟩
theorem RowT.list {w : World} {f : Fo} {a : Option Addr} (h : RowT 0 w a 0 f) : ∃ es : List E, KidE w es f ∧ RowE w a es := by
  obtain ⟨es, k1, k2⟩ := h.es
  refine ⟨es, k1, fun i hi => ?_⟩
  obtain ⟨b, off, e, q1, q2⟩ := k2 i (by rw [← k1.1]; exact hi)
  rw [Nat.zero_add] at q2
  exact ⟨b, off, e, q1, q2⟩
end Go.Proofs.Ythjibgnhpkonbaa
