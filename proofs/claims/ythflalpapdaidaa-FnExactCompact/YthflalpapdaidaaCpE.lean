/- impl's copies of nodes (stage 5). -/
import Derived.Test.YthflalpapdaidaaCpB
import Derived.Laws.Cover3
namespace Go.Proofs.Ythflalpapdaidaa
open Go.RowKit

set_option maxRecDepth 100000 in
theorem appS_empty (a : Addr) (ss : List ByteArray) (c : Nat) (w : World) (h : RowS w (some a) ss) (hl : ss.length ≤ 1048576) :
    ∃ v' w', (Builtin.append_ #[91, 91] 91 #[.slice (some ⟨w.heap.size, 0, none⟩) 0 0, .slice (some a) ss.length c]).run Try.prog (w.alloc (.cells #[] 9)) = .ok v' w' ∧ OwnL 9 w' w.heap.size w'.heap.size v' (vS ss) ∧ Below w.heap.size w w' := by
  obtain ⟨i0, hi, hz0, hz1, hz2⟩ := info_parts info9
  have B0 : Below w.heap.size w (w.alloc (.cells #[] 9)) := (Below.refl _ _).alloc (Nat.le_refl _) _
  have O0 : (w.alloc (.cells #[] 9)).ownsRow w.heap.size 9 1 (.slice (some ⟨w.heap.size, 0, none⟩) 0 0) 0 [] := ⟨rfl, .inr ⟨w.heap.size, 0, #[], rfl, Nat.le_refl _, heap_new' _ _ _ rfl, by simp, by simp, by simp, by simp⟩⟩
  obtain ⟨v', w', h1, h2, h3, _⟩ := run_append_own (P := Try.prog) (w.alloc (.cells #[] 9)) w.heap.size 91 91 9 i0 _ 1 16 Try.underlying91 hi hz0 hz1 hz2 rfl (by decide) _ 0 [] O0 a ss.length c (vS ss) (by simp) (fun j u hj => by
    rw [List.getElem?_map] at hj
    obtain ⟨x, hx, rfl⟩ := Option.map_eq_some_iff.1 hj
    have hjn : j < ss.length := (List.getElem?_eq_some_iff.1 hx).1
    obtain ⟨b, off, e, hb, hc, _⟩ := h j hjn
    cases e
    rw [add_plain]
    have e2 : x = nthS ss j := by rw [nthS_get hjn]; exact (Option.some.inj ((List.getElem?_eq_getElem hjn).symm.trans hx)).symm
    rw [e2]
    exact (B0.cell (p := ⟨b, off + j, none⟩) hb).trans hc) (by intro u hu; obtain ⟨x, _, rfl⟩ := List.mem_map.1 hu; rfl) (by unfold maxLen; omega) (by omega) B0.size
  have hB : Below w.heap.size w w' := B0.grown h3 B0.size (fun k hk => by simp [Value.ownBlock] at hk; omega)
  exact ⟨v', w', h1, OwnL.of (n := ss.length) (by simpa using h2) (by simp), hB⟩
set_option maxRecDepth 100000 in
set_option maxHeartbeats 2000000 in
theorem cloneS_any (a : Option Addr) (ss : List ByteArray) (c : Nat) (w : World) (h : RowS w a ss) (hl : ss.length ≤ 1048576) :
    Calls Try.prog 107 #[.slice a ss.length c] w fun e w' => ∃ v, e = .returned v ∧ OwnL 9 w' w.heap.size w'.heap.size v (vS ss) ∧ Below w.heap.size w w' := by
  rcases a with _ | ad
  · have h0 : ss.length = 0 := by
      rcases Nat.eq_zero_or_pos ss.length with q | q
      · exact q
      · obtain ⟨b, off, e, _⟩ := h 0 q; cases e
    rw [h0]
    have hq : ∀ W, (binOp .eql 91 (.slice none 0 c) (.slice none 0 0)).run Try.prog W = .ok (.bool true) W := fun W => by
      simp only [binOp]
      simp [run_equal_slice_nil W 91 9 none 0 c Try.underlying91]
    go_enter Try.func107, Try.ntmps107
    go_wp2
    go_ret
    exact ⟨_, rfl, .inl ⟨rfl, by simp [h0]⟩, Below.refl _ _⟩
  · obtain ⟨v', w', hr, h1, h2⟩ := appS_empty ad ss c w h hl
    have HO : Hid (OwnL 9 w' w.heap.size w'.heap.size v' (vS ss) ∧ Below w.heap.size w w') := ⟨h1, h2⟩
    clear h1 h2 h
    generalize ss.length = n at *
    have hq : ∀ W, (binOp .eql 91 (.slice (some ad) n c) (.slice none 0 0)).run Try.prog W = .ok (.bool false) W := fun W => by
      simp only [binOp]
      simp [run_equal_slice_nil W 91 9 _ n c Try.underlying91]
    go_enter Try.func107, Try.ntmps107
    go_wp2_with (at_builtin; refine Lib.wpList_append_run _ rfl _ _ _ _ rfl _ _ rfl rfl _ _ hr ?_)
    go_ret
    exact ⟨_, rfl, HO.out.1, HO.out.2⟩

set_option maxRecDepth 100000 in
theorem appI_empty (a : Addr) (ss : List Int) (c : Nat) (w : World) (h : RowI w (some a) ss) (hl : ss.length ≤ 1048576) :
    ∃ v' w', (Builtin.append_ #[47, 47] 47 #[.slice (some ⟨w.heap.size, 0, none⟩) 0 0, .slice (some a) ss.length c]).run Try.prog (w.alloc (.cells #[] 3)) = .ok v' w' ∧ OwnL 3 w' w.heap.size w'.heap.size v' (vI ss) ∧ Below w.heap.size w w' := by
  obtain ⟨i0, hi, hz0, hz1, hz2⟩ := info_parts info3
  have B0 : Below w.heap.size w (w.alloc (.cells #[] 3)) := (Below.refl _ _).alloc (Nat.le_refl _) _
  have O0 : (w.alloc (.cells #[] 3)).ownsRow w.heap.size 3 1 (.slice (some ⟨w.heap.size, 0, none⟩) 0 0) 0 [] := ⟨rfl, .inr ⟨w.heap.size, 0, #[], rfl, Nat.le_refl _, heap_new' _ _ _ rfl, by simp, by simp, by simp, by simp⟩⟩
  obtain ⟨v', w', h1, h2, h3, _⟩ := run_append_own (P := Try.prog) (w.alloc (.cells #[] 3)) w.heap.size 47 47 3 i0 _ 1 8 Try.underlying47 hi hz0 hz1 hz2 rfl (by decide) _ 0 [] O0 a ss.length c (vI ss) (by simp) (fun j u hj => by
    rw [List.getElem?_map] at hj
    obtain ⟨x, hx, rfl⟩ := Option.map_eq_some_iff.1 hj
    have hjn : j < ss.length := (List.getElem?_eq_some_iff.1 hx).1
    obtain ⟨b, off, e, hb, hc⟩ := h j hjn
    cases e
    rw [add_plain]
    have e2 : x = nthI ss j := by rw [nthI_get hjn]; exact (Option.some.inj ((List.getElem?_eq_getElem hjn).symm.trans hx)).symm
    rw [e2]
    exact (B0.cell (p := ⟨b, off + j, none⟩) hb).trans hc) (by intro u hu; obtain ⟨x, _, rfl⟩ := List.mem_map.1 hu; rfl) (by unfold maxLen; omega) (by omega) B0.size
  have hB : Below w.heap.size w w' := B0.grown h3 B0.size (fun k hk => by simp [Value.ownBlock] at hk; omega)
  exact ⟨v', w', h1, OwnL.of (n := ss.length) (by simpa using h2) (by simp), hB⟩
set_option maxRecDepth 100000 in
set_option maxHeartbeats 2000000 in
theorem cloneI_any (a : Option Addr) (ss : List Int) (c : Nat) (w : World) (h : RowI w a ss) (hl : ss.length ≤ 1048576) :
    Calls Try.prog 108 #[.slice a ss.length c] w fun e w' => ∃ v, e = .returned v ∧ OwnL 3 w' w.heap.size w'.heap.size v (vI ss) ∧ Below w.heap.size w w' := by
  rcases a with _ | ad
  · have h0 : ss.length = 0 := by
      rcases Nat.eq_zero_or_pos ss.length with q | q
      · exact q
      · obtain ⟨b, off, e, _⟩ := h 0 q; cases e
    rw [h0]
    have hq : ∀ W, (binOp .eql 47 (.slice none 0 c) (.slice none 0 0)).run Try.prog W = .ok (.bool true) W := fun W => by
      simp only [binOp]
      simp [run_equal_slice_nil W 47 3 none 0 c Try.underlying47]
    go_enter Try.func108, Try.ntmps108
    go_wp2
    go_ret
    exact ⟨_, rfl, .inl ⟨rfl, by simp [h0]⟩, Below.refl _ _⟩
  · obtain ⟨v', w', hr, h1, h2⟩ := appI_empty ad ss c w h hl
    have HO : Hid (OwnL 3 w' w.heap.size w'.heap.size v' (vI ss) ∧ Below w.heap.size w w') := ⟨h1, h2⟩
    clear h1 h2 h
    generalize ss.length = n at *
    have hq : ∀ W, (binOp .eql 47 (.slice (some ad) n c) (.slice none 0 0)).run Try.prog W = .ok (.bool false) W := fun W => by
      simp only [binOp]
      simp [run_equal_slice_nil W 47 3 _ n c Try.underlying47]
    go_enter Try.func108, Try.ntmps108
    go_wp2_with (at_builtin; refine Lib.wpList_append_run _ rfl _ _ _ _ rfl _ _ rfl rfl _ _ hr ?_)
    go_ret
    exact ⟨_, rfl, HO.out.1, HO.out.2⟩

/-- A node as it is told: its lists aside. -/
abbrev Sl := Option Addr × Nat × Nat
abbrev sl (s : Sl) : Value := .slice s.1 s.2.1 s.2.2
abbrev NE := Bool × Sl × Sl × Sl
def nthE (es : List NE) (i : Nat) : NE := es.getD i (false, (none, 0, 0), (none, 0, 0), (none, 0, 0))
def cellsN : List NE → List Value
  | [] => []
  | e :: es => .bool e.1 :: sl e.2.1 :: sl e.2.2.1 :: sl e.2.2.2 :: cellsN es
theorem cellsN_len : ∀ l : List NE, (cellsN l).length = l.length * 4
  | [] => rfl
  | v :: vs => by simp only [cellsN, List.length_cons, cellsN_len vs]; omega
theorem cellsN_one : ∀ (l : List NE), ∀ u ∈ cellsN l, u.oneCell' = true
  | [], u, h => by simp [cellsN] at h
  | v :: vs, u, h => by
    simp only [cellsN, List.mem_cons] at h
    rcases h with rfl | rfl | rfl | rfl | h
    all_goals first | rfl | exact cellsN_one vs u h
theorem cellsN_append : ∀ l r : List NE, cellsN (l ++ r) = cellsN l ++ cellsN r
  | [], _ => rfl
  | v :: vs, r => by simp only [cellsN, List.cons_append, cellsN_append vs r]
theorem cellsN_get : ∀ (l : List NE) (i : Nat), i < l.length → (cellsN l)[i * 4]? = some (.bool (nthE l i).1) ∧ (cellsN l)[i * 4 + 1]? = some (sl (nthE l i).2.1) ∧ (cellsN l)[i * 4 + 2]? = some (sl (nthE l i).2.2.1) ∧ (cellsN l)[i * 4 + 3]? = some (sl (nthE l i).2.2.2)
  | [], i, h => by simp at h
  | v :: vs, 0, _ => ⟨rfl, rfl, rfl, rfl⟩
  | v :: vs, i + 1, h => by
    have ih := cellsN_get vs i (by simpa using h)
    have e : ∀ r, (cellsN (v :: vs))[(i + 1) * 4 + r]? = (cellsN vs)[i * 4 + r]? := fun r => by
      rw [show (i + 1) * 4 + r = i * 4 + r + 1 + 1 + 1 + 1 by omega]
      simp only [cellsN, List.getElem?_cons_succ]
    obtain ⟨h0, h1, h2, h3⟩ := ih
    exact ⟨(e 0).trans h0, (e 1).trans h1, (e 2).trans h2, (e 3).trans h3⟩
/-- The nodes' cells can be read, their lists aside. -/
def RowNE (w : World) (a : Option Addr) (es : List NE) : Prop := ∀ i, i < es.length → ∃ b off, a = some ⟨b, off, none⟩ ∧ b < w.heap.size ∧ Cell4 w b (off + i * 4) (.bool (nthE es i).1) (sl (nthE es i).2.1) (sl (nthE es i).2.2.1) (sl (nthE es i).2.2.2)
/-- Their lists. -/
def KidN (w : World) (es : List NE) (ns : List Nd) : Prop := es.length = ns.length ∧ ∀ i, i < ns.length → (nthE es i).1 = (nthN ns i).1 ∧ (nthE es i).2.1.2.1 = (nthN ns i).2.1.length ∧ (nthE es i).2.2.1.2.1 = (nthN ns i).2.2.1.length ∧ (nthE es i).2.2.2.2.1 = (nthN ns i).2.2.2.length ∧ NodeR w (nthE es i).2.1.1 (nthE es i).2.2.1.1 (nthE es i).2.2.2.1 (nthN ns i)
theorem RowN.list {w : World} {a : Option Addr} {ns : List Nd} (h : RowN w a ns) : ∃ es : List NE, KidN w es ns ∧ RowNE w a es := by
  obtain ⟨g, hg⟩ : ∃ g : Nat → NE, ∀ i, i < ns.length → ∃ b off, a = some ⟨b, off, none⟩ ∧ b < w.heap.size ∧ Cell4 w b (off + i * 4) (.bool (g i).1) (sl (g i).2.1) (sl (g i).2.2.1) (sl (g i).2.2.2) ∧ (g i).1 = (nthN ns i).1 ∧ (g i).2.1.2.1 = (nthN ns i).2.1.length ∧ (g i).2.2.1.2.1 = (nthN ns i).2.2.1.length ∧ (g i).2.2.2.2.1 = (nthN ns i).2.2.2.length ∧ NodeR w (g i).2.1.1 (g i).2.2.1.1 (g i).2.2.2.1 (nthN ns i) := by
    classical
    have q : ∀ i, i < ns.length → ∃ e : NE, ∃ b off, a = some ⟨b, off, none⟩ ∧ b < w.heap.size ∧ Cell4 w b (off + i * 4) (.bool e.1) (sl e.2.1) (sl e.2.2.1) (sl e.2.2.2) ∧ e.1 = (nthN ns i).1 ∧ e.2.1.2.1 = (nthN ns i).2.1.length ∧ e.2.2.1.2.1 = (nthN ns i).2.2.1.length ∧ e.2.2.2.2.1 = (nthN ns i).2.2.2.length ∧ NodeR w e.2.1.1 e.2.2.1.1 e.2.2.2.1 (nthN ns i) := fun i hi => by
      obtain ⟨b, off, e, hb, ka, kc, va, vc, ia, ic, h0, h1, h2, h3, hr⟩ := h i hi
      exact ⟨((nthN ns i).1, (ka, (nthN ns i).2.1.length, kc), (va, (nthN ns i).2.2.1.length, vc), (ia, (nthN ns i).2.2.2.length, ic)), b, off, e, hb, ⟨h0, h1, h2, h3⟩, rfl, rfl, rfl, rfl, hr⟩
    exact ⟨fun i => if hi : i < ns.length then Classical.choose (q i hi) else (false, (none, 0, 0), (none, 0, 0), (none, 0, 0)), fun i hi => by simp only [dif_pos hi]; exact Classical.choose_spec (q i hi)⟩
  have hn : ∀ i, i < ns.length → nthE ((List.range ns.length).map g) i = g i := fun i hi => by
    unfold nthE
    rw [List.getD_eq_getElem?_getD, List.getElem?_map, List.getElem?_range hi]
    rfl
  refine ⟨(List.range ns.length).map g, ⟨by simp, fun i hi => ?_⟩, fun i hi => ?_⟩
  · rw [hn i hi]
    obtain ⟨_, _, _, _, _, r⟩ := hg i hi
    exact r
  · have hi' : i < ns.length := by simpa using hi
    rw [hn i hi']
    obtain ⟨b, off, e, hb, hc, _⟩ := hg i hi'
    exact ⟨b, off, e, hb, hc⟩
theorem rowNE_cells {w : World} {b off : Nat} {us : List NE} (h : RowNE w (some ⟨b, off, none⟩) us) (j : Nat) (u : Value) (hj : (cellsN us)[j]? = some u) : w.cell? ((⟨b, off, none⟩ : Addr).add j) = some u := by
  have hl : j < us.length * 4 := by
    rw [← cellsN_len us]
    exact (List.getElem?_eq_some_iff.1 hj).1
  obtain ⟨i, r, hr, rfl⟩ : ∃ i r, r < 4 ∧ j = i * 4 + r := ⟨j / 4, j % 4, Nat.mod_lt _ (by omega), by omega⟩
  have hi : i < us.length := by omega
  obtain ⟨b', off', e, _, c0, c1, c2, c3⟩ := h i hi
  cases e
  obtain ⟨g0, g1, g2, g3⟩ := cellsN_get us i hi
  rw [add_plain, ← Nat.add_assoc]
  have key : ∀ {x : Value} {n : Nat}, (cellsN us)[i * 4 + n]? = some x → (cellsN us)[i * 4 + n]? = some u → x = u := fun p q => by rw [p] at q; cases q; rfl
  match r, hr with
  | 0, _ => rw [← key g0 hj]; exact c0
  | 1, _ => rw [← key g1 hj]; exact c1
  | 2, _ => rw [← key g2 hj]; exact c2
  | 3, _ => rw [← key g3 hj]; exact c3
/-- Nodes in a list of the call's own. -/
abbrev OwnNE (w : World) (B : Nat) (v : Value) (l : List NE) : Prop := w.ownsRow B 93 4 v l.length (cellsN l)
theorem OwnNE.below {w w' : World} {B : Nat} {v : Value} {l : List NE} (h : OwnNE w B v l) (hb : Below w.heap.size w w') : OwnNE w' B v l := by
  obtain ⟨h1, h2⟩ := h
  refine ⟨h1, ?_⟩
  rcases h2 with h | ⟨g, cap, cur, e, hg, hh, r⟩
  · exact .inl h
  · exact .inr ⟨g, cap, cur, e, hg, (hb.block g (slab_lt hh)).trans hh, r⟩
theorem OwnNE.slab {w : World} {B : Nat} {u : Value} {l : List NE} (h : OwnNE w B u l) : (u = .slice none 0 0 ∧ l.length = 0) ∨ ∃ g cap cur, u = .slice (some ⟨g, 0, none⟩) l.length cap ∧ B ≤ g ∧ l.length ≤ cap ∧ w.heap[g]? = some (.cells cur 93 (0, 0)) ∧ cur.size = cap * 4 ∧ ∀ i, i < l.length → El4 cur i (.bool (nthE l i).1) (sl (nthE l i).2.1) (sl (nthE l i).2.2.1) (sl (nthE l i).2.2.2) := by
  obtain ⟨_, h2⟩ := h
  rcases h2 with ⟨rfl, h0⟩ | ⟨g, cap, cur, rfl, hg, hh, hc, _, hs, ht⟩
  · exact .inl ⟨rfl, h0⟩
  · refine .inr ⟨g, cap, cur, rfl, hg, hc, hh, hs, fun i hi => ?_⟩
    have key : ∀ j u, (cellsN l)[j]? = some u → cur[j]? = some u := fun j u hj => by
      rw [← ht, List.getElem?_take] at hj
      split at hj
      · rw [← Array.getElem?_toList]; exact hj
      · cases hj
    obtain ⟨g0, g1, g2, g3⟩ := cellsN_get l i hi
    exact ⟨key _ _ g0, key _ _ g1, key _ _ g2, key _ _ g3⟩
theorem OwnNE.empty {w : World} {B : Nat} (hB : B ≤ w.heap.size) : OwnNE (w.alloc (.cells #[] 93)) B (.slice (some ⟨w.heap.size, 0, none⟩) 0 0) [] :=
  ⟨rfl, .inr ⟨w.heap.size, 0, #[], rfl, hB, heap_new' _ _ _ rfl, by simp, by simp, by simp, by simp [cellsN]⟩⟩
set_option maxRecDepth 100000 in
theorem app_NE (v : Value) (l us : List NE) (w : World) (B : Nat) (a : Addr) (c : Nat) (h : OwnNE w B v l) (hl : l.length + us.length ≤ 1048576) (hx : RowNE w (some a) us) (hB : B ≤ w.heap.size) :
    ∃ v' w', (Builtin.append_ #[23, 23] 23 #[v, .slice (some a) us.length c]).run Try.prog w = .ok v' w' ∧ OwnNE w' B v' (l ++ us) ∧ w.grownBy w' v.ownBlock ∧ (v'.ownBlock = v.ownBlock ∨ v'.ownBlock = some w.heap.size) := by
  obtain ⟨i0, hi, hz0, hz1, hz2⟩ := info_parts info93
  obtain ⟨v', w', h1, h2, h3, _, h4⟩ := run_append_own_at (P := Try.prog) (w := w) B 23 23 93 i0 _ 4 80 Try.underlying23 hi hz0 hz1 hz2 rfl (by decide) v l.length (cellsN l) h a us.length c (cellsN us) (cellsN_len us) (fun j u hj => by
    have hne : 0 < us.length := by
      have := (List.getElem?_eq_some_iff.1 hj).1
      rw [cellsN_len] at this
      omega
    obtain ⟨b, off, e, _⟩ := hx 0 hne
    cases e
    exact rowNE_cells hx j u hj) (cellsN_one us) (by unfold maxLen; omega) (by omega) hB
  exact ⟨v', w', h1, by rw [← List.length_append, ← cellsN_append] at h2; exact h2, h3, h4⟩
theorem ne_grown {B : Nat} {w u u' : World} {v : Value} {l : List NE} (h : Below B w u) (hB : B ≤ u.heap.size) (ho : OwnNE u B v l) (hg : u.grownBy u' v.ownBlock) : Below B w u' :=
  h.grown hg hB fun k e => by
    obtain ⟨_, h2⟩ := ho
    rcases h2 with ⟨rfl, _⟩ | ⟨g, cap, cur, rfl, hg', _⟩
    · simp [Value.ownBlock] at e
    · simp [Value.ownBlock] at e
      omega
theorem RowNE.below {w w' : World} {a : Option Addr} {es : List NE} (h : RowNE w a es) (hb : Below w.heap.size w w') : RowNE w' a es := fun i hi => by
  obtain ⟨b, off, e, h1, h2⟩ := h i hi
  exact ⟨b, off, e, Nat.lt_of_lt_of_le h1 hb.size, h2.below h1 hb⟩
set_option maxRecDepth 100000 in
set_option maxHeartbeats 2000000 in
theorem cloneN_any (a : Option Addr) (es : List NE) (c : Nat) (w : World) (h : RowNE w a es) (hl : es.length ≤ 1048576) :
    Calls Try.prog 95 #[.slice a es.length c] w fun e w' => ∃ v, e = .returned v ∧ OwnNE w' w.heap.size v es ∧ Below w.heap.size w w' := by
  rcases a with _ | ad
  · have h0 : es = [] := by
      cases es with
      | nil => rfl
      | cons _ _ => obtain ⟨b, off, e, _⟩ := h 0 (by simp); cases e
    subst h0
    simp only [List.length_nil]
    have hq : ∀ W, (binOp .eql 23 (.slice none 0 c) (.slice none 0 0)).run Try.prog W = .ok (.bool true) W := fun W => by
      simp only [binOp]
      simp [run_equal_slice_nil W 23 93 none 0 c Try.underlying23]
    go_enter Try.func95, Try.ntmps95
    go_wp2
    go_ret
    exact ⟨_, rfl, ⟨rfl, .inl ⟨rfl, rfl⟩⟩, Below.refl _ _⟩
  · have B0 : Below w.heap.size w (w.alloc (.cells #[] 93)) := (Below.refl _ _).alloc (Nat.le_refl _) _
    have O0 : OwnNE (w.alloc (.cells #[] 93)) w.heap.size (.slice (some ⟨w.heap.size, 0, none⟩) 0 0) [] := OwnNE.empty (Nat.le_refl _)
    obtain ⟨v', w', hr, h1, h2, _⟩ := app_NE _ [] es _ w.heap.size ad c O0 (by simpa using hl) (h.below B0) B0.size
    have HO : Hid (OwnNE w' w.heap.size v' es ∧ Below w.heap.size w w') := ⟨h1, ne_grown B0 B0.size O0 h2⟩
    clear h1 h2 h O0 B0
    generalize es.length = n at *
    have hq : ∀ W, (binOp .eql 23 (.slice (some ad) n c) (.slice none 0 0)).run Try.prog W = .ok (.bool false) W := fun W => by
      simp only [binOp]
      simp [run_equal_slice_nil W 23 93 _ n c Try.underlying23]
    go_enter Try.func95, Try.ntmps95
    go_wp2_with (at_builtin; refine Lib.wpList_append_run _ rfl _ _ _ _ rfl _ _ rfl rfl _ _ hr ?_)
    go_ret
    exact ⟨_, rfl, HO.out.1, HO.out.2⟩
end Go.Proofs.Ythflalpapdaidaa
