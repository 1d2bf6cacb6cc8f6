/- Lists of texts and of entries: owned, compared, marked, held (stage 8). -/
import Derived.Test.YtlcgmifibekegaaCfE
import Derived.Deep.RegionHeld3
namespace Go.Proofs.Ytlcgmifibekegaa
open Go.RowKit

abbrev StMk (W : World) (b o : Nat) (s : ByteArray) (w' : World) : Prop := w'.cell? ⟨b, o, none⟩ = some (.string s) ∧ b < w'.heap.size ∧ Below W.heap.size W w'
theorem StMk.keep {W : World} {b o : Nat} {s : ByteArray} {w1 w2 : World} (h : StMk W b o s w1) (hb : Below w1.heap.size w1 w2) : StMk W b o s w2 :=
  ⟨(hb.cell (p := ⟨b, o, none⟩) h.2.1).trans h.1, Nat.lt_of_lt_of_le h.2.1 hb.size, below_step h.2.2 (Nat.le_refl _) hb⟩

/-- A text. -/
abbrev TS : Type := ByteArray
def nthS (l : List TS) (i : Nat) : TS := l.getD i ⟨#[]⟩
theorem nthS_get {l : List TS} {k : Nat} (hk : k < l.length) : nthS l k = l[k] := by
  unfold nthS; rw [List.getD_eq_getElem?_getD, List.getElem?_eq_getElem hk]; rfl
abbrev CellS (w : World) (b o : Nat) (x : TS) : Prop := w.cell? ⟨b, o, none⟩ = some (.string x)
theorem CellS.below {w w' : World} {b o : Nat} {x : TS} (h : CellS w b o x) (hl : b < w.heap.size) (hb : Below w.heap.size w w') : CellS w' b o x := (hb.cell (p := ⟨b, o, none⟩) hl).trans h
def RowS (w : World) (a : Option Addr) (l : List TS) : Prop := ∀ i, i < l.length → ∃ b off, a = some ⟨b, off, none⟩ ∧ b < w.heap.size ∧ CellS w b (off + i) (nthS l i)
theorem RowS.below {w w' : World} {a : Option Addr} {l : List TS} (h : RowS w a l) (hb : Below w.heap.size w w') : RowS w' a l := fun i hi => by
  obtain ⟨b, off, e, hlt, hc⟩ := h i hi
  exact ⟨b, off, e, Nat.lt_of_lt_of_le hlt hb.size, hc.below hlt hb⟩
def cellsS (l : List TS) : List Value := l.flatMap fun p => [.string p]
abbrev OwnS (w : World) (B : Nat) (v : Value) (l : List TS) : Prop := w.ownsRow B 9 1 v l.length (cellsS l)
theorem cellsS_cons (p : TS) (l : List TS) : cellsS (p :: l) = .string p :: cellsS l := rfl
theorem cellsS_len (l : List TS) : (cellsS l).length = l.length := by
  induction l with
  | nil => rfl
  | cons p l ih => rw [cellsS_cons]; simp only [List.length_cons, ih]
theorem cellsS_get : ∀ (l : List TS) (i : Nat), i < l.length → (cellsS l)[i]? = some (.string (nthS l i))
  | [], i, h => by simp at h
  | p :: l, 0, _ => rfl
  | p :: l, i + 1, h => by
    have ih := cellsS_get l i (by simpa using h)
    have en : nthS (p :: l) (i + 1) = nthS l i := by simp [nthS]
    rw [cellsS_cons, en]
    exact ih
theorem cellsS_snoc (l : List TS) (p : TS) : cellsS (l ++ [p]) = cellsS l ++ [.string p] := by simp [cellsS]
theorem OwnS.nil (w : World) (B : Nat) : OwnS w B (.slice none 0 0) [] := ⟨rfl, .inl ⟨rfl, rfl⟩⟩
theorem OwnS.made (w : World) (B : Nat) (hB : B ≤ w.heap.size) : OwnS (w.alloc (.cells #[] 9)) B (.slice (some ⟨w.heap.size, 0, none⟩) 0 0) [] :=
  ⟨rfl, .inr ⟨w.heap.size, 0, #[], rfl, hB, heap_new' _ _ _ rfl, Nat.le_refl _, Nat.zero_le _, rfl, rfl⟩⟩
theorem OwnS.below {w w' : World} {B : Nat} {v : Value} {l : List TS} (h : OwnS w B v l) (hb : Below w.heap.size w w') : OwnS w' B v l := own_keep h fun g _ hg => hb.block g hg
theorem OwnS.alloc {w : World} {B : Nat} {v : Value} {l : List TS} (h : OwnS w B v l) (o : Obj) : OwnS (w.alloc o) B v l := own_keep h fun _ _ hl => heap_old _ _ _ hl
theorem OwnS.kept {S : Nat → Prop} {w w' : World} {B : Nat} {v : Value} {l : List TS} (h : OwnS w B v l) (hK : Kept S w w') (hS : ∀ j, v.ownBlock = some j → ¬ S j) : OwnS w' B v l :=
  own_at h fun j hj => hK.block j (own_lt h hj).2 (hS j hj)
theorem OwnS.snoc {w : World} {B : Nat} {v : Value} {l : List TS} {p : TS} (h : w.ownsRow B 9 1 v (l.length + 1) (cellsS l ++ [.string p])) : OwnS w B v (l ++ [p]) := by
  show w.ownsRow B 9 1 v (l ++ [p]).length (cellsS (l ++ [p]))
  rw [List.length_append, cellsS_snoc]
  exact h
theorem OwnS.row {w : World} {B : Nat} {v : Value} {l : List TS} (h : OwnS w B v l) : ∃ a cap, v = .slice a l.length cap ∧ RowS w a l := by
  rcases h.2 with ⟨rfl, hn⟩ | ⟨g, cap, cur, rfl, hB, hh, hc, hm, hs, ht⟩
  · exact ⟨none, 0, by rw [hn], fun i hi => by omega⟩
  · refine ⟨_, cap, rfl, fun i hi => ⟨g, 0, rfl, slab_lt hh, ?_⟩⟩
    have gg := cellsS_get l i hi
    have key : ∀ j u, j < l.length → (cellsS l)[j]? = some u → w.cell? ⟨g, 0 + j, none⟩ = some u := fun j u hj hu => by
      rw [slab_cell hh, Nat.zero_add]
      have := congrArg (fun q => q[j]?) ht
      rw [Nat.mul_one, List.getElem?_take_of_lt hj, hu] at this
      rw [← Array.getElem?_toList, this]
    exact key _ _ (by omega) gg
/-- The marks from k on. -/
def marksS (k : Int) (m : Nat) : List TS := (List.range m).map (fun i : Nat => mtx (k + (i : Int)))
theorem marksS_len (k : Int) (m : Nat) : (marksS k m).length = m := by simp [marksS]
theorem marksS_nth (k : Int) (m i : Nat) (h : i < m) : nthS (marksS k m) i = mtx (k + i) := by
  rw [nthS_get (by rw [marksS_len]; exact h)]
  simp [marksS]
def MkS (cur : Array Value) (k : Int) (j : Nat) : Prop := ∀ i, i < j → cur[i]? = some (.string (mtx (k + i)))
theorem MkS.step {cur : Array Value} {k : Int} {j M : Nat} (h : MkS cur k j) (hs : cur.size = M) (hj : j < M) : MkS (cur.setIfInBounds (j) (.string (mtx (k + j)))) k (j + 1) := fun i hi => by
  by_cases e : i = j
  · subst e
    rw [Array.getElem?_setIfInBounds_self_of_lt (by omega)]
  · have := h i (by omega)
    rw [Array.getElem?_setIfInBounds_ne (by omega)]; exact this

set_option maxRecDepth 100000 in
set_option maxHeartbeats 4000000 in
theorem markS_vals (g m c M : Nat) (cur0 : Array Value) (k : Int) (w : World) (hh : w.heap[g]? = some (.cells cur0 9 (0, 0))) (hN : cur0.size = M) (hn : m ≤ M) (k0 : 0 ≤ k) (k1 : k ≤ 10000000) (hn2 : m ≤ 1048576) :
    Calls Try.prog 52 #[.slice (some ⟨g, 0, none⟩) m c, .int .i64 k] w fun r w' => r = .returned (.int .i64 (k + m)) ∧ (∃ cur, w'.heap[g]? = some (.cells cur 9 (0, 0)) ∧ cur.size = M ∧ MkS cur k m) ∧ Kept (fun j => j = g) w w' := by
  have HH : Hid (w.heap[g]? = some (.cells cur0 9 (0, 0))) := hh
  have HN : Hid (cur0.size = M) := hN
  clear hh hN
  go_enter Try.func52, Try.ntmps52
  go_wp2
  go_loopw [1, 5] (fun q i wr => ∃ j : Nat, j ≤ m ∧ i = .int .i64 j ∧ q = .int .i64 (k + j) ∧ Hid (∃ cur, wr.heap[g]? = some (.cells cur 9 (0, 0)) ∧ cur.size = M ∧ MkS cur k j) ∧ Kept (fun j => j = g) w wr) (fun _ i _ => m - (intOf i).toNat)
  case atStart => exact ⟨0, by omega, rfl, by simp, ⟨cur0, HH.out, HN.out, fun i hi => by omega⟩, Kept.refl _ _⟩
  case round =>
    obtain ⟨j, hj, rfl, rfl, HC0, hK⟩ := hrel
    obtain ⟨cur, hc⟩ := HC0.out
    have HC : Hid (wr.heap[g]? = some (.cells cur 9 (0, 0)) ∧ cur.size = M ∧ MkS cur k j) := hc
    clear hc HC0
    by_cases hlt : j < m
    · have hltI : (j : Int) < (m : Int) := by omega
      have hf : ∀ o, wr.frozen? ⟨g, o, none⟩ = false := fun o => slab_free HC.out.1
      clear hf
      go_wp2_with fail
      refine (markText_any (k + j) wr (by omega) (by omega)).mono ?_
      rintro e w3 ⟨rfl, _, b3⟩
      have hsz := HC.out.2.1
      have C3 : Hid (w3.heap[g]? = some (.cells cur 9 (0, 0))) := (b3.block g (slab_lt HC.out.1)).trans HC.out.1
      have K3 : Hid (Kept (fun j => j = g) w w3) := hK.trans (Kept.of_below b3)
      obtain ⟨v2, hv2⟩ := blk_there (o := j) C3.out (by omega)
      have hf3 : ∀ o, w3.frozen? ⟨g, o, none⟩ = false := fun o => slab_free C3.out
      have HNx : Hid (∃ cur', (w3.setCell ⟨g, j, none⟩ (.string (mtx (k + j)))).heap[g]? = some (.cells cur' 9 (0, 0)) ∧ cur'.size = M ∧ MkS cur' k (j + 1)) :=
        ⟨_, slab_set C3.out _, by simpa using hsz, HC.out.2.2.step hsz (by omega)⟩
      clear b3 hsz C3 hK
      go_wp2
      go_roundw
      case rel => exact ⟨j + 1, by omega, by go_num, by go_num, HNx, K3.out.set _ rfl⟩
      case measure => simp [intOf]; omega
    · obtain rfl : j = m := by omega
      go_wp2
      go_ret
      exact ⟨rfl, ⟨cur, HC.out⟩, hK⟩
theorem markS_nil (a : Option Addr) (c : Nat) (k : Int) (w : World) : Calls Try.prog 52 #[.slice a 0 c, .int .i64 k] w fun e w' => e = .returned (.int .i64 k) ∧ w' = w := by
  go_enter Try.func52, Try.ntmps52
  go_wp2
  go_loop [1, 5] (fun m i => m = .int .i64 k ∧ i = .int .i64 0) (fun _ _ => 0)
  case atStart => exact ⟨rfl, rfl⟩
  case round =>
    obtain ⟨rfl, rfl⟩ := hrel
    go_wp2
    go_ret
    exact ⟨rfl, rfl⟩
theorem MkS.cells {cur : Array Value} {k : Int} {m : Nat} (h : MkS cur k m) : cur.toList.take (m) = cellsS (marksS k m) := by
  apply List.ext_getElem?
  intro i
  by_cases hi : i < m
  · rw [List.getElem?_take_of_lt hi, Array.getElem?_toList]
    have h2 := h i hi
    have c0 := cellsS_get (marksS k m) i (by rw [marksS_len]; omega)
    rw [marksS_nth k m i (by omega)] at c0
    rw [c0, h2]
  · rw [List.getElem?_eq_none (by rw [List.length_take]; omega), List.getElem?_eq_none (by rw [cellsS_len, marksS_len]; omega)]
theorem markS_own {w : World} {B : Nat} {v : Value} {l : List TS} (h : OwnS w B v l) (hl : l.length ≤ 1048576) (k : Int) (k0 : 0 ≤ k) (k1 : k ≤ 10000000) :
    Calls Try.prog 52 #[v, .int .i64 k] w fun r w' => r = .returned (.int .i64 (k + l.length)) ∧ OwnS w' B v (marksS k l.length) ∧ Kept (fun j => v.ownBlock = some j) w w' := by
  rcases h.2 with ⟨rfl, hn⟩ | ⟨g, cap, cur, rfl, hB, hh, hc, hm, hs, ht⟩
  · rw [hn]
    refine (markS_nil none 0 k w).mono ?_
    rintro r w' ⟨rfl, rfl⟩
    exact ⟨by simp, ⟨rfl, .inl ⟨rfl, rfl⟩⟩, Kept.refl _ _⟩
  · refine (markS_vals g l.length cap (cap * 1) cur k w hh hs (by omega) k0 k1 hl).mono ?_
    rintro r w' ⟨rfl, ⟨cur', hh', hs', hv⟩, hK⟩
    refine ⟨rfl, ⟨by rw [cellsS_len]; omega, .inr ⟨g, cap, cur', by rw [marksS_len], hB, hh', by rw [marksS_len]; exact hc, hm, hs', ?_⟩⟩, hK.mono fun j hj => by rw [hj]; rfl⟩
    rw [marksS_len, Nat.mul_one]
    exact hv.cells

set_option maxRecDepth 100000 in
set_option maxHeartbeats 4000000 in
theorem heldS_marks (a : Option Addr) (m c : Nat) (k : Int) (w : World) (h : RowS w a (marksS k m)) (k0 : 0 ≤ k) (k1 : k ≤ 10000000) (hn : m ≤ 1048576) :
    Calls Try.prog 54 #[.slice a m c, .int .i64 k] w fun r w' => r = .returned (.int .i64 (k + m)) ∧ Below w.heap.size w w' := by
  have H : Hid (RowS w a (marksS k m)) := h
  clear h
  go_enter Try.func54, Try.ntmps54
  go_wp2
  go_loopw [1, 5] (fun q i wr => ∃ j : Nat, j ≤ m ∧ i = .int .i64 j ∧ q = .int .i64 (k + j) ∧ Below w.heap.size w wr) (fun _ i _ => m - (intOf i).toNat)
  case atStart => exact ⟨0, by omega, rfl, by simp, Below.refl _ _⟩
  case round =>
    obtain ⟨j, hj, rfl, rfl, hbl⟩ := hrel
    by_cases hlt : j < m
    · have hltI : (j : Int) < (m : Int) := by omega
      obtain ⟨b, off, rfl, hlb, q0⟩ := (H.out.below hbl) j (by rw [marksS_len]; exact hlt)
      rw [marksS_nth k m j hlt] at q0
      have hC : Hid (StMk wr b (off + j) (mtx (k + j)) wr.drew) := ⟨q0, hlb, (Below.refl _ _).drew⟩
      have hwj : IntKind.i64.wrap (j : Int) = (j : Int) := wrap_nat (by omega)
      clear q0
      go_wp2_with fail
      refine wp_region_class (C := StMk wr b (off + j) (mtx (k + j))) (by kernel_rfl) (by kernel_rfl) hC.out ?_
      repeat (first | go_big_quiet_skip | (go_big_quiet_want; apply Exists.intro; refine ⟨?_, ?_⟩; (focus (intro w' hw'; first | (obtain ⟨m0, m1, m2⟩ := hw'; go_simp; with_reducible rfl) | (go_simp; refine (markText_any (k + j) w' (by omega) (by omega)).mono ?_; rintro e w'' ⟨rfl, _, hb⟩; exact ⟨rfl, hw'.keep hb⟩))); (try simp only [Act.put, List.setIfInBounds_toArray, List.set_cons_zero, List.set_cons_succ]); go_big_quiet_on))
      refine wpQuiet_nil ?_
      intro w2 hw2
      have B3 := below_step hbl (Nat.le_refl _) hw2.2.2
      clear hw2 hC
      go_wp2
      go_roundw
      case rel => exact ⟨j + 1, by omega, by go_num, by go_num, B3⟩
      case measure => simp [intOf]; omega
    · obtain rfl : j = m := by omega
      go_wp2
      go_ret
      exact ⟨rfl, hbl⟩
theorem heldS_own {w : World} {B : Nat} {v : Value} {m : Nat} {k : Int} (h : OwnS w B v (marksS k m)) (k0 : 0 ≤ k) (k1 : k ≤ 10000000) (hn : m ≤ 1048576) : Calls Try.prog 54 #[v, .int .i64 k] w fun r w' => r = .returned (.int .i64 (k + m)) ∧ Below w.heap.size w w' := by
  obtain ⟨a, c, rfl, r⟩ := h.row
  rw [marksS_len]
  exact heldS_marks a m c k w r k0 k1 hn

set_option maxHeartbeats 1000000 in
theorem eqS_same (a1 a2 : Option Addr) (c1 c2 : Nat) (l : List TS) (w : World) (h1 : RowS w a1 l) (h2 : RowS w a2 l) (hlen : l.length ≤ 1048576) :
    Calls Try.prog 50 #[.slice a1 l.length c1, .slice a2 l.length c2] w fun e w' => e = .returned (.bool true) ∧ Below w.heap.size w w' := by
  have H1 : Hid (RowS w a1 l) := h1
  have H2 : Hid (RowS w a2 l) := h2
  clear h1 h2
  generalize hL : l.length = len at *
  have HL : Hid (l.length = len) := hL
  clear hL
  go_enter Try.func50, Try.ntmps50
  go_wp2
  go_loopw [5] (fun i wr => ∃ k : Nat, k ≤ len ∧ i = .int .i64 k ∧ Below w.heap.size w wr) (fun i _ => len - (intOf i).toNat)
  case atStart => exact ⟨0, by omega, rfl, Below.refl _ _⟩
  case round =>
    obtain ⟨k, hk, rfl, hbl⟩ := hrel
    by_cases hlt : k < len
    · obtain ⟨b1, o1, rfl, hlb1, hc1⟩ := (H1.out.below hbl) k (by rw [HL.out]; exact hlt)
      obtain ⟨b2, o2, rfl, hlb2, hc2⟩ := (H2.out.below hbl) k (by rw [HL.out]; exact hlt)
      go_wp2_with fail
      go_quiet (fail)
      go_wp2
      go_roundw
      case rel => exact ⟨k + 1, by omega, by go_num, below_drewN hbl _⟩
      case measure => simp [intOf]; omega
    · go_wp2
      go_ret
      exact ⟨rfl, hbl⟩
theorem eqS_own {w : World} {B B' : Nat} {v v' : Value} {l : List TS} (h : OwnS w B v l) (h' : OwnS w B' v' l) (hl : l.length ≤ 1048576) : Calls Try.prog 50 #[v, v'] w fun r w' => r = .returned (.bool true) ∧ Below w.heap.size w w' := by
  obtain ⟨a, c, rfl, r⟩ := h.row
  obtain ⟨a', c', rfl, r'⟩ := h'.row
  exact eqS_same a a' c c' l w r r' hl

/-- A entry. -/
abbrev TY : Type := ByteArray × ByteArray
def nthY (l : List TY) (i : Nat) : TY := l.getD i (⟨#[]⟩, ⟨#[]⟩)
theorem nthY_get {l : List TY} {k : Nat} (hk : k < l.length) : nthY l k = l[k] := by
  unfold nthY; rw [List.getD_eq_getElem?_getD, List.getElem?_eq_getElem hk]; rfl
abbrev CellY (w : World) (b o : Nat) (x : TY) : Prop := w.cell? ⟨b, o, none⟩ = some (.string x.1) ∧ w.cell? ⟨b, o + 1, none⟩ = some (.string x.2)
theorem CellY.below {w w' : World} {b o : Nat} {x : TY} (h : CellY w b o x) (hl : b < w.heap.size) (hb : Below w.heap.size w w') : CellY w' b o x := ⟨(hb.cell (p := ⟨b, o, none⟩) hl).trans h.1, (hb.cell (p := ⟨b, o + 1, none⟩) hl).trans h.2⟩
def RowY (w : World) (a : Option Addr) (l : List TY) : Prop := ∀ i, i < l.length → ∃ b off, a = some ⟨b, off, none⟩ ∧ b < w.heap.size ∧ CellY w b (off + i * 2) (nthY l i)
theorem RowY.below {w w' : World} {a : Option Addr} {l : List TY} (h : RowY w a l) (hb : Below w.heap.size w w') : RowY w' a l := fun i hi => by
  obtain ⟨b, off, e, hlt, hc⟩ := h i hi
  exact ⟨b, off, e, Nat.lt_of_lt_of_le hlt hb.size, hc.below hlt hb⟩
def cellsY (l : List TY) : List Value := l.flatMap fun p => [.string p.1, .string p.2]
abbrev OwnY (w : World) (B : Nat) (v : Value) (l : List TY) : Prop := w.ownsRow B 61 2 v l.length (cellsY l)
theorem cellsY_cons (p : TY) (l : List TY) : cellsY (p :: l) = .string p.1 :: .string p.2 :: cellsY l := rfl
theorem cellsY_len (l : List TY) : (cellsY l).length = l.length * 2 := by
  induction l with
  | nil => rfl
  | cons p l ih => rw [cellsY_cons]; simp only [List.length_cons, ih]; omega
theorem cellsY_get : ∀ (l : List TY) (i : Nat), i < l.length → (cellsY l)[i * 2]? = some (.string (nthY l i).1) ∧ (cellsY l)[i * 2 + 1]? = some (.string (nthY l i).2)
  | [], i, h => by simp at h
  | p :: l, 0, _ => ⟨rfl, rfl⟩
  | p :: l, i + 1, h => by
    have ih := cellsY_get l i (by simpa using h)
    have en : nthY (p :: l) (i + 1) = nthY l i := by simp [nthY]
    have e0 : (i + 1) * 2 = i * 2 + 2 := by omega
    rw [cellsY_cons, en, e0]
    exact ih
theorem cellsY_snoc (l : List TY) (p : TY) : cellsY (l ++ [p]) = cellsY l ++ [.string p.1, .string p.2] := by simp [cellsY]
theorem OwnY.nil (w : World) (B : Nat) : OwnY w B (.slice none 0 0) [] := ⟨rfl, .inl ⟨rfl, rfl⟩⟩
theorem OwnY.made (w : World) (B : Nat) (hB : B ≤ w.heap.size) : OwnY (w.alloc (.cells #[] 61)) B (.slice (some ⟨w.heap.size, 0, none⟩) 0 0) [] :=
  ⟨rfl, .inr ⟨w.heap.size, 0, #[], rfl, hB, heap_new' _ _ _ rfl, Nat.le_refl _, Nat.zero_le _, rfl, rfl⟩⟩
theorem OwnY.below {w w' : World} {B : Nat} {v : Value} {l : List TY} (h : OwnY w B v l) (hb : Below w.heap.size w w') : OwnY w' B v l := own_keep h fun g _ hg => hb.block g hg
theorem OwnY.alloc {w : World} {B : Nat} {v : Value} {l : List TY} (h : OwnY w B v l) (o : Obj) : OwnY (w.alloc o) B v l := own_keep h fun _ _ hl => heap_old _ _ _ hl
theorem OwnY.kept {S : Nat → Prop} {w w' : World} {B : Nat} {v : Value} {l : List TY} (h : OwnY w B v l) (hK : Kept S w w') (hS : ∀ j, v.ownBlock = some j → ¬ S j) : OwnY w' B v l :=
  own_at h fun j hj => hK.block j (own_lt h hj).2 (hS j hj)
theorem OwnY.snoc {w : World} {B : Nat} {v : Value} {l : List TY} {p : TY} (h : w.ownsRow B 61 2 v (l.length + 1) (cellsY l ++ [.string p.1, .string p.2])) : OwnY w B v (l ++ [p]) := by
  show w.ownsRow B 61 2 v (l ++ [p]).length (cellsY (l ++ [p]))
  rw [List.length_append, cellsY_snoc]
  exact h
theorem OwnY.row {w : World} {B : Nat} {v : Value} {l : List TY} (h : OwnY w B v l) : ∃ a cap, v = .slice a l.length cap ∧ RowY w a l := by
  rcases h.2 with ⟨rfl, hn⟩ | ⟨g, cap, cur, rfl, hB, hh, hc, hm, hs, ht⟩
  · exact ⟨none, 0, by rw [hn], fun i hi => by omega⟩
  · refine ⟨_, cap, rfl, fun i hi => ⟨g, 0, rfl, slab_lt hh, ?_⟩⟩
    have gg := cellsY_get l i hi
    have key : ∀ j u, j < l.length * 2 → (cellsY l)[j]? = some u → w.cell? ⟨g, 0 + j, none⟩ = some u := fun j u hj hu => by
      rw [slab_cell hh, Nat.zero_add]
      have := congrArg (fun q => q[j]?) ht
      rw [List.getElem?_take_of_lt hj, hu] at this
      rw [← Array.getElem?_toList, this]
    refine ⟨key _ _ (by omega) gg.1, ?_⟩
    rw [Nat.add_assoc]; exact key _ _ (by omega) gg.2
/-- The marks from k on. -/
def marksY (k : Int) (m : Nat) : List TY := (List.range m).map (fun i : Nat => (mtx (k + 2 * (i : Int)), mtx (k + 2 * (i : Int) + 1)))
theorem marksY_len (k : Int) (m : Nat) : (marksY k m).length = m := by simp [marksY]
theorem marksY_nth (k : Int) (m i : Nat) (h : i < m) : nthY (marksY k m) i = (mtx (k + 2 * i), mtx (k + 2 * i + 1)) := by
  rw [nthY_get (by rw [marksY_len]; exact h)]
  simp [marksY]
def MkY (cur : Array Value) (k : Int) (j : Nat) : Prop := ∀ i, i < j → cur[i * 2]? = some (.string (mtx (k + 2 * i))) ∧ cur[i * 2 + 1]? = some (.string (mtx (k + 2 * i + 1)))
theorem MkY.step {cur : Array Value} {k : Int} {j M : Nat} (h : MkY cur k j) (hs : cur.size = M) (hj : j * 2 + 1 < M) : MkY ((cur.setIfInBounds (j * 2) (.string (mtx (k + 2 * j)))).setIfInBounds (j * 2 + 1) (.string (mtx (k + 2 * j + 1)))) k (j + 1) := fun i hi => by
  by_cases e : i = j
  · subst e
    refine ⟨?_, ?_⟩
    · rw [Array.getElem?_setIfInBounds_ne (by omega), Array.getElem?_setIfInBounds_self_of_lt (by omega)]
    · rw [Array.getElem?_setIfInBounds_self_of_lt (by simp; omega)]
  · have := h i (by omega)
    refine ⟨?_, ?_⟩
    · rw [Array.getElem?_setIfInBounds_ne (by omega), Array.getElem?_setIfInBounds_ne (by omega)]; exact this.1
    · rw [Array.getElem?_setIfInBounds_ne (by omega), Array.getElem?_setIfInBounds_ne (by omega)]; exact this.2

set_option maxRecDepth 100000 in
set_option maxHeartbeats 4000000 in
theorem markY_vals (g m c M : Nat) (cur0 : Array Value) (k : Int) (w : World) (hh : w.heap[g]? = some (.cells cur0 61 (0, 0))) (hN : cur0.size = M) (hn : m * 2 ≤ M) (k0 : 0 ≤ k) (k1 : k ≤ 10000000) (hn2 : m ≤ 1048576) :
    Calls Try.prog 53 #[.slice (some ⟨g, 0, none⟩) m c, .int .i64 k] w fun r w' => r = .returned (.int .i64 (k + 2 * m)) ∧ (∃ cur, w'.heap[g]? = some (.cells cur 61 (0, 0)) ∧ cur.size = M ∧ MkY cur k m) ∧ Kept (fun j => j = g) w w' := by
  have HH : Hid (w.heap[g]? = some (.cells cur0 61 (0, 0))) := hh
  have HN : Hid (cur0.size = M) := hN
  clear hh hN
  go_enter Try.func53, Try.ntmps53
  go_wp2
  go_loopw [1, 5] (fun q i wr => ∃ j : Nat, j ≤ m ∧ i = .int .i64 j ∧ q = .int .i64 (k + 2 * j) ∧ Hid (∃ cur, wr.heap[g]? = some (.cells cur 61 (0, 0)) ∧ cur.size = M ∧ MkY cur k j) ∧ Kept (fun j => j = g) w wr) (fun _ i _ => m - (intOf i).toNat)
  case atStart => exact ⟨0, by omega, rfl, by simp, ⟨cur0, HH.out, HN.out, fun i hi => by omega⟩, Kept.refl _ _⟩
  case round =>
    obtain ⟨j, hj, rfl, rfl, HC0, hK⟩ := hrel
    obtain ⟨cur, hc⟩ := HC0.out
    have HC : Hid (wr.heap[g]? = some (.cells cur 61 (0, 0)) ∧ cur.size = M ∧ MkY cur k j) := hc
    clear hc HC0
    by_cases hlt : j < m
    · have hltI : (j : Int) < (m : Int) := by omega
      go_wp2_with fail
      refine (markText_any (k + 2 * j) wr (by omega) (by omega)).mono ?_
      rintro e w3 ⟨rfl, _, b3⟩
      have hsz := HC.out.2.1
      have C3 : Hid (w3.heap[g]? = some (.cells cur 61 (0, 0))) := (b3.block g (slab_lt HC.out.1)).trans HC.out.1
      have K3 : Hid (Kept (fun j => j = g) w w3) := hK.trans (Kept.of_below b3)
      obtain ⟨v2, hv2⟩ := blk_there (o := j * 2) C3.out (by omega)
      have hf3 : ∀ o, w3.frozen? ⟨g, o, none⟩ = false := fun o => slab_free C3.out
      obtain ⟨w4, hw4⟩ : ∃ w4, w3.setCell ⟨g, j * 2, none⟩ (.string (mtx (k + 2 * j))) = w4 := ⟨_, rfl⟩
      have C4 : Hid (w4.heap[g]? = some (.cells (cur.setIfInBounds (j * 2) (.string (mtx (k + 2 * j)))) 61 (0, 0))) := hw4 ▸ slab_set C3.out _
      have K4 : Hid (Kept (fun j => j = g) w w4) := hw4 ▸ K3.out.set _ rfl
      clear b3 hsz hK
      go_wp2_with fail
      refine (markText_any (k + 2 * j + 1) w4 (by omega) (by omega)).mono ?_
      rintro e w5 ⟨rfl, _, b5⟩
      have hsz := HC.out.2.1
      have C5 : Hid (w5.heap[g]? = some (.cells (cur.setIfInBounds (j * 2) (.string (mtx (k + 2 * j)))) 61 (0, 0))) := (b5.block g (slab_lt C4.out)).trans C4.out
      have K5 : Hid (Kept (fun j => j = g) w w5) := K4.out.trans (Kept.of_below b5)
      obtain ⟨v3, hv3⟩ := blk_there (o := j * 2 + 1) C5.out (by simp; omega)
      have hf5 : ∀ o, w5.frozen? ⟨g, o, none⟩ = false := fun o => slab_free C5.out
      have HNx : Hid (∃ cur', (w5.setCell ⟨g, j * 2 + 1, none⟩ (.string (mtx (k + 2 * j + 1)))).heap[g]? = some (.cells cur' 61 (0, 0)) ∧ cur'.size = M ∧ MkY cur' k (j + 1)) :=
        ⟨_, slab_set C5.out _, by simpa using hsz, HC.out.2.2.step hsz (by omega)⟩
      clear hv2 hf3 hw4 C4 K4 b5 hsz C3 K3
      go_wp2
      go_roundw
      case rel => exact ⟨j + 1, by omega, by go_num, by go_num, HNx, K5.out.set _ rfl⟩
      case measure => simp [intOf]; omega
    · obtain rfl : j = m := by omega
      go_wp2
      go_ret
      exact ⟨rfl, ⟨cur, HC.out⟩, hK⟩
theorem markY_nil (a : Option Addr) (c : Nat) (k : Int) (w : World) : Calls Try.prog 53 #[.slice a 0 c, .int .i64 k] w fun e w' => e = .returned (.int .i64 k) ∧ w' = w := by
  go_enter Try.func53, Try.ntmps53
  go_wp2
  go_loop [1, 5] (fun m i => m = .int .i64 k ∧ i = .int .i64 0) (fun _ _ => 0)
  case atStart => exact ⟨rfl, rfl⟩
  case round =>
    obtain ⟨rfl, rfl⟩ := hrel
    go_wp2
    go_ret
    exact ⟨rfl, rfl⟩
theorem MkY.cells {cur : Array Value} {k : Int} {m : Nat} (h : MkY cur k m) : cur.toList.take (m * 2) = cellsY (marksY k m) := by
  apply List.ext_getElem?
  intro i
  by_cases hi : i < m * 2
  · rw [List.getElem?_take_of_lt hi, Array.getElem?_toList]
    have h2 := h (i / 2) (by omega)
    obtain ⟨c0, c1⟩ := cellsY_get (marksY k m) (i / 2) (by rw [marksY_len]; omega)
    rw [marksY_nth k m (i / 2) (by omega)] at c0 c1
    rcases (show i = i / 2 * 2 ∨ i = i / 2 * 2 + 1 by omega) with e | e
    · rw [← e] at c0 h2; rw [c0, h2.1]
    · rw [← e] at c1 h2; rw [c1, h2.2]
  · rw [List.getElem?_eq_none (by rw [List.length_take]; omega), List.getElem?_eq_none (by rw [cellsY_len, marksY_len]; omega)]
theorem markY_own {w : World} {B : Nat} {v : Value} {l : List TY} (h : OwnY w B v l) (hl : l.length ≤ 1048576) (k : Int) (k0 : 0 ≤ k) (k1 : k ≤ 10000000) :
    Calls Try.prog 53 #[v, .int .i64 k] w fun r w' => r = .returned (.int .i64 (k + 2 * l.length)) ∧ OwnY w' B v (marksY k l.length) ∧ Kept (fun j => v.ownBlock = some j) w w' := by
  rcases h.2 with ⟨rfl, hn⟩ | ⟨g, cap, cur, rfl, hB, hh, hc, hm, hs, ht⟩
  · rw [hn]
    refine (markY_nil none 0 k w).mono ?_
    rintro r w' ⟨rfl, rfl⟩
    exact ⟨by simp, ⟨rfl, .inl ⟨rfl, rfl⟩⟩, Kept.refl _ _⟩
  · refine (markY_vals g l.length cap (cap * 2) cur k w hh hs (by omega) k0 k1 hl).mono ?_
    rintro r w' ⟨rfl, ⟨cur', hh', hs', hv⟩, hK⟩
    refine ⟨rfl, ⟨by rw [cellsY_len], .inr ⟨g, cap, cur', by rw [marksY_len], hB, hh', by rw [marksY_len]; exact hc, hm, hs', ?_⟩⟩, hK.mono fun j hj => by rw [hj]; rfl⟩
    rw [marksY_len]
    exact hv.cells

set_option maxRecDepth 100000 in
set_option maxHeartbeats 4000000 in
theorem heldY_marks (a : Option Addr) (m c : Nat) (k : Int) (w : World) (h : RowY w a (marksY k m)) (k0 : 0 ≤ k) (k1 : k ≤ 10000000) (hn : m ≤ 1048576) :
    Calls Try.prog 55 #[.slice a m c, .int .i64 k] w fun r w' => r = .returned (.int .i64 (k + 2 * m)) ∧ Below w.heap.size w w' := by
  have H : Hid (RowY w a (marksY k m)) := h
  clear h
  go_enter Try.func55, Try.ntmps55
  go_wp2
  go_loopw [1, 5] (fun q i wr => ∃ j : Nat, j ≤ m ∧ i = .int .i64 j ∧ q = .int .i64 (k + 2 * j) ∧ Below w.heap.size w wr) (fun _ i _ => m - (intOf i).toNat)
  case atStart => exact ⟨0, by omega, rfl, by simp, Below.refl _ _⟩
  case round =>
    obtain ⟨j, hj, rfl, rfl, hbl⟩ := hrel
    by_cases hlt : j < m
    · have hltI : (j : Int) < (m : Int) := by omega
      obtain ⟨b, off, rfl, hlb, ⟨q0, q1⟩⟩ := (H.out.below hbl) j (by rw [marksY_len]; exact hlt)
      rw [marksY_nth k m j hlt] at q0 q1
      simp only at q0 q1
      have Q3 : Hid (wr.cell? ⟨b, off + j * 2 + 1, none⟩ = some (.string (mtx (k + 2 * j + 1)))) := q1
      have hC : Hid (StMk wr b (off + j * 2) (mtx (k + 2 * j)) wr.drew) := ⟨q0, hlb, (Below.refl _ _).drew⟩
      have hwj : IntKind.i64.wrap (j : Int) = (j : Int) := wrap_nat (by omega)
      clear q0 q1
      go_wp2_with fail
      refine wp_region_class (C := StMk wr b (off + j * 2) (mtx (k + 2 * j))) (by kernel_rfl) (by kernel_rfl) hC.out ?_
      repeat (first | go_big_quiet_skip | (go_big_quiet_want; apply Exists.intro; refine ⟨?_, ?_⟩; (focus (intro w' hw'; first | (obtain ⟨m0, m1, m2⟩ := hw'; go_simp; with_reducible rfl) | (go_simp; refine (markText_any (k + 2 * j) w' (by omega) (by omega)).mono ?_; rintro e w'' ⟨rfl, _, hb⟩; exact ⟨rfl, hw'.keep hb⟩))); (try simp only [Act.put, List.setIfInBounds_toArray, List.set_cons_zero, List.set_cons_succ]); go_big_quiet_on))
      refine wpQuiet_nil ?_
      intro w2 hw2
      have hB2 : Below wr.heap.size wr w2 := hw2.2.2
      have r3 : w2.cell? ⟨b, off + j * 2 + 1, none⟩ = some (.string (mtx (k + 2 * j + 1))) := (hB2.cell (p := ⟨b, off + j * 2 + 1, none⟩) hlb).trans Q3.out
      have hlb2 : b < w2.heap.size := hw2.2.1
      have B2 := below_step hbl (Nat.le_refl _) hB2
      have hC2 : Hid (StMk w2 b (off + j * 2 + 1) (mtx (k + 2 * j + 1)) w2.drew) := ⟨r3, hlb2, (Below.refl _ _).drew⟩
      clear hw2 hC r3 Q3 hB2 hbl
      go_wp2_with fail
      refine wp_region_class (C := StMk w2 b (off + j * 2 + 1) (mtx (k + 2 * j + 1))) (by kernel_rfl) (by kernel_rfl) hC2.out ?_
      repeat (first | go_big_quiet_skip | (go_big_quiet_want; apply Exists.intro; refine ⟨?_, ?_⟩; (focus (intro w' hw'; first | (obtain ⟨m0, m1, m2⟩ := hw'; go_simp; with_reducible rfl) | (go_simp; refine (markText_any (k + 2 * j + 1) w' (by omega) (by omega)).mono ?_; rintro e w'' ⟨rfl, _, hb⟩; exact ⟨rfl, hw'.keep hb⟩))); (try simp only [Act.put, List.setIfInBounds_toArray, List.set_cons_zero, List.set_cons_succ]); go_big_quiet_on))
      refine wpQuiet_nil ?_
      intro w3 hw3
      have B3 := below_step B2 (Nat.le_refl _) hw3.2.2
      clear hw3 hC2 B2
      go_wp2
      go_roundw
      case rel => exact ⟨j + 1, by omega, by go_num, by go_num, B3⟩
      case measure => simp [intOf]; omega
    · obtain rfl : j = m := by omega
      go_wp2
      go_ret
      exact ⟨rfl, hbl⟩
theorem heldY_own {w : World} {B : Nat} {v : Value} {m : Nat} {k : Int} (h : OwnY w B v (marksY k m)) (k0 : 0 ≤ k) (k1 : k ≤ 10000000) (hn : m ≤ 1048576) : Calls Try.prog 55 #[v, .int .i64 k] w fun r w' => r = .returned (.int .i64 (k + 2 * m)) ∧ Below w.heap.size w w' := by
  obtain ⟨a, c, rfl, r⟩ := h.row
  rw [marksY_len]
  exact heldY_marks a m c k w r k0 k1 hn

set_option maxRecDepth 100000 in
theorem eqY1_same (x : TY) (w : World) : Calls Try.prog 95 #[.agg #[.string x.1, .string x.2], .agg #[.string x.1, .string x.2]] w fun e w' => e = .returned (.bool true) ∧ Below w.heap.size w w' := by
  obtain ⟨kx, vx⟩ := x
  go_enter Try.func95, Try.ntmps95
  go_wp2
  go_ret
  exact ⟨rfl, ((Below.refl _ _).alloc (Nat.le_refl _) _).alloc (by simp) _⟩
abbrev PairN (w : World) (b1 o1 b2 o2 : Nat) (x : TY) (w' : World) : Prop := CellY w' b1 o1 x ∧ CellY w' b2 o2 x ∧ b1 < w'.heap.size ∧ b2 < w'.heap.size ∧ Below w.heap.size w w'
theorem PairN.keep {w : World} {b1 o1 b2 o2 : Nat} {x : TY} {w1 w2 : World} (h : PairN w b1 o1 b2 o2 x w1) (hb : Below w1.heap.size w1 w2) : PairN w b1 o1 b2 o2 x w2 := ⟨h.1.below h.2.2.1 hb, h.2.1.below h.2.2.2.1 hb, Nat.lt_of_lt_of_le h.2.2.1 hb.size, Nat.lt_of_lt_of_le h.2.2.2.1 hb.size, below_step h.2.2.2.2 (Nat.le_refl _) hb⟩
set_option maxRecDepth 100000 in
set_option maxHeartbeats 2000000 in
theorem eqY_same (a1 a2 : Option Addr) (c1 c2 : Nat) (l : List TY) (w : World) (h1 : RowY w a1 l) (h2 : RowY w a2 l) (hlen : l.length ≤ 1048576) :
    Calls Try.prog 51 #[.slice a1 l.length c1, .slice a2 l.length c2] w fun e w' => e = .returned (.bool true) ∧ Below w.heap.size w w' := by
  have H1 : Hid (RowY w a1 l) := h1
  have H2 : Hid (RowY w a2 l) := h2
  clear h1 h2
  generalize hL : l.length = len at *
  have HL : Hid (l.length = len) := hL
  clear hL
  go_enter Try.func51, Try.ntmps51
  go_wp2
  go_loopw [5] (fun i wr => ∃ k : Nat, k ≤ len ∧ i = .int .i64 k ∧ Below w.heap.size w wr) (fun i _ => len - (intOf i).toNat)
  case atStart => exact ⟨0, by omega, rfl, Below.refl _ _⟩
  case round =>
    obtain ⟨k, hk, rfl, hbl⟩ := hrel
    by_cases hlt : k < len
    · obtain ⟨b1, o1, rfl, hlb1, hc1⟩ := (H1.out.below hbl) k (by rw [HL.out]; exact hlt)
      obtain ⟨b2, o2, rfl, hlb2, hc2⟩ := (H2.out.below hbl) k (by rw [HL.out]; exact hlt)
      generalize nthY l k = x at *
      have hP : PairN w b1 (o1 + k * 2) b2 (o2 + k * 2) x wr.drew := ⟨hc1, hc2, hlb1, hlb2, hbl.drew⟩
      have hltI : (k : Int) < (len : Int) := by omega
      clear hc1 hc2
      obtain ⟨kx, vx⟩ := x
      go_wp2_with fail
      go_region_held3 (PairN w b1 (o1 + k * 2) b2 (o2 + k * 2) (kx, vx)) (first | exact hP | exact PairN.keep (by assumption) hb) (first | (go_at_call 95; refine (eqY1_same (kx, vx) _).mono ?_; rintro e wA ⟨rfl, hb⟩) | fail)
      rename_i hPL
      have hB := hPL.2.2.2.2
      clear hP hPL
      go_wp2
      go_roundw
      case rel => exact ⟨k + 1, by omega, by go_num, hB⟩
      case measure => simp [intOf]; omega
    · go_wp2
      go_ret
      exact ⟨rfl, hbl⟩
theorem eqY_own {w : World} {B B' : Nat} {v v' : Value} {l : List TY} (h : OwnY w B v l) (h' : OwnY w B' v' l) (hl : l.length ≤ 1048576) : Calls Try.prog 51 #[v, v'] w fun r w' => r = .returned (.bool true) ∧ Below w.heap.size w w' := by
  obtain ⟨a, c, rfl, r⟩ := h.row
  obtain ⟨a', c', rfl, r'⟩ := h'.row
  exact eqY_same a a' c c' l w r r' hl
end Go.Proofs.Ytlcgmifibekegaa
