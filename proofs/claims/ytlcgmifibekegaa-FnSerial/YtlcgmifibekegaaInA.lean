/- Lists of numbers: read, copied, compared, marked, made (stage 8). -/
import Derived.Test.YtlcgmifibekegaaBase
import Derived.Laws.CopyOwn
namespace Go.Proofs.Ytlcgmifibekegaa
open Go.RowKit Go.Maps Go.WideShapes Go.ChangeMaps Go.MapKept

def nthI (ss : List Int) (i : Nat) : Int := ss.getD i 0
theorem nthI_get {ss : List Int} {k : Nat} (hk : k < ss.length) : nthI ss k = ss[k] := by
  unfold nthI; rw [List.getD_eq_getElem?_getD, List.getElem?_eq_getElem hk]; rfl
theorem set_other {w : World} {p : Addr} {g : Nat} (v : Value) (h : p.block ≠ g) : (w.setCell p v).heap[g]? = w.heap[g]? := by
  simp [World.setCell, Array.getElem?_modify, h]
theorem all_step' {P : Nat → Prop} {k : Nat} (h : ∀ j, j < k → P j) (hk : P k) : ∀ j, j < k + 1 → P j := fun j hj => by
  by_cases e : j = k
  · subst e; exact hk
  · exact h j (by omega)
/-- The numbers ss can be read at a. -/
def RowI (w : World) (a : Option Addr) (ss : List Int) : Prop :=
  ∀ i, i < ss.length → ∃ b off, a = some ⟨b, off, none⟩ ∧ b < w.heap.size ∧ w.cell? ⟨b, off + i, none⟩ = some (.int .i64 (nthI ss i))
theorem RowI.belowB {w w' : World} {a : Option Addr} {ss : List Int} (h : RowI w a ss) (hb : Below w.heap.size w w') : RowI w' a ss := fun i hi => by
  obtain ⟨b, off, e, hlt, hc⟩ := h i hi
  exact ⟨b, off, e, Nat.lt_of_lt_of_le hlt hb.size, (hb.cell (p := ⟨b, off + i, none⟩) hlt).trans hc⟩
theorem RowI.below {w w' : World} {a : Option Addr} {ss : List Int} (h : RowI w a ss) (hb : Below w.heap.size w w') : RowI w' a ss := h.belowB hb
theorem info3 : (Try.prog.info? 3).map (fun i => (i.zero, i.size, i.bytes)) = some (some (.int .i64 0), 1, 8) := by kernel_rfl
/-- A block of the call's own of n numbers, of which the first k are those of ss. -/
def SlabI (w : World) (g n : Nat) (ss : List Int) (k : Nat) : Prop :=
  ∃ cur, w.heap[g]? = some (.cells cur 3 (0, 0)) ∧ cur.size = n ∧ ∀ i, i < k → cur[i]? = some (.int .i64 (nthI ss i))
theorem SlabI.below {w w' : World} {g n k B : Nat} {ss : List Int} (h : SlabI w g n ss k) (hb : Below B w w') (hg : g < B) : SlabI w' g n ss k := by
  obtain ⟨cur, hh, r⟩ := h
  exact ⟨cur, (hb.block g hg).trans hh, r⟩
theorem SlabI.lt {w : World} {g n k : Nat} {ss : List Int} (h : SlabI w g n ss k) : g < w.heap.size := by
  obtain ⟨cur, hh, _⟩ := h
  exact slab_lt hh
theorem SlabI.step {w : World} {g n k : Nat} {ss : List Int} (h : SlabI w g n ss k) (hk : k < n) : SlabI (w.setCell ⟨g, k, none⟩ (.int .i64 (nthI ss k))) g n ss (k + 1) := by
  obtain ⟨cur, hh, hs, hc⟩ := h
  refine ⟨_, slab_set hh _, by simpa using hs, fun i hi => ?_⟩
  by_cases e : i = k
  · subst e
    rw [Array.getElem?_setIfInBounds_self_of_lt (by omega)]
  · rw [Array.getElem?_setIfInBounds_ne (by omega)]; exact hc i (by omega)
theorem SlabI.there {w : World} {g n k j : Nat} {ss : List Int} (h : SlabI w g n ss k) (hj : j < n) : ∃ v, w.cell? ⟨g, j, none⟩ = some v := by
  obtain ⟨cur, hh, hs, _⟩ := h
  exact ⟨cur[j]'(by omega), by rw [slab_cell hh]; exact Array.getElem?_eq_getElem _⟩
theorem SlabI.free {w : World} {g n k : Nat} {ss : List Int} (h : SlabI w g n ss k) (o : Nat) : w.frozen? ⟨g, o, none⟩ = false := by
  obtain ⟨cur, hh, _⟩ := h
  exact slab_free hh
theorem SlabI.row {w : World} {g : Nat} {ss : List Int} (h : SlabI w g ss.length ss ss.length) : RowI w (some ⟨g, 0, none⟩) ss := fun i hi => by
  have hl := h.lt
  obtain ⟨cur, hh, _, hc⟩ := h
  exact ⟨g, 0, rfl, hl, by rw [slab_cell hh, Nat.zero_add]; exact hc i hi⟩
set_option maxHeartbeats 1000000 in
theorem toI_any (a : Option Addr) (cap : Nat) (ss : List Int) (w : World) (hrow : RowI w a ss) (hlen : ss.length ≤ 1048576) :
    Calls Try.prog 47 #[.slice a ss.length cap] w fun e w' => ∃ g, e = .returned (.slice (some ⟨g, 0, none⟩) ss.length ss.length) ∧ w.heap.size ≤ g ∧ SlabI w' g ss.length ss ss.length ∧ Below w.heap.size w w' := by
  have HR : Hid (RowI w a ss) := hrow
  clear hrow
  generalize hL : ss.length = len at *
  have HL : Hid (ss.length = len) := hL
  clear hL
  obtain ⟨i0, hi, hz0, hz1, hz2⟩ := info_parts info3
  go_enter Try.func47, Try.ntmps47
  go_wp2_with (at_make; refine wpList_make_full _ rfl _ _ 25 rfl w.heap.size 3 i0 _ 1 Try.underlying25 hi hz0 hz1 .i64 .i64 _ _ len rfl rfl rfl rfl ?m1 ?m2 (Nat.le_refl _) ?_)
  case m1 => rw [hz2]; omega
  case m2 => unfold maxLen; omega
  intro w1 hown hgr
  have hB1 : Below w.heap.size w w1 := (Below.refl _ _).grown hgr (Nat.le_refl _) (fun k hk => by cases hk)
  have hS : SlabI w1 w.heap.size len ss 0 := by
    rcases hown.2 with ⟨h, _⟩ | ⟨g, c, cur, h, _, hh, _, _, hcs, _⟩
    · cases h
    · cases h
      exact ⟨cur, hh, by simpa using hcs, fun i hi => by omega⟩
  clear hown hgr hi hz0 hz1 hz2
  go_wp2
  go_loopw [4] (fun i wr => ∃ k : Nat, k ≤ len ∧ i = .int .i64 k ∧ SlabI wr w.heap.size len ss k ∧ Below w.heap.size w wr) (fun i _ => len - (intOf i).toNat)
  case atStart => exact ⟨0, by omega, rfl, hS, hB1⟩
  case round =>
    obtain ⟨k, hk, rfl, hSk, hbl⟩ := hrel
    by_cases hlt : k < len
    · obtain ⟨b, off, rfl, hlb, hc0⟩ := (HR.out.below hbl) k (by rw [HL.out]; exact hlt)
      obtain ⟨v0, hv0⟩ := hSk.there (j := k) (by omega)
      have hf := hSk.free
      have HN : Hid (SlabI _ _ _ _ (k + 1)) := hSk.step hlt
      clear hlb hSk hS hB1
      go_wp2
      go_roundw
      case rel => exact ⟨k + 1, by omega, by go_num, HN.out, hbl.setCell (p := ⟨w.heap.size, k, none⟩) (Nat.le_refl _) _⟩
      case measure => simp [intOf]; omega
    · obtain rfl : k = len := by omega
      go_wp2
      go_ret
      exact ⟨_, rfl, Nat.le_refl _, hSk, hbl⟩
set_option maxHeartbeats 1000000 in
theorem eqI_same (a1 a2 : Option Addr) (c1 c2 : Nat) (ss : List Int) (w : World) (h1 : RowI w a1 ss) (h2 : RowI w a2 ss) (hlen : ss.length ≤ 1048576) :
    Calls Try.prog 39 #[.slice a1 ss.length c1, .slice a2 ss.length c2] w fun e w' => e = .returned (.bool true) ∧ Below w.heap.size w w' := by
  have H1 : Hid (RowI w a1 ss) := h1
  have H2 : Hid (RowI w a2 ss) := h2
  clear h1 h2
  generalize hL : ss.length = len at *
  have HL : Hid (ss.length = len) := hL
  clear hL
  go_enter Try.func39, Try.ntmps39
  go_wp2
  go_loopw [5] (fun i wr => ∃ k : Nat, k ≤ len ∧ i = .int .i64 k ∧ Below w.heap.size w wr) (fun i _ => len - (intOf i).toNat)
  case atStart => exact ⟨0, by omega, rfl, Below.refl _ _⟩
  case round =>
    obtain ⟨k, hk, rfl, hbl⟩ := hrel
    by_cases hlt : k < len
    · obtain ⟨b1, o1, rfl, hlb1, hc1⟩ := (H1.out.below hbl) k (by rw [HL.out]; exact hlt)
      obtain ⟨b2, o2, rfl, hlb2, hc2⟩ := (H2.out.below hbl) k (by rw [HL.out]; exact hlt)
      go_wp2_with fail
      go_quiet (fail)
      go_wp2
      go_roundw
      case rel => exact ⟨k + 1, by omega, by go_num, below_drewN hbl _⟩
      case measure => simp [intOf]; omega
    · go_wp2
      go_ret
      exact ⟨rfl, hbl⟩
/-- All blocks but those of S stand. -/
structure Kept (S : Nat → Prop) (w w' : World) : Prop where
  os : w'.os = w.os
  tape : w'.tape = w.tape
  output : w'.output = w.output
  size : w.heap.size ≤ w'.heap.size
  block : ∀ k, k < w.heap.size → ¬ S k → w'.heap[k]? = w.heap[k]?
theorem Kept.refl (S : Nat → Prop) (w : World) : Kept S w w := ⟨rfl, rfl, rfl, Nat.le_refl _, fun _ _ _ => rfl⟩
theorem Kept.trans {S : Nat → Prop} {w w1 w2 : World} (h : Kept S w w1) (h' : Kept S w1 w2) : Kept S w w2 :=
  ⟨h'.os.trans h.os, h'.tape.trans h.tape, h'.output.trans h.output, Nat.le_trans h.size h'.size, fun k hk hS => (h'.block k (Nat.lt_of_lt_of_le hk h.size) hS).trans (h.block k hk hS)⟩
theorem Kept.mono {S S' : Nat → Prop} {w w1 : World} (h : Kept S w w1) (hS : ∀ k, S k → S' k) : Kept S' w w1 := ⟨h.os, h.tape, h.output, h.size, fun k hk hn => h.block k hk fun h' => hn (hS k h')⟩
theorem Kept.of_below {S : Nat → Prop} {w w1 : World} (h : Below w.heap.size w w1) : Kept S w w1 := ⟨h.os, h.tape, h.output, h.size, fun k hk _ => h.block k hk⟩
theorem Kept.below {S : Nat → Prop} {B : Nat} {w w1 : World} (h : Kept S w w1) (hB : B ≤ w.heap.size) (hS : ∀ k, S k → B ≤ k) : Below B w w1 :=
  ⟨h.os, h.tape, h.output, h.size, fun k hk => h.block k (by omega) fun h' => by have := hS k h'; omega⟩
theorem Kept.alloc {S : Nat → Prop} {w w1 : World} (h : Kept S w w1) (o : Obj) : Kept S w (w1.alloc o) := h.trans (Kept.of_below ((Below.refl _ _).alloc (Nat.le_refl _) _))
theorem Kept.set {S : Nat → Prop} {w w1 : World} {g o : Nat} (h : Kept S w w1) (v : Value) (hg : S g) : Kept S w (w1.setCell ⟨g, o, none⟩ v) :=
  h.trans ⟨rfl, rfl, rfl, by simp [World.setCell], fun k _ hk => set_other v (fun e => hk (e ▸ hg))⟩
/-- The numbers from k on, n of them. -/
def marksL (k : Int) (n : Nat) : List Int := (List.range n).map (fun i : Nat => k + (i : Int))
theorem marksL_len (k : Int) (n : Nat) : (marksL k n).length = n := by simp [marksL]
theorem marksL_nth (k : Int) (n i : Nat) (h : i < n) : nthI (marksL k n) i = k + i := by
  rw [nthI_get (by rw [marksL_len]; exact h)]
  simp [marksL]
set_option maxRecDepth 100000 in
set_option maxHeartbeats 1000000 in
theorem markI_slab (g n c N : Nat) (cur0 : Array Value) (k : Int) (w : World) (hh : w.heap[g]? = some (.cells cur0 3 (0, 0))) (hN : cur0.size = N) (hn : n ≤ N) (k0 : 0 ≤ k) (k1 : k ≤ 1000000000) (hn2 : n ≤ 1048576) :
    Calls Try.prog 41 #[.slice (some ⟨g, 0, none⟩) n c, .int .i64 k] w fun r w' => r = .returned (.int .i64 (k + n)) ∧ (∃ cur, w'.heap[g]? = some (.cells cur 3 (0, 0)) ∧ cur.size = N ∧ ∀ i, i < n → cur[i]? = some (.int .i64 (k + i))) ∧ Kept (fun j => j = g) w w' := by
  have HH : Hid (w.heap[g]? = some (.cells cur0 3 (0, 0))) := hh
  have HN : Hid (cur0.size = N) := hN
  clear hh hN
  go_enter Try.func41, Try.ntmps41
  go_wp2
  go_loopw [1, 5] (fun m i wr => ∃ j : Nat, j ≤ n ∧ i = .int .i64 j ∧ m = .int .i64 (k + j) ∧ (∃ cur, wr.heap[g]? = some (.cells cur 3 (0, 0)) ∧ cur.size = N ∧ ∀ i, i < j → cur[i]? = some (.int .i64 (k + i))) ∧ Kept (fun j => j = g) w wr) (fun _ i _ => n - (intOf i).toNat)
  case atStart => exact ⟨0, by omega, rfl, by simp, ⟨cur0, HH.out, HN.out, fun i hi => by omega⟩, Kept.refl _ _⟩
  case round =>
    obtain ⟨j, hj, rfl, rfl, ⟨cur, hc, hs, hv⟩, hK⟩ := hrel
    have HC : Hid (wr.heap[g]? = some (.cells cur 3 (0, 0)) ∧ cur.size = N ∧ ∀ i, i < j → cur[i]? = some (.int .i64 (k + i))) := ⟨hc, hs, hv⟩
    clear hc hs hv
    by_cases hlt : j < n
    · obtain ⟨v0, hv0⟩ : ∃ v, wr.cell? ⟨g, j, none⟩ = some v := ⟨cur[j]'(by have := HC.out.2.1; omega), by rw [slab_cell HC.out.1]; exact Array.getElem?_eq_getElem _⟩
      have hf : wr.frozen? ⟨g, j, none⟩ = false := slab_free HC.out.1
      have HNx : Hid (∃ cur', (wr.setCell ⟨g, j, none⟩ (.int .i64 (k + j))).heap[g]? = some (.cells cur' 3 (0, 0)) ∧ cur'.size = N ∧ ∀ i, i < j + 1 → cur'[i]? = some (.int .i64 (k + i))) := by
        refine ⟨_, slab_set HC.out.1 _, by simpa using HC.out.2.1, fun i hi => ?_⟩
        by_cases e : i = j
        · subst e
          rw [Array.getElem?_setIfInBounds_self_of_lt (by have := HC.out.2.1; omega)]
        · rw [Array.getElem?_setIfInBounds_ne (by omega)]; exact HC.out.2.2 i (by omega)
      go_wp2
      go_roundw
      case rel => exact ⟨j + 1, by omega, by go_num, by go_num, HNx.out, hK.set _ rfl⟩
      case measure => simp [intOf]; omega
    · obtain rfl : j = n := by omega
      go_wp2
      go_ret
      exact ⟨rfl, ⟨cur, HC.out⟩, hK⟩
set_option maxRecDepth 100000 in
set_option maxHeartbeats 1000000 in
theorem heldI_marks (a : Option Addr) (n c : Nat) (k : Int) (w : World) (h : RowI w a (marksL k n)) (k0 : 0 ≤ k) (k1 : k ≤ 1000000000) (hn : n ≤ 1048576) :
    Calls Try.prog 42 #[.slice a n c, .int .i64 k] w fun r w' => r = .returned (.int .i64 (k + n)) ∧ w' = w := by
  have H : Hid (RowI w a (marksL k n)) := h
  clear h
  go_enter Try.func42, Try.ntmps42
  go_wp2
  go_loop [1, 5] (fun m i => ∃ j : Nat, j ≤ n ∧ i = .int .i64 j ∧ m = .int .i64 (k + j)) (fun _ i => n - (intOf i).toNat)
  case atStart => exact ⟨0, by omega, rfl, by simp⟩
  case round =>
    obtain ⟨j, hj, rfl, rfl⟩ := hrel
    by_cases hlt : j < n
    · obtain ⟨b, off, rfl, hlb, hc⟩ := H.out j (by rw [marksL_len]; exact hlt)
      rw [marksL_nth k n j hlt] at hc
      go_wp2
      go_round
      case rel => exact ⟨j + 1, by omega, by go_num, by go_num⟩
      case measure => simp [intOf]; omega
    · obtain rfl : j = n := by omega
      go_wp2
      go_ret
      exact ⟨rfl, rfl⟩
theorem markI_nil (a : Option Addr) (c : Nat) (k : Int) (w : World) : Calls Try.prog 41 #[.slice a 0 c, .int .i64 k] w fun e w' => e = .returned (.int .i64 k) ∧ w' = w := by
  go_enter Try.func41, Try.ntmps41
  go_wp2
  refine wp_loop_rounds 1 ?_
  rw [rounds_succ]
  go_wp2
  go_ret
  exact ⟨rfl, rfl⟩
theorem SlabI.kept {S : Nat → Prop} {w w' : World} {g n k : Nat} {ss : List Int} (h : SlabI w g n ss k) (hK : Kept S w w') (hS : ¬ S g) : SlabI w' g n ss k := by
  have hl := h.lt
  obtain ⟨cur, hh, r⟩ := h
  exact ⟨cur, (hK.block g hl hS).trans hh, r⟩
/-- The slice v owns the numbers l. -/
abbrev OwnI (w : World) (B : Nat) (v : Value) (l : List Int) : Prop := w.ownsRow B 3 1 v l.length (l.map (Value.int .i64))
theorem OwnI.nil (w : World) (B : Nat) : OwnI w B (.slice none 0 0) [] := ⟨rfl, .inl ⟨rfl, rfl⟩⟩
theorem OwnI.made (w : World) (B : Nat) (hB : B ≤ w.heap.size) : OwnI (w.alloc (.cells #[] 3)) B (.slice (some ⟨w.heap.size, 0, none⟩) 0 0) [] :=
  ⟨rfl, .inr ⟨w.heap.size, 0, #[], rfl, hB, heap_new' _ _ _ rfl, Nat.le_refl _, Nat.zero_le _, rfl, rfl⟩⟩
theorem OwnI.block {w w' : World} {B : Nat} {v : Value} {l : List Int} (h : OwnI w B v l) (hb : ∀ g, g < w.heap.size → B ≤ g → w'.heap[g]? = w.heap[g]?) : OwnI w' B v l := by
  refine ⟨h.1, h.2.imp id ?_⟩
  rintro ⟨g, cap, cur, e, hB, hh, r⟩
  exact ⟨g, cap, cur, e, hB, (hb g (slab_lt hh) hB).trans hh, r⟩
theorem OwnI.below {w w' : World} {B : Nat} {v : Value} {l : List Int} (h : OwnI w B v l) (hb : Below w.heap.size w w') : OwnI w' B v l := h.block fun g hg _ => hb.block g hg
theorem OwnI.alloc {w : World} {B : Nat} {v : Value} {l : List Int} (h : OwnI w B v l) (o : Obj) : OwnI (w.alloc o) B v l := h.block fun _ hg _ => heap_old _ _ _ hg
theorem own_below {B : Nat} {w u u' : World} {v : Value} {l : List Int} (h : Below B w u) (hB : B ≤ u.heap.size) (ho : OwnI u B v l) (hg : u.grownBy u' v.ownBlock) : Below B w u' :=
  h.grown hg hB (fun k hk => by
    rcases ho.2 with ⟨rfl, _⟩ | ⟨g, cap, cur, rfl, hBg, _⟩
    · cases hk
    · cases hk; exact hBg)
theorem OwnI.snoc {w : World} {B : Nat} {v : Value} {l : List Int} {x : Int} (h : w.ownsRow B 3 1 v (l.length + 1) (l.map (Value.int .i64) ++ [.int .i64 x])) : OwnI w B v (l ++ [x]) := by
  show w.ownsRow B 3 1 v (l ++ [x]).length ((l ++ [x]).map (Value.int .i64))
  rw [List.length_append, List.map_append]
  exact h
theorem OwnI.row {w : World} {B : Nat} {v : Value} {l : List Int} (h : OwnI w B v l) : ∃ a cap, v = .slice a l.length cap ∧ RowI w a l ∧ (∀ ad, a = some ad → B ≤ ad.block) := by
  rcases h.2 with ⟨rfl, hn⟩ | ⟨g, cap, cur, rfl, hB, hh, hc, hm, hs, ht⟩
  · exact ⟨none, 0, by rw [hn], fun i hi => by omega, fun ad e => by cases e⟩
  · refine ⟨_, cap, rfl, fun i hi => ⟨g, 0, rfl, slab_lt hh, ?_⟩, fun ad e => by cases e; exact hB⟩
    rw [slab_cell hh, Nat.zero_add]
    have := congrArg (fun q => q[i]?) ht
    simp only [Nat.mul_one] at this
    rw [List.getElem?_take_of_lt hi, List.getElem?_map, List.getElem?_eq_getElem hi] at this
    rw [← Array.getElem?_toList, this, nthI_get hi]
    rfl
theorem OwnI.blk {w : World} {B : Nat} {v : Value} {l : List Int} (h : OwnI w B v l) {j : Nat} (hj : v.ownBlock = some j) : B ≤ j ∧ j < w.heap.size := by
  rcases h.2 with ⟨rfl, _⟩ | ⟨g, cap, cur, rfl, hB, hh, _⟩
  · cases hj
  · cases hj; exact ⟨hB, slab_lt hh⟩
theorem OwnI.kept {S : Nat → Prop} {w w' : World} {B : Nat} {v : Value} {l : List Int} (h : OwnI w B v l) (hK : Kept S w w') (hS : ∀ j, v.ownBlock = some j → ¬ S j) : OwnI w' B v l := by
  refine ⟨h.1, ?_⟩
  rcases h.2 with h' | ⟨g, cap, cur, rfl, hB, hh, r⟩
  · exact .inl h'
  · exact .inr ⟨g, cap, cur, rfl, hB, (hK.block g (slab_lt hh) (hS g rfl)).trans hh, r⟩
theorem markI_ownK {w : World} {B : Nat} {v : Value} {l : List Int} (h : OwnI w B v l) (hl : l.length ≤ 1048576) (k : Int) (k0 : 0 ≤ k) (k1 : k ≤ 1000000000) :
    Calls Try.prog 41 #[v, .int .i64 k] w fun r w' => r = .returned (.int .i64 (k + l.length)) ∧ OwnI w' B v (marksL k l.length) ∧ Kept (fun j => v.ownBlock = some j) w w' := by
  rcases h.2 with ⟨rfl, hn⟩ | ⟨g, cap, cur, rfl, hB, hh, hc, hm, hs, ht⟩
  · rw [hn]
    refine (markI_nil none 0 k w).mono ?_
    rintro r w' ⟨rfl, rfl⟩
    exact ⟨by simp, ⟨rfl, .inl ⟨rfl, rfl⟩⟩, Kept.refl _ _⟩
  · refine (markI_slab g l.length cap (cap * 1) cur k w hh hs (by omega) k0 k1 hl).mono ?_
    rintro r w' ⟨rfl, ⟨cur', hh', hs', hv⟩, hK⟩
    refine ⟨rfl, ⟨by simp [marksL], .inr ⟨g, cap, cur', by rw [marksL_len], hB, hh', by rw [marksL_len]; exact hc, hm, hs', ?_⟩⟩, hK.mono fun j hj => by rw [hj]; rfl⟩
    rw [marksL_len]
    apply List.ext_getElem?
    intro i
    by_cases hi : i < l.length
    · rw [List.getElem?_take_of_lt (by omega), Array.getElem?_toList, hv i hi, List.getElem?_map, List.getElem?_eq_getElem (by rw [marksL_len]; exact hi)]
      simp [marksL]
    · rw [List.getElem?_eq_none (by rw [List.length_take]; omega), List.getElem?_eq_none (by rw [List.length_map, marksL_len]; omega)]
theorem heldI_ownK {w : World} {B : Nat} {v : Value} {n : Nat} {k : Int} (h : OwnI w B v (marksL k n)) (k0 : 0 ≤ k) (k1 : k ≤ 1000000000) (hn : n ≤ 1048576) : Calls Try.prog 42 #[v, .int .i64 k] w fun r w' => r = .returned (.int .i64 (k + n)) ∧ w' = w := by
  obtain ⟨a, c, rfl, r, _⟩ := h.row
  rw [marksL_len]
  exact heldI_marks a n c k w r k0 k1 hn
theorem any_false_of {ss : List Int} {p : Int} (h : ∀ j, j < ss.length → nthI ss j ≠ p) : ss.any (fun x => x == p) = false := by
  rw [List.any_eq_false]
  intro x hx
  obtain ⟨i, hi, rfl⟩ := List.getElem_of_mem hx
  have := h i hi
  rw [nthI_get hi] at this
  simpa using this
theorem any_true_of {ss : List Int} {p : Int} {k : Nat} (hk : k < ss.length) (h : nthI ss k = p) : ss.any (fun x => x == p) = true := by
  rw [List.any_eq_true]
  exact ⟨ss[k], List.getElem_mem hk, by rw [← nthI_get hk]; simpa using h⟩
set_option maxRecDepth 100000 in
theorem l03Has_any (a : Option Addr) (c : Nat) (ss : List Int) (p : Int) (w : World) (h : RowI w a ss) (hl : ss.length ≤ 1048576) :
    Calls Try.prog 76 #[.slice a ss.length c, .int .i64 p] w fun r w' => r = .returned (.bool (ss.any (fun x => x == p))) ∧ w' = w := by
  have H : Hid (RowI w a ss) := h
  clear h
  obtain ⟨x, hx⟩ : ∃ x, ss.length = x := ⟨_, rfl⟩
  have HX : Hid (ss.length = x) := hx
  rw [hx] at hl ⊢
  clear hx
  go_enter Try.func76, Try.ntmps76
  go_wp2
  go_loop [5] (fun i => ∃ k : Nat, k ≤ x ∧ i = .int .i64 k ∧ ∀ j, j < k → nthI ss j ≠ p) (fun i => x - (intOf i).toNat)
  case atStart => exact ⟨0, by omega, rfl, fun j hj => by omega⟩
  case round =>
    obtain ⟨k, hk, rfl, hA⟩ := hrel
    have HA : Hid (∀ j, j < k → nthI ss j ≠ p) := hA
    clear hA
    by_cases hlt : k < x
    · obtain ⟨b, off, rfl, hlb, hc⟩ := H.out k (by rw [HX.out]; exact hlt)
      obtain ⟨u, hu⟩ : ∃ u, nthI ss k = u := ⟨_, rfl⟩
      have HU : Hid (nthI ss k = u) := hu
      rw [hu] at hc
      clear hu
      by_cases q : u = p
      · go_wp2
        go_ret
        exact ⟨ret_bool' (any_true_of (k := k) (by rw [HX.out]; exact hlt) (HU.out.trans q)).symm, rfl⟩
      go_wp2
      go_round
      case rel => exact ⟨k + 1, by omega, by go_num, all_step' (P := fun j => nthI ss j ≠ p) HA.out (by rw [HU.out]; exact q)⟩
      case measure => simp [intOf]; omega
    · obtain rfl : k = x := by omega
      go_wp2
      go_ret
      exact ⟨ret_bool' (any_false_of (by rw [HX.out]; exact HA.out)).symm, rfl⟩
theorem own_mono {w : World} {B B' e m n : Nat} {v : Value} {xs : List Value} (h : w.ownsRow B' e m v n xs) (hB : B ≤ B') : w.ownsRow B e m v n xs := by
  refine ⟨h.1, ?_⟩
  rcases h.2 with h | ⟨g, cap, cur, e1, e2, r⟩
  · exact .inl h
  · exact .inr ⟨g, cap, cur, e1, Nat.le_trans hB e2, r⟩
theorem eqI_ownK {w : World} {B B' : Nat} {v v' : Value} {l : List Int} (h : OwnI w B v l) (h' : OwnI w B' v' l) (hl : l.length ≤ 1048576) : Calls Try.prog 39 #[v, v'] w fun r w' => r = .returned (.bool true) ∧ Below w.heap.size w w' := by
  obtain ⟨a, c, rfl, r, _⟩ := h.row
  obtain ⟨a', c', rfl, r', _⟩ := h'.row
  exact eqI_same a a' c c' l w r r' hl
end Go.Proofs.Ytlcgmifibekegaa
