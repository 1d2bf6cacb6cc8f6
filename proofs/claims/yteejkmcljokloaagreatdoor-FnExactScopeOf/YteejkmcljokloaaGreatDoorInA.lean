/- Lists of numbers: read, copied, compared, made; a statement as an answer (stage 11). -/
import Derived.Test.YteejkmcljokloaaGreatDoorBase
import Derived.Laws.CopyOwn
namespace Go.Proofs.YteejkmcljokloaaGreatDoor
open Go.RowKit Go.Maps Go.WideShapes Go.ChangeMaps Go.MapKept

def nthI (ss : List Int) (i : Nat) : Int := ss.getD i 0
theorem nthI_get {ss : List Int} {k : Nat} (hk : k < ss.length) : nthI ss k = ss[k] := by
  unfold nthI; rw [List.getD_eq_getElem?_getD, List.getElem?_eq_getElem hk]; rfl
theorem set_other {w : World} {p : Addr} {g : Nat} (v : Value) (h : p.block ≠ g) : (w.setCell p v).heap[g]? = w.heap[g]? := by
  simp [World.setCell, Array.getElem?_modify, h]
theorem all_step' {P : Nat → Prop} {k : Nat} (h : ∀ j, j < k → P j) (hk : P k) : ∀ j, j < k + 1 → P j := fun j hj => by
  by_cases e : j = k
  · subst e; exact hk
  · exact h j (by omega)
/-- The numbers ss can be read at a. -/
def RowI (w : World) (a : Option Addr) (ss : List Int) : Prop :=
  ∀ i, i < ss.length → ∃ b off, a = some ⟨b, off, none⟩ ∧ b < w.heap.size ∧ w.cell? ⟨b, off + i, none⟩ = some (.int .i64 (nthI ss i))
theorem RowI.belowB {w w' : World} {a : Option Addr} {ss : List Int} (h : RowI w a ss) (hb : Below w.heap.size w w') : RowI w' a ss := fun i hi => by
  obtain ⟨b, off, e, hlt, hc⟩ := h i hi
  exact ⟨b, off, e, Nat.lt_of_lt_of_le hlt hb.size, (hb.cell (p := ⟨b, off + i, none⟩) hlt).trans hc⟩
theorem RowI.below {w w' : World} {a : Option Addr} {ss : List Int} (h : RowI w a ss) (hb : Below w.heap.size w w') : RowI w' a ss := h.belowB hb
theorem info3 : (Tryz.prog.info? 3).map (fun i => (i.zero, i.size, i.bytes)) = some (some (.int .i64 0), 1, 8) := by kernel_rfl
/-- A block of the call's own of n numbers, of which the first k are those of ss. -/
def SlabI (w : World) (g n : Nat) (ss : List Int) (k : Nat) : Prop :=
  ∃ cur, w.heap[g]? = some (.cells cur 3 (0, 0)) ∧ cur.size = n ∧ ∀ i, i < k → cur[i]? = some (.int .i64 (nthI ss i))
theorem SlabI.below {w w' : World} {g n k B : Nat} {ss : List Int} (h : SlabI w g n ss k) (hb : Below B w w') (hg : g < B) : SlabI w' g n ss k := by
  obtain ⟨cur, hh, r⟩ := h
  exact ⟨cur, (hb.block g hg).trans hh, r⟩
theorem SlabI.lt {w : World} {g n k : Nat} {ss : List Int} (h : SlabI w g n ss k) : g < w.heap.size := by
  obtain ⟨cur, hh, _⟩ := h
  exact slab_lt hh
theorem SlabI.step {w : World} {g n k : Nat} {ss : List Int} (h : SlabI w g n ss k) (hk : k < n) : SlabI (w.setCell ⟨g, k, none⟩ (.int .i64 (nthI ss k))) g n ss (k + 1) := by
  obtain ⟨cur, hh, hs, hc⟩ := h
  refine ⟨_, slab_set hh _, by simpa using hs, fun i hi => ?_⟩
  by_cases e : i = k
  · subst e
    rw [Array.getElem?_setIfInBounds_self_of_lt (by omega)]
  · rw [Array.getElem?_setIfInBounds_ne (by omega)]; exact hc i (by omega)
theorem SlabI.there {w : World} {g n k j : Nat} {ss : List Int} (h : SlabI w g n ss k) (hj : j < n) : ∃ v, w.cell? ⟨g, j, none⟩ = some v := by
  obtain ⟨cur, hh, hs, _⟩ := h
  exact ⟨cur[j]'(by omega), by rw [slab_cell hh]; exact Array.getElem?_eq_getElem _⟩
theorem SlabI.free {w : World} {g n k : Nat} {ss : List Int} (h : SlabI w g n ss k) (o : Nat) : w.frozen? ⟨g, o, none⟩ = false := by
  obtain ⟨cur, hh, _⟩ := h
  exact slab_free hh
theorem SlabI.row {w : World} {g : Nat} {ss : List Int} (h : SlabI w g ss.length ss ss.length) : RowI w (some ⟨g, 0, none⟩) ss := fun i hi => by
  have hl := h.lt
  obtain ⟨cur, hh, _, hc⟩ := h
  exact ⟨g, 0, rfl, hl, by rw [slab_cell hh, Nat.zero_add]; exact hc i hi⟩
set_option maxHeartbeats 1000000 in
theorem toI_any (a : Option Addr) (cap : Nat) (ss : List Int) (w : World) (hrow : RowI w a ss) (hlen : ss.length ≤ 1048576) :
    Calls Tryz.prog 90 #[.slice a ss.length cap] w fun e w' => ∃ g, e = .returned (.slice (some ⟨g, 0, none⟩) ss.length ss.length) ∧ w.heap.size ≤ g ∧ SlabI w' g ss.length ss ss.length ∧ Below w.heap.size w w' := by
  have HR : Hid (RowI w a ss) := hrow
  clear hrow
  generalize hL : ss.length = len at *
  have HL : Hid (ss.length = len) := hL
  clear hL
  obtain ⟨i0, hi, hz0, hz1, hz2⟩ := info_parts info3
  go_enter Tryz.func90, Tryz.ntmps90
  go_wp2_with (at_make; refine wpList_make_full _ rfl _ _ 102 rfl w.heap.size 3 i0 _ 1 Tryz.underlying102 hi hz0 hz1 .i64 .i64 _ _ len rfl rfl rfl rfl ?m1 ?m2 (Nat.le_refl _) ?_)
  case m1 => rw [hz2]; omega
  case m2 => unfold maxLen; omega
  intro w1 hown hgr
  have hB1 : Below w.heap.size w w1 := (Below.refl _ _).grown hgr (Nat.le_refl _) (fun k hk => by cases hk)
  have hS : SlabI w1 w.heap.size len ss 0 := by
    rcases hown.2 with ⟨h, _⟩ | ⟨g, c, cur, h, _, hh, _, _, hcs, _⟩
    · cases h
    · cases h
      exact ⟨cur, hh, by simpa using hcs, fun i hi => by omega⟩
  clear hown hgr hi hz0 hz1 hz2
  go_wp2
  go_loopw [4] (fun i wr => ∃ k : Nat, k ≤ len ∧ i = .int .i64 k ∧ SlabI wr w.heap.size len ss k ∧ Below w.heap.size w wr) (fun i _ => len - (intOf i).toNat)
  case atStart => exact ⟨0, by omega, rfl, hS, hB1⟩
  case round =>
    obtain ⟨k, hk, rfl, hSk, hbl⟩ := hrel
    by_cases hlt : k < len
    · obtain ⟨b, off, rfl, hlb, hc0⟩ := (HR.out.below hbl) k (by rw [HL.out]; exact hlt)
      obtain ⟨v0, hv0⟩ := hSk.there (j := k) (by omega)
      have hf := hSk.free
      have HN : Hid (SlabI _ _ _ _ (k + 1)) := hSk.step hlt
      clear hlb hSk hS hB1
      go_wp2
      go_roundw
      case rel => exact ⟨k + 1, by omega, by go_num, HN.out, hbl.setCell (p := ⟨w.heap.size, k, none⟩) (Nat.le_refl _) _⟩
      case measure => simp [intOf]; omega
    · obtain rfl : k = len := by omega
      go_wp2
      go_ret
      exact ⟨_, rfl, Nat.le_refl _, hSk, hbl⟩
set_option maxHeartbeats 1000000 in
theorem eqI_same (a1 a2 : Option Addr) (c1 c2 : Nat) (ss : List Int) (w : World) (h1 : RowI w a1 ss) (h2 : RowI w a2 ss) (hlen : ss.length ≤ 1048576) :
    Calls Tryz.prog 111 #[.slice a1 ss.length c1, .slice a2 ss.length c2] w fun e w' => e = .returned (.bool true) ∧ Below w.heap.size w w' := by
  have H1 : Hid (RowI w a1 ss) := h1
  have H2 : Hid (RowI w a2 ss) := h2
  clear h1 h2
  generalize hL : ss.length = len at *
  have HL : Hid (ss.length = len) := hL
  clear hL
  go_enter Tryz.func111, Tryz.ntmps111
  go_wp2
  go_loopw [5] (fun i wr => ∃ k : Nat, k ≤ len ∧ i = .int .i64 k ∧ Below w.heap.size w wr) (fun i _ => len - (intOf i).toNat)
  case atStart => exact ⟨0, by omega, rfl, Below.refl _ _⟩
  case round =>
    obtain ⟨k, hk, rfl, hbl⟩ := hrel
    by_cases hlt : k < len
    · obtain ⟨b1, o1, rfl, hlb1, hc1⟩ := (H1.out.below hbl) k (by rw [HL.out]; exact hlt)
      obtain ⟨b2, o2, rfl, hlb2, hc2⟩ := (H2.out.below hbl) k (by rw [HL.out]; exact hlt)
      go_wp2_with fail
      go_quiet (fail)
      go_wp2
      go_roundw
      case rel => exact ⟨k + 1, by omega, by go_num, below_drewN hbl _⟩
      case measure => simp [intOf]; omega
    · go_wp2
      go_ret
      exact ⟨rfl, hbl⟩
/-- The slice v owns the numbers l. -/
abbrev OwnI (w : World) (B : Nat) (v : Value) (l : List Int) : Prop := w.ownsRow B 3 1 v l.length (l.map (Value.int .i64))
theorem OwnI.nil (w : World) (B : Nat) : OwnI w B (.slice none 0 0) [] := ⟨rfl, .inl ⟨rfl, rfl⟩⟩
theorem OwnI.made (w : World) (B : Nat) (hB : B ≤ w.heap.size) : OwnI (w.alloc (.cells #[] 3)) B (.slice (some ⟨w.heap.size, 0, none⟩) 0 0) [] :=
  ⟨rfl, .inr ⟨w.heap.size, 0, #[], rfl, hB, heap_new' _ _ _ rfl, Nat.le_refl _, Nat.zero_le _, rfl, rfl⟩⟩
theorem OwnI.block {w w' : World} {B : Nat} {v : Value} {l : List Int} (h : OwnI w B v l) (hb : ∀ g, g < w.heap.size → B ≤ g → w'.heap[g]? = w.heap[g]?) : OwnI w' B v l := by
  refine ⟨h.1, h.2.imp id ?_⟩
  rintro ⟨g, cap, cur, e, hB, hh, r⟩
  exact ⟨g, cap, cur, e, hB, (hb g (slab_lt hh) hB).trans hh, r⟩
theorem OwnI.below {w w' : World} {B : Nat} {v : Value} {l : List Int} (h : OwnI w B v l) (hb : Below w.heap.size w w') : OwnI w' B v l := h.block fun g hg _ => hb.block g hg
theorem OwnI.alloc {w : World} {B : Nat} {v : Value} {l : List Int} (h : OwnI w B v l) (o : Obj) : OwnI (w.alloc o) B v l := h.block fun _ hg _ => heap_old _ _ _ hg
theorem own_below {B : Nat} {w u u' : World} {v : Value} {l : List Int} (h : Below B w u) (hB : B ≤ u.heap.size) (ho : OwnI u B v l) (hg : u.grownBy u' v.ownBlock) : Below B w u' :=
  h.grown hg hB (fun k hk => by
    rcases ho.2 with ⟨rfl, _⟩ | ⟨g, cap, cur, rfl, hBg, _⟩
    · cases hk
    · cases hk; exact hBg)
theorem OwnI.snoc {w : World} {B : Nat} {v : Value} {l : List Int} {x : Int} (h : w.ownsRow B 3 1 v (l.length + 1) (l.map (Value.int .i64) ++ [.int .i64 x])) : OwnI w B v (l ++ [x]) := by
  show w.ownsRow B 3 1 v (l ++ [x]).length ((l ++ [x]).map (Value.int .i64))
  rw [List.length_append, List.map_append]
  exact h
theorem OwnI.row {w : World} {B : Nat} {v : Value} {l : List Int} (h : OwnI w B v l) : ∃ a cap, v = .slice a l.length cap ∧ RowI w a l ∧ (∀ ad, a = some ad → B ≤ ad.block) := by
  rcases h.2 with ⟨rfl, hn⟩ | ⟨g, cap, cur, rfl, hB, hh, hc, hm, hs, ht⟩
  · exact ⟨none, 0, by rw [hn], fun i hi => by omega, fun ad e => by cases e⟩
  · refine ⟨_, cap, rfl, fun i hi => ⟨g, 0, rfl, slab_lt hh, ?_⟩, fun ad e => by cases e; exact hB⟩
    rw [slab_cell hh, Nat.zero_add]
    have := congrArg (fun q => q[i]?) ht
    simp only [Nat.mul_one] at this
    rw [List.getElem?_take_of_lt hi, List.getElem?_map, List.getElem?_eq_getElem hi] at this
    rw [← Array.getElem?_toList, this, nthI_get hi]
    rfl
theorem any_false_of {ss : List Int} {p : Int} (h : ∀ j, j < ss.length → nthI ss j ≠ p) : ss.any (fun x => x == p) = false := by
  rw [List.any_eq_false]
  intro x hx
  obtain ⟨i, hi, rfl⟩ := List.getElem_of_mem hx
  have := h i hi
  rw [nthI_get hi] at this
  simpa using this
theorem any_true_of {ss : List Int} {p : Int} {k : Nat} (hk : k < ss.length) (h : nthI ss k = p) : ss.any (fun x => x == p) = true := by
  rw [List.any_eq_true]
  exact ⟨ss[k], List.getElem_mem hk, by rw [← nthI_get hk]; simpa using h⟩
set_option maxRecDepth 100000 in
theorem l03Has_any (a : Option Addr) (c : Nat) (ss : List Int) (p : Int) (w : World) (h : RowI w a ss) (hl : ss.length ≤ 1048576) :
    Calls Tryz.prog 88 #[.slice a ss.length c, .int .i64 p] w fun r w' => r = .returned (.bool (ss.any (fun x => x == p))) ∧ w' = w := by
  have H : Hid (RowI w a ss) := h
  clear h
  obtain ⟨x, hx⟩ : ∃ x, ss.length = x := ⟨_, rfl⟩
  have HX : Hid (ss.length = x) := hx
  rw [hx] at hl ⊢
  clear hx
  go_enter Tryz.func88, Tryz.ntmps88
  go_wp2
  go_loop [5] (fun i => ∃ k : Nat, k ≤ x ∧ i = .int .i64 k ∧ ∀ j, j < k → nthI ss j ≠ p) (fun i => x - (intOf i).toNat)
  case atStart => exact ⟨0, by omega, rfl, fun j hj => by omega⟩
  case round =>
    obtain ⟨k, hk, rfl, hA⟩ := hrel
    have HA : Hid (∀ j, j < k → nthI ss j ≠ p) := hA
    clear hA
    by_cases hlt : k < x
    · obtain ⟨b, off, rfl, hlb, hc⟩ := H.out k (by rw [HX.out]; exact hlt)
      obtain ⟨u, hu⟩ : ∃ u, nthI ss k = u := ⟨_, rfl⟩
      have HU : Hid (nthI ss k = u) := hu
      rw [hu] at hc
      clear hu
      by_cases q : u = p
      · go_wp2
        go_ret
        exact ⟨ret_bool' (any_true_of (k := k) (by rw [HX.out]; exact hlt) (HU.out.trans q)).symm, rfl⟩
      go_wp2
      go_round
      case rel => exact ⟨k + 1, by omega, by go_num, all_step' (P := fun j => nthI ss j ≠ p) HA.out (by rw [HU.out]; exact q)⟩
      case measure => simp [intOf]; omega
    · obtain rfl : k = x := by omega
      go_wp2
      go_ret
      exact ⟨ret_bool' (any_false_of (by rw [HX.out]; exact HA.out)).symm, rfl⟩
theorem own_mono {w : World} {B B' e m n : Nat} {v : Value} {xs : List Value} (h : w.ownsRow B' e m v n xs) (hB : B ≤ B') : w.ownsRow B e m v n xs := by
  refine ⟨h.1, ?_⟩
  rcases h.2 with h | ⟨g, cap, cur, e1, e2, r⟩
  · exact .inl h
  · exact .inr ⟨g, cap, cur, e1, Nat.le_trans hB e2, r⟩
noncomputable def asB (p : Prop) : Bool := @decide p (Classical.propDecidable p)
theorem asB_true {p : Prop} (h : p) : true = asB p := by unfold asB; exact (@decide_eq_true _ (Classical.propDecidable _) h).symm
theorem asB_false {p : Prop} (h : ¬ p) : false = asB p := by unfold asB; exact (@decide_eq_false _ (Classical.propDecidable _) h).symm
theorem asB_is {p : Prop} (h : asB p = true) : p := by unfold asB at h; exact @of_decide_eq_true _ (Classical.propDecidable _) h
theorem asB_not {p : Prop} (h : asB p = false) : ¬ p := by unfold asB at h; exact @of_decide_eq_false _ (Classical.propDecidable _) h
theorem asB_iff {p q : Prop} (h : p ↔ q) : asB p = asB q := by
  have : p = q := propext h
  rw [this]
theorem asB_eq {p : Prop} {b : Bool} (h : p ↔ b = true) : b = asB p := by
  cases b
  · exact asB_false (fun hp => by have := h.1 hp; cases this)
  · exact asB_true (h.2 rfl)
end Go.Proofs.YteejkmcljokloaaGreatDoor
