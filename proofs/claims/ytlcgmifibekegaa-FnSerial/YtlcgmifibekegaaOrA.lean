/- Flags of nodes; what two lists of flags have in common; edges as flags (stage 8). -/
import Derived.Test.YtlcgmifibekegaaSrB
import Derived.Test.YtlcgmifibekegaaPrA
import Derived.Great.Walk
import Derived.Laws.Tables
namespace Go.Proofs.Ytlcgmifibekegaa
open Go.RowKit

/-- Twenty flags as cells. -/
abbrev f20 (f : Nat → Bool) : Array Value := #[.bool (f 0), .bool (f 1), .bool (f 2), .bool (f 3), .bool (f 4), .bool (f 5), .bool (f 6), .bool (f 7), .bool (f 8), .bool (f 9), .bool (f 10), .bool (f 11), .bool (f 12), .bool (f 13), .bool (f 14), .bool (f 15), .bool (f 16), .bool (f 17), .bool (f 18), .bool (f 19)]
theorem f20_size (f : Nat → Bool) : (f20 f).size = 20 := rfl
theorem f20_get (f : Nat → Bool) (i : Nat) (hi : i < 20) : (f20 f)[i]? = some (.bool (f i)) := by
  have h : i = 0 ∨ i = 1 ∨ i = 2 ∨ i = 3 ∨ i = 4 ∨ i = 5 ∨ i = 6 ∨ i = 7 ∨ i = 8 ∨ i = 9 ∨ i = 10 ∨ i = 11 ∨ i = 12 ∨ i = 13 ∨ i = 14 ∨ i = 15 ∨ i = 16 ∨ i = 17 ∨ i = 18 ∨ i = 19 := by omega
  rcases h with rfl | rfl | rfl | rfl | rfl | rfl | rfl | rfl | rfl | rfl | rfl | rfl | rfl | rfl | rfl | rfl | rfl | rfl | rfl | rfl <;> rfl
theorem f20_set (f f' : Nat → Bool) (i : Nat) (v : Bool) (h1 : f' i = v) (h2 : ∀ j, j ≠ i → f' j = f j) : (f20 f).setIfInBounds i (.bool v) = f20 f' := by
  apply Array.ext_getElem?
  intro j
  by_cases hj : j < 20
  · rw [f20_get f' j hj]
    by_cases e : j = i
    · subst e; rw [Array.getElem?_setIfInBounds_self_of_lt (by rw [f20_size]; exact hj), h1]
    · rw [Array.getElem?_setIfInBounds_ne (by omega), f20_get f j hj, h2 j e]
  · rw [Array.getElem?_eq_none (by rw [Array.size_setIfInBounds, f20_size]; omega), Array.getElem?_eq_none (by rw [f20_size]; omega)]
/-- Four hundred flags as cells. -/
def f400 (f : Nat → Nat → Bool) : Array Value := ((List.range 400).map fun i => Value.bool (f (i / 20) (i % 20))).toArray
theorem f400_size (f : Nat → Nat → Bool) : (f400 f).size = 400 := by simp [f400]
theorem f400_at (f : Nat → Nat → Bool) (i : Nat) (hi : i < 400) : (f400 f)[i]? = some (.bool (f (i / 20) (i % 20))) := by simp [f400, hi]
theorem f400_get (f : Nat → Nat → Bool) (a b : Nat) (ha : a < 20) (hb : b < 20) : (f400 f)[a * 20 + b]? = some (.bool (f a b)) := by
  rw [f400_at f _ (by omega), show (a * 20 + b) / 20 = a by omega, show (a * 20 + b) % 20 = b by omega]
theorem f400_set (f f' : Nat → Nat → Bool) (a b : Nat) (v : Bool) (hb : b < 20) (h1 : f' a b = v) (h2 : ∀ i j, ¬ (i = a ∧ j = b) → f' i j = f i j) : (f400 f).setIfInBounds (a * 20 + b) (.bool v) = f400 f' := by
  apply Array.ext_getElem?
  intro i
  by_cases hi : i < 400
  · rw [f400_at f' i hi]
    by_cases h : i = a * 20 + b
    · rw [← h, Array.getElem?_setIfInBounds_self_of_lt (by rw [f400_size]; exact hi), show i / 20 = a by omega, show i % 20 = b by omega, h1]
    · rw [Array.getElem?_setIfInBounds_ne (by omega), f400_at f i hi, h2 (i / 20) (i % 20) (by omega)]
  · rw [Array.getElem?_eq_none (by rw [Array.size_setIfInBounds, f400_size]; omega), Array.getElem?_eq_none (by rw [f400_size]; omega)]
theorem f400_one (f : Nat → Nat → Bool) : (f400 f).all (·.oneCell') = true := by
  rw [Array.all_eq_true_iff_forall_mem]
  intro v hv
  simp [f400] at hv
  obtain ⟨i, _, rfl⟩ := hv
  rfl
abbrev F400 (w : World) (g : Nat) (f : Nat → Nat → Bool) : Prop := w.heap[g]? = some (.cells (f400 f) 156 (0, 0))
abbrev F20 (w : World) (g : Nat) (f : Nat → Bool) : Prop := w.heap[g]? = some (.cells (f20 f) 155 (0, 0))
theorem F400.set {w : World} {g a b : Nat} {f f' : Nat → Nat → Bool} {v : Bool} (h : F400 w g f) (hb : b < 20) (h1 : f' a b = v) (h2 : ∀ i j, ¬ (i = a ∧ j = b) → f' i j = f i j) : F400 (w.setCell ⟨g, a * 20 + b, none⟩ (.bool v)) g f' := by
  show (w.setCell ⟨g, a * 20 + b, none⟩ (.bool v)).heap[g]? = _
  rw [slab_set h, f400_set f f' a b v hb h1 h2]
theorem F20.set {w : World} {g i : Nat} {f f' : Nat → Bool} {v : Bool} (h : F20 w g f) (h1 : f' i = v) (h2 : ∀ j, j ≠ i → f' j = f j) : F20 (w.setCell ⟨g, i, none⟩ (.bool v)) g f' := by
  show (w.setCell ⟨g, i, none⟩ (.bool v)).heap[g]? = _
  rw [slab_set h, f20_set f f' i v h1 h2]
theorem below_setRowX {B : Nat} {a w : World} (h : Below B a w) {g : Nat} (hg : B ≤ g) (A : Array Value) : Below B a (w.setRow g A) :=
  ⟨h.os, h.tape, h.output, by rw [setRow_size]; exact h.size, fun k hk => (setRow_other w g k A (by omega)).trans (h.block k hk)⟩
theorem zero156 (w : World) : (zeroValue 156).run Try.prog w = .ok (.agg (f400 fun _ _ => false)) w := by kernel_rfl
theorem size156 : (Try.prog.info? 156).map (·.size) = some 400 := by kernel_rfl
set_option maxRecDepth 100000 in
theorem alloc156 (ρ : Operand → Value) (o : Oper) (w : World) (ho : o.op = .alloc 156) : (execOp ρ o).run Try.prog w = .ok (.value (.pointer (some ⟨w.heap.size, 0, none⟩))) (w.alloc (.cells (f400 fun _ _ => false) 156)) := by
  have hz := zero156 w
  generalize f400 (fun _ _ => false) = Z at *
  simp [execOp, ho, Instr.alloc, hz, newVar, newRow, Value.cells]

/-- Two lists of flags have one in common. -/
noncomputable def comB (f g : Nat → Bool) : Bool := asB (∃ i, i < 20 ∧ f i = true ∧ g i = true)
set_option maxRecDepth 100000 in
set_option maxHeartbeats 2000000 in
theorem haveCommon_any (f g : Nat → Bool) (w : World) : Calls Try.prog 108 #[.agg (f20 f), .agg (f20 g)] w fun e w' => e = .returned (.bool (comB f g)) ∧ Below w.heap.size w w' := by
  have B0 : Below w.heap.size w ((w.alloc (.cells (f20 f) 155)).alloc (.cells (f20 g) 155)) := ((Below.refl _ _).alloc (Nat.le_refl _) _).alloc (by simp) _
  have X0 : Hid (F20 ((w.alloc (.cells (f20 f) 155)).alloc (.cells (f20 g) 155)) w.heap.size f ∧ F20 ((w.alloc (.cells (f20 f) 155)).alloc (.cells (f20 g) 155)) (w.heap.size + 1) g) := ⟨(heap_old _ _ _ (by simp)).trans (heap_new' _ _ _ rfl), heap_new' _ _ _ (by simp)⟩
  have HB0 : Hid (Below w.heap.size w ((w.alloc (.cells (f20 f) 155)).alloc (.cells (f20 g) 155))) := B0
  obtain ⟨W0, hW0⟩ : ∃ W0, (w.alloc (.cells (f20 f) 155)).alloc (.cells (f20 g) 155) = W0 := ⟨_, rfl⟩
  rw [hW0] at X0 HB0
  clear B0
  go_enter Try.func108, Try.ntmps108
  go_wp2
  go_loopw [6] (fun i wr => ∃ k : Nat, k ≤ 20 ∧ i = .int .i64 k ∧ Hid (∀ i, i < k → ¬ (f i = true ∧ g i = true)) ∧ Hid (wr = W0)) (fun i _ => 20 - (intOf i).toNat)
  case atStart => exact ⟨0, by omega, rfl, fun i hi => by omega, rfl⟩
  case round =>
    obtain ⟨k, hk, rfl, HS, HW⟩ := hrel
    obtain rfl := HW.out
    clear hW0
    by_cases hlt : k < 20
    · have hltI : (k : Int) < 20 := by omega
      have c0 : wr.cell? ⟨w.heap.size, k, none⟩ = some (.bool (f k)) := (slab_cell X0.out.1).trans (f20_get f k hlt)
      have c1 : wr.cell? ⟨w.heap.size + 1, k, none⟩ = some (.bool (g k)) := (slab_cell X0.out.2).trans (f20_get g k hlt)
      have HNX : Hid (¬ (f k = true ∧ g k = true) → ∀ i, i < k + 1 → ¬ (f i = true ∧ g i = true)) := fun h i hi => by
        by_cases e : i = k
        · subst e; exact h
        · exact HS.out i (by omega)
      cases hf : f k with
      | false =>
        rw [hf] at c0
        have HN : Hid (∀ i, i < k + 1 → ¬ (f i = true ∧ g i = true)) := HNX.out (fun h => by rw [hf] at h; cases h.1)
        go_wp2
        go_roundw
        case rel => exact ⟨k + 1, by omega, by go_num, HN, True.intro⟩
        case measure => simp [intOf]; omega
      | true =>
        rw [hf] at c0
        cases hg : g k with
        | false =>
          rw [hg] at c1
          have HN : Hid (∀ i, i < k + 1 → ¬ (f i = true ∧ g i = true)) := HNX.out (fun h => by rw [hg] at h; cases h.2)
          go_wp2
          go_roundw
          case rel => exact ⟨k + 1, by omega, by go_num, HN, True.intro⟩
          case measure => simp [intOf]; omega
        | true =>
          rw [hg] at c1
          have HA : Hid (true = comB f g) := asB_true ⟨k, hlt, hf, hg⟩
          go_wp2
          go_ret
          exact ⟨ret_bool' HA.out, HB0.out⟩
    · obtain rfl : k = 20 := by omega
      go_wp2
      go_ret
      exact ⟨ret_bool' (asB_false (fun ⟨i, h1, h2⟩ => HS.out i h1 h2)), HB0.out⟩

/-- Where x stands among the rising numbers zs. -/
def posI (zs : List Int) (x : Int) : Nat := zs.countP (fun y => decide (y < x))
/-- The flags when the first k edges have been looked at. -/
noncomputable def edF (zs : List Int) (es : List P2) (k a b : Nat) : Bool := asB (∃ i, i < k ∧ (nthP es i).1 ∈ zs ∧ (nthP es i).2 ∈ zs ∧ posI zs (nthP es i).2 = a ∧ posI zs (nthP es i).1 = b)
theorem edF_hit {zs : List Int} {es : List P2} {k a b : Nat} (h1 : (nthP es k).1 ∈ zs) (h2 : (nthP es k).2 ∈ zs) (h3 : posI zs (nthP es k).2 = a) (h4 : posI zs (nthP es k).1 = b) : edF zs es (k + 1) a b = true := (asB_true ⟨k, by omega, h1, h2, h3, h4⟩).symm
theorem edF_miss {zs : List Int} {es : List P2} {k a b : Nat} (h : ¬ ((nthP es k).1 ∈ zs ∧ (nthP es k).2 ∈ zs ∧ posI zs (nthP es k).2 = a ∧ posI zs (nthP es k).1 = b)) : edF zs es (k + 1) a b = edF zs es k a b := by
  refine asB_iff ⟨fun ⟨i, h1, h2⟩ => ?_, fun ⟨i, h1, h2⟩ => ⟨i, by omega, h2⟩⟩
  by_cases e : i = k
  · subst e; exact absurd h2 h
  · exact ⟨i, by omega, h2⟩
theorem posI_lt {zs : List Int} {x : Int} (h : x ∈ zs) : posI zs x < zs.length := by
  unfold posI
  refine Nat.lt_of_le_of_ne List.countP_le_length fun e => ?_
  have := List.countP_eq_length.1 e x h
  simp at this
theorem search_any (a : Option Addr) (c : Nat) (zs : List Int) (x : Int) (w : World) (h : RowI w a zs) (hl : zs.length ≤ 1048576) (hs : zs.Pairwise (· ≤ ·)) :
    Calls Try.prog 132 #[.slice a zs.length c, .int .i64 x] w fun e w' => e = .returned (.tuple #[.int .i64 (posI zs x : Nat), .bool (asB (x ∈ zs))]) ∧ Below w.heap.size w w' := by
  by_cases hz : zs.length = 0
  · have e0 : zs = [] := List.eq_nil_of_length_eq_zero hz
    subst e0
    refine (Try.slices_BinarySearch_int_empty a c x w).mono ?_
    rintro e w' ⟨rfl, rfl⟩
    refine ⟨?_, Below.refl _ _⟩
    rw [← asB_false (List.not_mem_nil)]
    rfl
  · obtain ⟨b, off, rfl, hlb, _⟩ := h 0 (by omega)
    refine (Try.slices_BinarySearch_int b off zs.length c zs x w (Nat.le_refl _) (by omega) (fun j hj => by
      obtain ⟨b', off', e', _, hc⟩ := h j hj
      cases e'
      exact hc) (by rw [List.take_length]; exact hs)).mono ?_
    rintro e w' ⟨rfl, q, rfl⟩
    refine ⟨?_, below_drewN (Below.refl _ _) _⟩
    rw [List.take_length]
    have e1 : zs.contains x = asB (x ∈ zs) := asB_eq ⟨fun h => by simpa using h, fun h => by simpa using h⟩
    rw [e1]
    rfl
end Go.Proofs.Ytlcgmifibekegaa
