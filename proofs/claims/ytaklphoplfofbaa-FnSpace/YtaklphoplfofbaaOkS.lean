/- spec.SpaceOK answers whether a space is right (stage 4). -/
import Derived.Test.YtaklphoplfofbaaOkI
namespace Go.Proofs.Ytaklphoplfofbaa
open Go.RowKit

theorem l01In_is {n lo hi : Int} {b : Bool} (h : inB n lo hi = b) (w : World) :
    Calls Try.prog 51 #[.int .i64 n, .int .i64 lo, .int .i64 hi] w fun e w' => e = .returned (.bool b) ∧ w' = w := by
  rw [← h]; exact l01In_any n lo hi w
theorem inB_t {n lo hi : Int} (h : inB n lo hi = true) : lo ≤ n ∧ n ≤ hi := by unfold inB at h; simpa using h
theorem inB_f {n lo hi : Int} (h : inB n lo hi = false) : ¬ (lo ≤ n ∧ n ≤ hi) := by
  intro h'
  unfold inB at h
  rw [decide_eq_true h'] at h
  cases h

/-- Which pages were seen: of the first k numbers; of all numbers and the first k held pages. -/
def seenI (ss : List Int) : Nat → Nat → Bool
  | 0, _ => false
  | k + 1, j => seenI ss k j || nthI ss k == (j : Int)
def seenP (ss : List Int) (ps : List P2) : Nat → Nat → Bool
  | 0, j => seenI ss ss.length j
  | k + 1, j => seenP ss ps k j || (nthP ps k).1 == (j : Int)
theorem seenI_iff (ss : List Int) (j : Nat) : ∀ k, seenI ss k j = true ↔ ∃ i, i < k ∧ nthI ss i = (j : Int)
  | 0 => by
    unfold seenI
    constructor
    · intro h; cases h
    · rintro ⟨i, hi, _⟩; omega
  | k + 1 => by
    unfold seenI
    rw [Bool.or_eq_true, seenI_iff ss j k]
    constructor
    · rintro (⟨i, hi, e⟩ | e)
      · exact ⟨i, by omega, e⟩
      · exact ⟨k, by omega, by simpa using e⟩
    · rintro ⟨i, hi, e⟩
      by_cases h : i = k
      · subst h; exact .inr (by simpa using e)
      · exact .inl ⟨i, by omega, e⟩
theorem seenP_iff (ss : List Int) (ps : List P2) (j : Nat) : ∀ k, seenP ss ps k j = true ↔ (∃ i, i < ss.length ∧ nthI ss i = (j : Int)) ∨ ∃ i, i < k ∧ (nthP ps i).1 = (j : Int)
  | 0 => by
    unfold seenP
    rw [seenI_iff]
    exact ⟨fun h => .inl h, fun h => h.elim id (fun ⟨i, hi, _⟩ => by omega)⟩
  | k + 1 => by
    unfold seenP
    rw [Bool.or_eq_true, seenP_iff ss ps j k]
    constructor
    · rintro ((h | ⟨i, hi, e⟩) | e)
      · exact .inl h
      · exact .inr ⟨i, by omega, e⟩
      · exact .inr ⟨k, by omega, by simpa using e⟩
    · rintro (h | ⟨i, hi, e⟩)
      · exact .inl (.inl h)
      · by_cases h : i = k
        · subst h; exact .inr (by simpa using e)
        · exact .inl (.inr ⟨i, by omega, e⟩)

/-- Block g has n flags. -/
def Flags (w : World) (g n : Nat) (f : Nat → Bool) : Prop := ∃ cur, w.heap[g]? = some (.cells cur 4 (0, 0)) ∧ cur.size = n ∧ ∀ j, j < n → cur[j]? = some (.bool (f j))
theorem Flags.cell {w : World} {g n j : Nat} {f : Nat → Bool} (h : Flags w g n f) (hj : j < n) : w.cell? ⟨g, j, none⟩ = some (.bool (f j)) := by
  obtain ⟨cur, hh, _, hc⟩ := h
  rw [slab_cell hh]; exact hc j hj
theorem Flags.free {w : World} {g n : Nat} {f : Nat → Bool} (h : Flags w g n f) (o : Nat) : w.frozen? ⟨g, o, none⟩ = false := by
  obtain ⟨cur, hh, _⟩ := h
  exact slab_free hh
theorem Flags.lt {w : World} {g n : Nat} {f : Nat → Bool} (h : Flags w g n f) : g < w.heap.size := by
  obtain ⟨cur, hh, _⟩ := h
  exact slab_lt hh
theorem Flags.alloc {w : World} {g n : Nat} {f : Nat → Bool} (h : Flags w g n f) (o : Obj) : Flags (w.alloc o) g n f := by
  have hl := h.lt
  obtain ⟨cur, hh, r⟩ := h
  exact ⟨cur, (heap_old _ _ _ hl).trans hh, r⟩
theorem Flags.drewN {w : World} {g n : Nat} {f : Nat → Bool} (h : Flags w g n f) (m : Nat) : Flags (w.drewN m) g n f := h
theorem Flags.set {w : World} {g n p : Nat} {f f' : Nat → Bool} (h : Flags w g n f) (hp : p < n) (hf : ∀ j, f' j = (f j || ((p : Int) == (j : Int)))) : Flags (w.setCell ⟨g, p, none⟩ (.bool true)) g n f' := by
  obtain ⟨cur, hh, hs, hc⟩ := h
  refine ⟨_, slab_set hh _, by simpa using hs, fun j hj => ?_⟩
  rw [hf j]
  by_cases e : j = p
  · subst e
    rw [Array.getElem?_setIfInBounds_self_of_lt (by omega)]
    simp
  · rw [Array.getElem?_setIfInBounds_ne (by omega), hc j hj]
    have : ((p : Int) == (j : Int)) = false := by simp; omega
    rw [this, Bool.or_false]
theorem info4 : (Try.prog.info? 4).map (fun i => (i.zero, i.size, i.bytes)) = some (some (.bool false), 1, 1) := by kernel_rfl

end Go.Proofs.Ytaklphoplfofbaa
