/- SameBag where a list may be nil (stage 13, towards FnProduct). -/
import Derived.Test.YtmcjgncpblbhpaaSbD
import Derived.Test.YtmcjgncpblbhpaaDrB
namespace Go.Proofs.Ytmcjgncpblbhpaa
open Go.RowKit

set_option maxRecDepth 100000 in
theorem cloneR_nil (w : World) : Calls Try.prog 72 #[.slice none 0 0] w fun e w' => e = .returned (.slice none 0 0) ∧ w' = w := by
  have hq : ∀ W, (binOp .eql 23 (.slice none 0 0) (.slice none 0 0)).run Try.prog W = .ok (.bool true) W := fun W => by
    simp only [binOp]
    simp [run_equal_slice_nil W 23 28 _ 0 0 Try.underlying23]
  go_enter Try.func72, Try.ntmps72
  go_wp2
  go_ret
  exact ⟨rfl, rfl⟩
set_option maxRecDepth 100000 in
theorem insertion_nil (f : Value) (w : World) : Calls Try.prog 110 #[.slice none 0 0, .int .i64 0, .int .i64 0, f] w fun e w' => e = .returned (.tuple #[]) ∧ w' = w := by
  go_enter Try.func110, Try.ntmps110
  go_wp2
  go_loop [8] (fun i => i = .int .i64 1) (fun _ => 0)
  case atStart => rfl
  case round =>
    subst hrel
    go_wp2
    go_end0
    exact ⟨rfl, rfl⟩
set_option maxRecDepth 100000 in
theorem stable_nil (f : Value) (w : World) : Calls Try.prog 99 #[.slice none 0 0, .int .i64 0, f] w fun e w' => e = .returned (.tuple #[]) ∧ w' = w := by
  go_enter Try.func99, Try.ntmps99
  go_wp2
  go_loop [7, 8] (fun i j => i = .int .i64 0 ∧ j = .int .i64 20) (fun _ _ => 0)
  case atStart => exact ⟨rfl, rfl⟩
  case round =>
    obtain ⟨rfl, rfl⟩ := hrel
    go_wp2_with fail
    refine (insertion_nil f w).mono ?_
    rintro e w1 ⟨rfl, hq⟩
    obtain rfl := hq.symm
    go_wp2
    go_loop [6] (fun i => i = .int .i64 20) (fun _ => 0)
    case atStart => rfl
    case round =>
      subst hrel
      go_wp2
      go_end0
      exact ⟨rfl, rfl⟩
set_option maxRecDepth 100000 in
theorem sortStable_nil (f : Value) (w : World) : Calls Try.prog 73 #[.slice none 0 0, f] w fun e w' => e = .returned (.tuple #[]) ∧ w' = w := by
  go_enter Try.func73, Try.ntmps73
  go_wp2_with fail
  refine (stable_nil f w).mono ?_
  rintro e w1 ⟨rfl, hq⟩
  obtain rfl := hq.symm
  go_wp2
  go_end0
  exact ⟨rfl, rfl⟩
set_option maxRecDepth 100000 in
theorem sortedBy_nil (w : World) : Calls Try.prog 42 #[.slice none 0 0, .func (.func 43) #[] #[]] w fun e w' => e = .returned (.slice none 0 0) ∧ w' = w := by
  go_enter Try.func42, Try.ntmps42
  go_wp2_with fail
  refine (cloneR_nil w).mono ?_
  rintro e w1 ⟨rfl, hq⟩
  obtain rfl := hq.symm
  go_wp2_with fail
  refine (sortStable_nil _ w).mono ?_
  rintro e w2 ⟨rfl, hq⟩
  obtain rfl := hq.symm
  go_wp2
  go_ret
  exact ⟨rfl, rfl⟩
/-- A list that was made, whose rows are not empty, has rows with addresses. -/
theorem BldR.rowA {w : World} {B hi : Nat} {v : Value} {rs : Rs} (h : BldR w B hi v rs) (hp : ∀ i, i < rs.length → 0 < (nthR rs i).length) (ht : TextR rs) (hs : SmallR rs) : ∃ a c, v = .slice a rs.length c ∧ RowA w a rs ∧ (v = .slice none 0 0 ∨ ∃ g, a = some ⟨g, 0, none⟩ ∧ B ≤ g ∧ g < w.heap.size) := by
  obtain ⟨xs, gs, ns, cs, ax, ⟨hx, ho⟩, hr, _⟩ := h
  rcases ho with ⟨rfl, h0⟩ | ⟨g, cap, cur, rfl, hg, hh, hc, _, hcs, htk⟩
  · exact ⟨none, 0, by rw [h0], fun i hi => by omega, .inl rfl⟩
  · refine ⟨_, cap, rfl, fun i hi => ?_, .inr ⟨g, rfl, hg, slab_lt hh⟩⟩
    obtain ⟨e1, e2⟩ := hr i hi
    obtain ⟨q1, q2, q3, q4, q5⟩ := e2 (hp i hi)
    rw [q1] at e1
    have hcell : cur[i]? = some (.slice (some ⟨gs i, 0, none⟩) (nthR rs i).length (cs i)) := by
      rw [← htk, List.getElem?_take] at e1
      split at e1
      · rw [← Array.getElem?_toList]; exact e1
      · cases e1
    refine ⟨g, 0, gs i, 0, cs i, rfl, slab_lt hh, by rw [slab_cell hh, Nat.zero_add]; exact hcell, ?_, small_max (hs.2 i hi)⟩
    intro j hj
    obtain ⟨cu, qh, _, qc⟩ := q5
    have := qc j hj
    refine ⟨gs i, 0, rfl, slab_lt qh, ⟨?_, ?_, ?_⟩, ht i hi j hj⟩
    · rw [slab_cell qh, Nat.zero_add]; exact this.1
    · rw [slab_cell qh, Nat.zero_add]; exact this.2.1
    · rw [slab_cell qh, Nat.zero_add]; exact this.2.2
end Go.Proofs.Ytmcjgncpblbhpaa
