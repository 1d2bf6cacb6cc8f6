/- Empty lists of pages, marked, held and compared; new spaces (towards NewSpace). -/
import Derived.Test.YtaklphoplfofbaaBase
namespace Go.Proofs.Ytaklphoplfofbaa
open Go.RowKit

theorem eqI_nil (a b : Option Addr) (c d : Nat) (w : World) : Calls Try.prog 26 #[.slice a 0 c, .slice b 0 d] w fun e w' => e = .returned (.bool true) ∧ w' = w := by
  go_enter Try.func26, Try.ntmps26
  go_wp2
  refine wp_loop_rounds 1 ?_
  rw [rounds_succ]
  go_wp2
  go_ret
  exact ⟨rfl, rfl⟩
theorem eqH_nil (a b : Option Addr) (c d : Nat) (w : World) : Calls Try.prog 52 #[.slice a 0 c, .slice b 0 d] w fun e w' => e = .returned (.bool true) ∧ w' = w := by
  go_enter Try.func52, Try.ntmps52
  go_wp2
  refine wp_loop_rounds 1 ?_
  rw [rounds_succ]
  go_wp2
  go_ret
  exact ⟨rfl, rfl⟩
theorem markI_nil (a : Option Addr) (c : Nat) (k : Int) (w : World) : Calls Try.prog 27 #[.slice a 0 c, .int .i64 k] w fun e w' => e = .returned (.int .i64 k) ∧ w' = w := by
  go_enter Try.func27, Try.ntmps27
  go_wp2
  refine wp_loop_rounds 1 ?_
  rw [rounds_succ]
  go_wp2
  go_ret
  exact ⟨rfl, rfl⟩
theorem markH_nil (a : Option Addr) (c : Nat) (k : Int) (w : World) : Calls Try.prog 53 #[.slice a 0 c, .int .i64 k] w fun e w' => e = .returned (.int .i64 k) ∧ w' = w := by
  go_enter Try.func53, Try.ntmps53
  go_wp2
  refine wp_loop_rounds 1 ?_
  rw [rounds_succ]
  go_wp2
  go_ret
  exact ⟨rfl, rfl⟩
theorem heldI_nil (a : Option Addr) (c : Nat) (k : Int) (w : World) : Calls Try.prog 28 #[.slice a 0 c, .int .i64 k] w fun e w' => e = .returned (.int .i64 k) ∧ w' = w := by
  go_enter Try.func28, Try.ntmps28
  go_wp2
  refine wp_loop_rounds 1 ?_
  rw [rounds_succ]
  go_wp2
  go_ret
  exact ⟨rfl, rfl⟩
theorem heldH_nil (a : Option Addr) (c : Nat) (k : Int) (w : World) : Calls Try.prog 54 #[.slice a 0 c, .int .i64 k] w fun e w' => e = .returned (.int .i64 k) ∧ w' = w := by
  go_enter Try.func54, Try.ntmps54
  go_wp2
  refine wp_loop_rounds 1 ?_
  rw [rounds_succ]
  go_wp2
  go_ret
  exact ⟨rfl, rfl⟩

/-- What NewSpace answers: with no list of any element. -/
def newT (n : Int) : Int := if inB n 1 64 = true then n else 0
def newC (n : Int) : Int := if inB n 1 64 = true then 0 else 4

set_option maxRecDepth 100000 in
theorem specNew_any (n : Int) (w : World) : Calls Try.prog 17 #[.int .i64 n] w fun e w' => ∃ a1 a2 a3 c1 c2 c3, e = .returned (.tuple #[SV (newT n) 0 (.slice a1 0 c1) (.slice a2 0 c2) (.slice a3 0 c3), .int .i64 (newC n)]) ∧ Below w.heap.size w w' := by
  cases h : inB n 1 64
  · go_enter Try.func17, Try.ntmps17
    go_wp2_with fail
    refine (l01In_any n 1 64 _).mono ?_
    rw [h]
    rintro e w1 ⟨rfl, hq⟩
    obtain rfl := hq.symm
    go_wp2
    exact bodyPost_ret (v := .tuple #[SV 0 0 (.slice none 0 0) (.slice none 0 0) (.slice none 0 0), .int .i64 4]) (by simp [results, Try.results17, go_sem]) rfl ⟨none, none, none, 0, 0, 0, by simp [newT, newC, h], (Below.refl _ _).alloc (Nat.le_refl _) _⟩
  · go_enter Try.func17, Try.ntmps17
    go_wp2_with fail
    refine (l01In_any n 1 64 _).mono ?_
    rw [h]
    rintro e w1 ⟨rfl, hq⟩
    obtain rfl := hq.symm
    go_wp2
    exact bodyPost_ret (v := .tuple #[SV n 0 (.slice (some ⟨w.heap.size + 1, 0, none⟩) 0 0) (.slice (some ⟨w.heap.size + 1 + 1, 0, none⟩) 0 0) (.slice (some ⟨w.heap.size + 1 + 1 + 1, 0, none⟩) 0 0), .int .i64 0]) (by simp [results, Try.results17, go_sem]) rfl ⟨some ⟨w.heap.size + 1, 0, none⟩, some ⟨w.heap.size + 1 + 1, 0, none⟩, some ⟨w.heap.size + 1 + 1 + 1, 0, none⟩, 0, 0, 0, by simp [newT, newC, h], ((((Below.refl _ _).alloc (Nat.le_refl _) _).alloc (by simp) _).alloc (by simp; omega) _).alloc (by simp; omega) _⟩
set_option maxRecDepth 100000 in
theorem implNew_any (n : Int) (w : World) : Calls Try.prog 18 #[.int .i64 n] w fun e w' => ∃ a1 a2 a3 c1 c2 c3, e = .returned (.tuple #[SV (newT n) 0 (.slice a1 0 c1) (.slice a2 0 c2) (.slice a3 0 c3), .int .i64 (newC n)]) ∧ Below w.heap.size w w' := by
  by_cases h1 : n < 1
  · have h : inB n 1 64 = false := decide_eq_false (by omega)
    go_enter Try.func18, Try.ntmps18
    go_wp2
    exact bodyPost_ret (v := .tuple #[SV 0 0 (.slice none 0 0) (.slice none 0 0) (.slice none 0 0), .int .i64 4]) (by simp [results, Try.results18, go_sem]) rfl ⟨none, none, none, 0, 0, 0, by simp [newT, newC, h], (Below.refl _ _).alloc (Nat.le_refl _) _⟩
  · by_cases h2 : 64 < n
    · have h : inB n 1 64 = false := decide_eq_false (by omega)
      go_enter Try.func18, Try.ntmps18
      go_wp2
      exact bodyPost_ret (v := .tuple #[SV 0 0 (.slice none 0 0) (.slice none 0 0) (.slice none 0 0), .int .i64 4]) (by simp [results, Try.results18, go_sem]) rfl ⟨⟨none, none, none, 0, 0, 0, by simp [newT, newC, h]⟩, (Below.refl _ _).alloc (Nat.le_refl _) _⟩
    · have h : inB n 1 64 = true := decide_eq_true (by omega)
      go_enter Try.func18, Try.ntmps18
      go_wp2
      exact bodyPost_ret (v := .tuple #[SV n 0 (.slice none 0 0) (.slice none 0 0) (.slice none 0 0), .int .i64 0]) (by simp [results, Try.results18, go_sem]) rfl ⟨⟨none, none, none, 0, 0, 0, by simp [newT, newC, h]⟩, (Below.refl _ _).alloc (Nat.le_refl _) _⟩
end Go.Proofs.Ytaklphoplfofbaa
