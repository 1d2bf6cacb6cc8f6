/- slices.Grow of nothing and slices.Concat of one list of bytes. -/
import Derived.Test.YtjiehohfbddpcaaOpA
import Derived.Lib.AppendZeros
namespace Go.Proofs.Ytjiehohfbddpcaa
open Go.RowKit

theorem size_zeros5 (k : Nat) : (Builtin.zeroCells (Value.int .u8 0).cells k).size = k := by
  rw [size_zeroCells]
  simp [Value.cells]
set_option maxRecDepth 100000 in
set_option maxHeartbeats 2000000 in
theorem growB_any (n : Nat) (w : World) (hn : n ≤ 65536) (h0 : 0 < n) :
    Calls Try.prog 29 #[.slice none 0 0, .int .i64 n] w fun e w' => ∃ v, e = .returned v ∧ OwnL w' w.heap.size v [] ∧ Below w.heap.size w w' := by
  obtain ⟨i0, hi, hz0, hz1, hz2⟩ := info_parts info5
  have hrun := Lib.run_append_nil_zeros (P := Try.prog) w 22 3 22 5 i0 _ .i64 .i64 Try.underlying22 Try.underlying3 hi hz0 n (by omega) (by rw [hz1]; omega) (by omega) (by rw [hz2]; omega)
  have hge := grownCap_ge w n 0 5
  have hle := grownCap_le_maxLen w n 0 5 (by unfold maxLen; omega)
  have HO : Hid (OwnL (w.drew.alloc (.cells (Builtin.zeroCells (Value.int .u8 0).cells n ++ Builtin.zeroCells (Value.int .u8 0).cells (grownCap w n 0 5 - n)) 5)) w.heap.size (.slice (some ⟨w.heap.size, 0, none⟩) 0 (grownCap w n 0 5)) []) :=
    ⟨w.heap.size, _, _, (0, 0), rfl, Nat.le_refl _, heap_alloc_new w.drew _, .inl rfl, Nat.zero_le _, hle, by rw [Array.size_append, size_zeros5, size_zeros5]; omega, fun i hi => absurd hi (Nat.not_lt_zero _)⟩
  have HB : Hid (Below w.heap.size w (w.drew.alloc (.cells (Builtin.zeroCells (Value.int .u8 0).cells n ++ Builtin.zeroCells (Value.int .u8 0).cells (grownCap w n 0 5 - n)) 5))) := (Below.refl _ _).drew.alloc (Nat.le_refl _) _
  generalize w.drew.alloc (.cells (Builtin.zeroCells (Value.int .u8 0).cells n ++ Builtin.zeroCells (Value.int .u8 0).cells (grownCap w n 0 5 - n)) 5) = w1 at *
  generalize grownCap w n 0 5 = cp at *
  unfold maxLen at hle
  clear hi hz0 hz1 hz2
  have hn0 : ¬ (n : Int) < 0 := by omega
  have hnp : (0 : Int) < (n : Int) := by omega
  go_enter Try.func29, Try.ntmps29
  go_wp2_with (at_builtin; refine Lib.wpList_append_run _ rfl _ _ _ _ rfl _ _ rfl rfl _ _ hrun ?_)
  go_ret
  exact ⟨_, rfl, HO.out, HB.out⟩
set_option maxRecDepth 100000 in
theorem grow0_any (w : World) : Calls Try.prog 29 #[.slice none 0 0, .int .i64 0] w fun e w' => e = .returned (.slice none 0 0) ∧ w' = w := by
  go_enter Try.func29, Try.ntmps29
  go_wp2
  go_ret
  exact ⟨rfl, rfl⟩
theorem run_app_nil0 (ty : TypeId) (b off c : Nat) (w : World) : (Builtin.append_ #[22, 22] ty #[.slice none 0 0, .slice (some ⟨b, off, none⟩) 0 c]).run Try.prog w = .ok (.slice none 0 0) w := by
  obtain ⟨i0, hi, hz0, hz1, hz2⟩ := info_parts info5
  have hf := run_firstCells_some (P := Try.prog) w 1 0 ⟨b, off, none⟩ 0 c [] rfl (by simp)
  simp [Builtin.append_, run_underlying Try.underlying22, sizeOf, typeInfo, hi, hz1, Builtin.lenOf, hf]

set_option maxRecDepth 100000 in
set_option maxHeartbeats 4000000 in
theorem concat1_any (s b off c n : Nat) (l : List UInt8) (w : World) (c0 : w.cell? ⟨s, 0, none⟩ = some (.slice (some ⟨b, off, none⟩) n c)) (hs : s < w.heap.size)
    (h : ReadL w (some ⟨b, off, none⟩) l) (hl : Hid (l.length = n)) (hn : n ≤ 65536) :
    Calls Try.prog 21 #[.slice (some ⟨s, 0, none⟩) 1 1] w fun e w' => ∃ u, e = .returned u ∧ OwnZ w' w.heap.size u l ∧ Below w.heap.size w w' := by
  by_cases h0 : n = 0
  · subst h0
    obtain rfl : l = [] := List.length_eq_zero_iff.mp hl.out
    have hr := fun wx => run_app_nil0 22 b off c wx
    clear h
    go_enter Try.func21, Try.ntmps21
    go_wp2
    refine wp_loop_rounds 2 ?_
    rw [rounds_succ]
    go_wp2
    rw [rounds_succ]
    go_wp2_with fail
    refine (grow0_any w).mono ?_
    rintro e w1 ⟨rfl, e1⟩
    obtain rfl := e1.symm
    clear e1
    go_wp2
    refine wp_loop_rounds 2 ?_
    rw [rounds_succ]
    go_wp2_with (at_builtin; refine Lib.wpList_append_run _ rfl _ _ _ _ rfl _ _ rfl rfl _ _ (hr _) ?_)
    rw [rounds_succ]
    go_wp2
    go_ret
    exact ⟨_, rfl, .inr ⟨rfl, none, rfl⟩, Below.refl _ _⟩
  · have HA : Hid (∀ v W, OwnL W w.heap.size v [] → Below w.heap.size w W → ∃ v' w', (Builtin.append_ #[22, 22] 22 #[v, .slice (some ⟨b, off, none⟩) n c]).run Try.prog W = .ok v' w' ∧ OwnL w' w.heap.size v' l ∧ Below w.heap.size w w') := fun v W ho hb => by
      obtain ⟨v', w', hr, o, g⟩ := run_app_n 22 b off c n l ho (h.below hb) hl (by simp; omega) hb.size
      exact ⟨v', w', hr, by simpa using o, ho.grown g hb (Nat.le_refl _) hb.size⟩
    have hng : ¬ (n : Int) < 0 := by omega
    have G := growB_any n w hn (by omega)
    clear h hl
    go_enter Try.func21, Try.ntmps21
    go_wp2
    refine wp_loop_rounds 2 ?_
    rw [rounds_succ]
    go_wp2
    rw [rounds_succ]
    go_wp2_with fail
    refine G.mono ?_
    rintro e w1 ⟨v1, rfl, o1, b1⟩
    have c1 : w1.cell? ⟨s, 0, none⟩ = some (.slice (some ⟨b, off, none⟩) n c) := (b1.cell (p := ⟨s, 0, none⟩) hs).trans c0
    obtain ⟨v2, w2, hr, o2, b2⟩ := HA.out v1 w1 o1 b1
    obtain ⟨g1, n1, c1', rfl, _, _, _⟩ := o1.open
    have O2 : Hid (OwnL w2 w.heap.size v2 l) := o2
    clear G o1 o2 b1 c0
    go_wp2
    refine wp_loop_rounds 2 ?_
    rw [rounds_succ]
    go_wp2_with (at_builtin; refine Lib.wpList_append_run _ rfl _ _ _ _ rfl _ _ rfl rfl _ _ hr ?_)
    rw [rounds_succ]
    go_wp2
    go_ret
    exact ⟨v2, by simp, .inl O2.out, b2⟩
end Go.Proofs.Ytjiehohfbddpcaa
