/- errors.As, and what is read of an error by it: codeIn, columnIn (stage 11). -/
import Derived.Test.YtepkdodicglilaaGreatDoorAsC
import Derived.Deep.RegionHeld3
namespace Go.Proofs.YtepkdodicglilaaGreatDoor
open Go.RowKit Go.Extern.Stop Go.Stop Go.Extern

/-- The library's variable errors.errorType holds the handle of error. -/
abbrev ErrT (w : World) : Prop := w.cell? ⟨0, 0, none⟩ = some (.iface 153 (.agg #[.pointer (some ⟨1, 62, none⟩)])) ∧ 0 < w.heap.size
theorem ErrT.below {B : Nat} {w w' : World} (h : ErrT w) (hb : Below B w w') (hB : 0 < B) : ErrT w' := ⟨(World.cell?_of_block (w := w) (hb.block _ hB)).trans h.1, Nat.lt_of_lt_of_le h.2 hb.size⟩

set_option maxRecDepth 100000 in
set_option maxHeartbeats 4000000 in
theorem As_code (e : Er) (he : e ≠ .nil) (tb : Nat) (old : Value) (w : World) (hg : ErrT w) (ht0 : w.cell? ⟨tb, 0, none⟩ = some old) (hf0 : w.frozen? ⟨tb, 0, none⟩ = false) :
    Calls Tryz.prog 59 #[erV e, .iface 97 (.pointer (some ⟨tb, 0, none⟩))] w fun r w' =>
      (∃ n, codeE e = some n ∧ r = .returned (.bool true) ∧ ∃ w1, Below w.heap.size w w1 ∧ w' = w1.setCell ⟨tb, 0, none⟩ (.int .i64 n)) ∨ (codeE e = none ∧ r = .returned (.bool false) ∧ Below w.heap.size w w') := by
  have xVOf := @run_callFunc_extern Tryz.prog 79 _ (fun args => ReflectliteValue.unpack (args.getD 0 (.tuple #[]))) Tryz.func79 (by kernel_rfl) (by kernel_rfl) (by kernel_rfl) (by kernel_rfl)
  have xVType := @run_callFunc_extern Tryz.prog 80 _ (ReflectliteValue.methodAny (ReflectliteValue.valueError "reflectlite.Value.Type" 0) (fun t _ _ _ => ReflectliteType.toType t)) Tryz.func80 (by kernel_rfl) (by kernel_rfl) (by kernel_rfl) (by kernel_rfl)
  have xVNil := @run_callFunc_extern Tryz.prog 81 _ (ReflectliteValue.method (ReflectliteValue.valueError "reflectlite.Value.IsNil" 0) ReflectliteValue.isNil) Tryz.func81 (by kernel_rfl) (by kernel_rfl) (by kernel_rfl) (by kernel_rfl)
  have xMKind := @run_callFunc_extern Tryz.prog 148 _ (ReflectliteType.abiMethod fun t => do pure (.int .u8 (← Rtype.kind t))) Tryz.func148 (by kernel_rfl) (by kernel_rfl) (by kernel_rfl) (by kernel_rfl)
  have xMElem := @run_callFunc_extern Tryz.prog 165 _ (ReflectliteType.method ReflectliteType.elem) Tryz.func165 (by kernel_rfl) (by kernel_rfl) (by kernel_rfl) (by kernel_rfl)
  have xMImpl := @run_callFunc_extern Tryz.prog 166 _ (ReflectliteType.relation "Implements" ReflectliteType.implements_) Tryz.func166 (by kernel_rfl) (by kernel_rfl) (by kernel_rfl) (by kernel_rfl)
  have mK := Tryz.methodKind
  have mE := Tryz.methodElem
  have mI := Tryz.methodImplements
  have f6 := Tryz.valueOf97
  have f7 := Tryz.type97
  have kp := Tryz.kind97
  have kt := Tryz.kind93
  have ep := Tryz.elem97
  have it := Tryz.implements93
  have htl : tb < w.heap.size := by
    rcases Nat.lt_or_ge tb w.heap.size with h | h
    · exact h
    · simp [World.cell?, Array.getElem?_eq_none h] at ht0
  have n8 := Tryz.isNil97 ⟨w.heap.size, 0, none⟩ ⟨tb, 0, none⟩ ((w.alloc (.cells #[.pointer (some ⟨tb, 0, none⟩)] 97)).alloc (.cells #[.pointer (some ⟨1, 97, none⟩), .pointer (some ⟨w.heap.size, 0, none⟩), .int .u64 150] 125)) (by simp)
  have hg2 : ((w.alloc (.cells #[.pointer (some ⟨tb, 0, none⟩)] 97)).alloc (.cells #[.pointer (some ⟨1, 97, none⟩), .pointer (some ⟨w.heap.size, 0, none⟩), .int .u64 150] 125)).cell? ⟨0, 0, none⟩ = some (.iface 153 (.agg #[.pointer (some ⟨1, 62, none⟩)])) := by
    rw [World.cell?_alloc_lt _ _ ⟨0, 0, none⟩ (by have := hg.2; simp <;> omega), World.cell?_alloc_lt _ _ ⟨0, 0, none⟩ hg.2]; exact hg.1
  have b2 : Below w.heap.size w ((w.alloc (.cells #[.pointer (some ⟨tb, 0, none⟩)] 97)).alloc (.cells #[.pointer (some ⟨1, 97, none⟩), .pointer (some ⟨w.heap.size, 0, none⟩), .int .u64 150] 125)) := ((Below.refl _ _).alloc (Nat.le_refl _) _).alloc (Nat.le_of_lt (by simp)) _
  have HC := as_code e he tb w.heap.size old ((w.alloc (.cells #[.pointer (some ⟨tb, 0, none⟩)] 97)).alloc (.cells #[.pointer (some ⟨1, 97, none⟩), .pointer (some ⟨w.heap.size, 0, none⟩), .int .u64 150] 125)) (by rw [World.cell?_alloc_lt _ _ ⟨w.heap.size, 0, none⟩ (by simp)]; exact slab_cell (heap_new' _ _ _ rfl)) (by rw [World.cell?_alloc_lt _ _ ⟨tb, 0, none⟩ (by simp; omega), World.cell?_alloc_lt _ _ ⟨tb, 0, none⟩ htl]; exact ht0) (by rw [World.frozen?_alloc_old _ _ ⟨tb, 0, none⟩ (by simp; omega), World.frozen?_alloc_old _ _ ⟨tb, 0, none⟩ (Nat.ne_of_lt htl)]; exact hf0)
  rcases erV_cases e with h | ⟨_, t', v', hv⟩
  · exact absurd h he
  rw [hv] at HC ⊢
  clear hv ht0 hf0 hg
  go_enter Tryz.func59, Tryz.ntmps59
  go_wp2_with fail
  refine HC.mono ?_
  rintro r w3 (⟨n, hfi, he, w1, b1, hw⟩ | ⟨hfi, he, b1⟩)
  · subst he
    go_wp2
    go_ret
    exact .inl ⟨n, hfi, rfl, w1, b2.trans (b1.mono b2.size), (by first | exact hw | rfl)⟩
  · subst he
    go_wp2
    go_ret
    exact .inr ⟨hfi, rfl, b2.trans (b1.mono b2.size)⟩

set_option maxRecDepth 100000 in
set_option maxHeartbeats 4000000 in
theorem As_col (e : Er) (he : e ≠ .nil) (tb : Nat) (old : Value) (w : World) (hg : ErrT w) (ht0 : w.cell? ⟨tb, 0, none⟩ = some old) (hf0 : w.frozen? ⟨tb, 0, none⟩ = false) (old1 : Value) (ht1 : w.cell? ⟨tb, 1, none⟩ = some old1) (hf1 : w.frozen? ⟨tb, 1, none⟩ = false) :
    Calls Tryz.prog 59 #[erV e, .iface 98 (.pointer (some ⟨tb, 0, none⟩))] w fun r w' =>
      (∃ n e1, colE e = some (n, e1) ∧ r = .returned (.bool true) ∧ ∃ w1, Below w.heap.size w w1 ∧ w' = (w1.setCell ⟨tb, 0, none⟩ (.int .i64 n)).setCell ⟨tb, 1, none⟩ (erV e1)) ∨ (colE e = none ∧ r = .returned (.bool false) ∧ Below w.heap.size w w') := by
  have xVOf := @run_callFunc_extern Tryz.prog 79 _ (fun args => ReflectliteValue.unpack (args.getD 0 (.tuple #[]))) Tryz.func79 (by kernel_rfl) (by kernel_rfl) (by kernel_rfl) (by kernel_rfl)
  have xVType := @run_callFunc_extern Tryz.prog 80 _ (ReflectliteValue.methodAny (ReflectliteValue.valueError "reflectlite.Value.Type" 0) (fun t _ _ _ => ReflectliteType.toType t)) Tryz.func80 (by kernel_rfl) (by kernel_rfl) (by kernel_rfl) (by kernel_rfl)
  have xVNil := @run_callFunc_extern Tryz.prog 81 _ (ReflectliteValue.method (ReflectliteValue.valueError "reflectlite.Value.IsNil" 0) ReflectliteValue.isNil) Tryz.func81 (by kernel_rfl) (by kernel_rfl) (by kernel_rfl) (by kernel_rfl)
  have xMKind := @run_callFunc_extern Tryz.prog 148 _ (ReflectliteType.abiMethod fun t => do pure (.int .u8 (← Rtype.kind t))) Tryz.func148 (by kernel_rfl) (by kernel_rfl) (by kernel_rfl) (by kernel_rfl)
  have xMElem := @run_callFunc_extern Tryz.prog 165 _ (ReflectliteType.method ReflectliteType.elem) Tryz.func165 (by kernel_rfl) (by kernel_rfl) (by kernel_rfl) (by kernel_rfl)
  have xMImpl := @run_callFunc_extern Tryz.prog 166 _ (ReflectliteType.relation "Implements" ReflectliteType.implements_) Tryz.func166 (by kernel_rfl) (by kernel_rfl) (by kernel_rfl) (by kernel_rfl)
  have mK := Tryz.methodKind
  have mE := Tryz.methodElem
  have mI := Tryz.methodImplements
  have f6 := Tryz.valueOf98
  have f7 := Tryz.type98
  have kp := Tryz.kind98
  have kt := Tryz.kind95
  have ep := Tryz.elem98
  have it := Tryz.implements95
  have htl : tb < w.heap.size := by
    rcases Nat.lt_or_ge tb w.heap.size with h | h
    · exact h
    · simp [World.cell?, Array.getElem?_eq_none h] at ht0
  have n8 := Tryz.isNil98 ⟨w.heap.size, 0, none⟩ ⟨tb, 0, none⟩ ((w.alloc (.cells #[.pointer (some ⟨tb, 0, none⟩)] 98)).alloc (.cells #[.pointer (some ⟨1, 98, none⟩), .pointer (some ⟨w.heap.size, 0, none⟩), .int .u64 150] 125)) (by simp)
  have hg2 : ((w.alloc (.cells #[.pointer (some ⟨tb, 0, none⟩)] 98)).alloc (.cells #[.pointer (some ⟨1, 98, none⟩), .pointer (some ⟨w.heap.size, 0, none⟩), .int .u64 150] 125)).cell? ⟨0, 0, none⟩ = some (.iface 153 (.agg #[.pointer (some ⟨1, 62, none⟩)])) := by
    rw [World.cell?_alloc_lt _ _ ⟨0, 0, none⟩ (by have := hg.2; simp <;> omega), World.cell?_alloc_lt _ _ ⟨0, 0, none⟩ hg.2]; exact hg.1
  have b2 : Below w.heap.size w ((w.alloc (.cells #[.pointer (some ⟨tb, 0, none⟩)] 98)).alloc (.cells #[.pointer (some ⟨1, 98, none⟩), .pointer (some ⟨w.heap.size, 0, none⟩), .int .u64 150] 125)) := ((Below.refl _ _).alloc (Nat.le_refl _) _).alloc (Nat.le_of_lt (by simp)) _
  have HC := as_col e he tb w.heap.size old ((w.alloc (.cells #[.pointer (some ⟨tb, 0, none⟩)] 98)).alloc (.cells #[.pointer (some ⟨1, 98, none⟩), .pointer (some ⟨w.heap.size, 0, none⟩), .int .u64 150] 125)) (by rw [World.cell?_alloc_lt _ _ ⟨w.heap.size, 0, none⟩ (by simp)]; exact slab_cell (heap_new' _ _ _ rfl)) (by rw [World.cell?_alloc_lt _ _ ⟨tb, 0, none⟩ (by simp; omega), World.cell?_alloc_lt _ _ ⟨tb, 0, none⟩ htl]; exact ht0) (by rw [World.frozen?_alloc_old _ _ ⟨tb, 0, none⟩ (by simp; omega), World.frozen?_alloc_old _ _ ⟨tb, 0, none⟩ (Nat.ne_of_lt htl)]; exact hf0) old1 (by rw [World.cell?_alloc_lt _ _ ⟨tb, 1, none⟩ (by simp; omega), World.cell?_alloc_lt _ _ ⟨tb, 1, none⟩ htl]; exact ht1) (by rw [World.frozen?_alloc_old _ _ ⟨tb, 1, none⟩ (by simp; omega), World.frozen?_alloc_old _ _ ⟨tb, 1, none⟩ (Nat.ne_of_lt htl)]; exact hf1)
  rcases erV_cases e with h | ⟨_, t', v', hv⟩
  · exact absurd h he
  rw [hv] at HC ⊢
  clear hv ht0 hf0 hg
  go_enter Tryz.func59, Tryz.ntmps59
  go_wp2_with fail
  refine HC.mono ?_
  rintro r w3 (⟨n, e1, hfi, he, w1, b1, hw⟩ | ⟨hfi, he, b1⟩)
  · subst he
    go_wp2
    go_ret
    exact .inl ⟨n, e1, hfi, rfl, w1, b2.trans (b1.mono b2.size), (by first | exact hw | rfl)⟩
  · subst he
    go_wp2
    go_ret
    exact .inr ⟨hfi, rfl, b2.trans (b1.mono b2.size)⟩

set_option maxRecDepth 100000 in
set_option maxHeartbeats 4000000 in
theorem codeIn_any (e : Er) (w : World) (hg : ErrT w) :
    Calls Tryz.prog 33 #[erV e] w fun r w' => r = .returned (.int .i64 ((codeE e).getD 0)) ∧ Below w.heap.size w w' := by
  obtain ⟨W1, hW1⟩ : ∃ W1, w.alloc (.cells #[.int .i64 0] 93) = W1 := ⟨_, rfl⟩
  have B1 : Below w.heap.size w W1 := hW1 ▸ (Below.refl _ _).alloc (Nat.le_refl _) _
  have hg1 : ErrT W1 := hg.below B1 hg.2
  have c1 : W1.cell? ⟨w.heap.size, 0, none⟩ = some (.int .i64 0) := hW1 ▸ slab_cell (heap_new' _ _ _ rfl)
  have f1 : W1.frozen? ⟨w.heap.size, 0, none⟩ = false := hW1 ▸ slab_free (heap_new' _ _ _ rfl)
  have l1 : w.heap.size < W1.heap.size := by rw [← hW1]; simp
  clear hg
  by_cases he : e = .nil
  · subst he
    simp only [erV]
    go_enter Tryz.func33, Tryz.ntmps33
    go_wp2_with (go_at_call 59; refine (as_nil _ _).mono ?_; rintro e w' ⟨rfl, rfl⟩)
    go_ret
    exact ⟨rfl, B1⟩
  have HC := As_code e he w.heap.size (.int .i64 0) W1 hg1 c1 f1
  clear he c1 f1 hg1
  generalize hv : erV e = v at *
  go_enter Tryz.func33, Tryz.ntmps33
  go_wp2_with fail
  refine HC.mono ?_
  rintro r w3 (⟨n, hfi, rfl, w1, b1, rfl⟩ | ⟨hfi, rfl, b1⟩)
  · have c2 : (w1.setCell ⟨w.heap.size, 0, none⟩ (.int .i64 n)).cell? ⟨w.heap.size, 0, none⟩ = some (.int .i64 n) := World.cell?_setCell_same _ _ _ ((World.cell?_of_block (w := W1) (b1.block _ l1)).trans (hW1 ▸ slab_cell (heap_new' _ _ _ rfl)))
    have HN : Hid (codeE e = some n) := hfi
    have B2 : Below w.heap.size w (w1.setCell ⟨w.heap.size, 0, none⟩ (.int .i64 n)) := (B1.trans (b1.mono B1.size)).setCell (Nat.le_refl _) _
    clear hfi b1 HC hv hW1
    go_wp2
    go_ret
    exact ⟨by rw [HN.out]; rfl, B2⟩
  · have HN : Hid (codeE e = none) := hfi
    have B2 := B1.trans (b1.mono B1.size)
    clear hfi b1 HC hv hW1
    go_wp2
    go_ret
    exact ⟨by rw [HN.out]; rfl, B2⟩

set_option maxRecDepth 100000 in
set_option maxHeartbeats 4000000 in
theorem columnIn_any (e : Er) (w : World) (hg : ErrT w) :
    Calls Tryz.prog 34 #[erV e] w fun r w' => r = .returned (.int .i64 (((colE e).map (·.1)).getD 0)) ∧ Below w.heap.size w w' := by
  obtain ⟨W1, hW1⟩ : ∃ W1, w.alloc (.cells #[.int .i64 0, .nilIface] 95) = W1 := ⟨_, rfl⟩
  have B1 : Below w.heap.size w W1 := hW1 ▸ (Below.refl _ _).alloc (Nat.le_refl _) _
  have hg1 : ErrT W1 := hg.below B1 hg.2
  have c1 : W1.cell? ⟨w.heap.size, 0, none⟩ = some (.int .i64 0) := hW1 ▸ slab_cell (heap_new' _ _ _ rfl)
  have d1 : W1.cell? ⟨w.heap.size, 1, none⟩ = some .nilIface := hW1 ▸ slab_cell (heap_new' _ _ _ rfl)
  have f1 : ∀ o, W1.frozen? ⟨w.heap.size, o, none⟩ = false := fun o => hW1 ▸ slab_free (heap_new' _ _ _ rfl)
  have l1 : w.heap.size < W1.heap.size := by rw [← hW1]; simp
  clear hg
  by_cases he : e = .nil
  · subst he
    simp only [erV]
    go_enter Tryz.func34, Tryz.ntmps34
    go_wp2_with (go_at_call 59; refine (as_nil _ _).mono ?_; rintro e w' ⟨rfl, rfl⟩)
    go_ret
    exact ⟨rfl, B1⟩
  have HC := As_col e he w.heap.size (.int .i64 0) W1 hg1 c1 (f1 0) .nilIface d1 (f1 1)
  clear he c1 d1 f1 hg1
  generalize hv : erV e = v at *
  go_enter Tryz.func34, Tryz.ntmps34
  go_wp2_with fail
  refine HC.mono ?_
  rintro r w3 (⟨n, e1, hfi, rfl, w1, b1, rfl⟩ | ⟨hfi, rfl, b1⟩)
  · have c2 : ((w1.setCell ⟨w.heap.size, 0, none⟩ (.int .i64 n)).setCell ⟨w.heap.size, 1, none⟩ (erV e1)).cell? ⟨w.heap.size, 0, none⟩ = some (.int .i64 n) := by
      rw [World.cell?_setCell_other _ _ _ _ (by simp)]
      exact World.cell?_setCell_same _ _ _ ((World.cell?_of_block (w := W1) (b1.block _ l1)).trans (hW1 ▸ slab_cell (heap_new' _ _ _ rfl)))
    have HN : Hid (colE e = some (n, e1)) := hfi
    have B2 : Below w.heap.size w ((w1.setCell ⟨w.heap.size, 0, none⟩ (.int .i64 n)).setCell ⟨w.heap.size, 1, none⟩ (erV e1)) := ((B1.trans (b1.mono B1.size)).setCell (Nat.le_refl _) _).setCell (Nat.le_refl _) _
    clear hfi b1 HC hv hW1
    go_wp2
    go_ret
    exact ⟨by rw [HN.out]; rfl, B2⟩
  · have HN : Hid (colE e = none) := hfi
    have B2 := B1.trans (b1.mono B1.size)
    clear hfi b1 HC hv hW1
    go_wp2
    go_ret
    exact ⟨by rw [HN.out]; rfl, B2⟩
end Go.Proofs.YtepkdodicglilaaGreatDoor
