/- errors.As, and what is read of an error by it: codeIn, placeIn (stage 11). -/
import Derived.Test.YteejkmcljokloaaGreatDoorAsC
import Derived.Deep.RegionHeld3
namespace Go.Proofs.YteejkmcljokloaaGreatDoor
open Go.RowKit Go.Extern.Stop Go.Stop Go.Extern

/-- The library's variable errors.errorType holds the handle of error. -/
abbrev ErrT (w : World) : Prop := w.cell? ⟨0, 0, none⟩ = some (.iface 150 (.agg #[.pointer (some ⟨2, 64, none⟩)])) ∧ 0 < w.heap.size
theorem ErrT.below {B : Nat} {w w' : World} (h : ErrT w) (hb : Below B w w') (hB : 0 < B) : ErrT w' := ⟨(World.cell?_of_block (w := w) (hb.block _ hB)).trans h.1, Nat.lt_of_lt_of_le h.2 hb.size⟩

set_option maxRecDepth 100000 in
set_option maxHeartbeats 4000000 in
theorem As_code (e : Er) (he : e ≠ .nil) (tb : Nat) (old : Value) (w : World) (hg : ErrT w) (ht0 : w.cell? ⟨tb, 0, none⟩ = some old) (hf0 : w.frozen? ⟨tb, 0, none⟩ = false) :
    Calls Tryz.prog 54 #[erV e, .iface 93 (.pointer (some ⟨tb, 0, none⟩))] w fun r w' =>
      (∃ n, codeE e = some n ∧ r = .returned (.bool true) ∧ ∃ w1, Below w.heap.size w w1 ∧ w' = w1.setCell ⟨tb, 0, none⟩ (.int .i64 n)) ∨ (codeE e = none ∧ r = .returned (.bool false) ∧ Below w.heap.size w w') := by
  have xVOf := @run_callFunc_extern Tryz.prog 81 _ (fun args => ReflectliteValue.unpack (args.getD 0 (.tuple #[]))) Tryz.func81 (by kernel_rfl) (by kernel_rfl) (by kernel_rfl) (by kernel_rfl)
  have xVType := @run_callFunc_extern Tryz.prog 82 _ (ReflectliteValue.methodAny (ReflectliteValue.valueError "reflectlite.Value.Type" 0) (fun t _ _ _ => ReflectliteType.toType t)) Tryz.func82 (by kernel_rfl) (by kernel_rfl) (by kernel_rfl) (by kernel_rfl)
  have xVNil := @run_callFunc_extern Tryz.prog 83 _ (ReflectliteValue.method (ReflectliteValue.valueError "reflectlite.Value.IsNil" 0) ReflectliteValue.isNil) Tryz.func83 (by kernel_rfl) (by kernel_rfl) (by kernel_rfl) (by kernel_rfl)
  have xMKind := @run_callFunc_extern Tryz.prog 169 _ (ReflectliteType.abiMethod fun t => do pure (.int .u8 (← Rtype.kind t))) Tryz.func169 (by kernel_rfl) (by kernel_rfl) (by kernel_rfl) (by kernel_rfl)
  have xMElem := @run_callFunc_extern Tryz.prog 181 _ (ReflectliteType.method ReflectliteType.elem) Tryz.func181 (by kernel_rfl) (by kernel_rfl) (by kernel_rfl) (by kernel_rfl)
  have xMImpl := @run_callFunc_extern Tryz.prog 182 _ (ReflectliteType.relation "Implements" ReflectliteType.implements_) Tryz.func182 (by kernel_rfl) (by kernel_rfl) (by kernel_rfl) (by kernel_rfl)
  have mK := Tryz.methodKind
  have mE := Tryz.methodElem
  have mI := Tryz.methodImplements
  have f6 := Tryz.valueOf93
  have f7 := Tryz.type93
  have kp := Tryz.kind93
  have kt := Tryz.kind90
  have ep := Tryz.elem93
  have it := Tryz.implements90
  have htl : tb < w.heap.size := by
    rcases Nat.lt_or_ge tb w.heap.size with h | h
    · exact h
    · simp [World.cell?, Array.getElem?_eq_none h] at ht0
  have n8 := Tryz.isNil93 ⟨w.heap.size, 0, none⟩ ⟨tb, 0, none⟩ ((w.alloc (.cells #[.pointer (some ⟨tb, 0, none⟩)] 93)).alloc (.cells #[.pointer (some ⟨2, 93, none⟩), .pointer (some ⟨w.heap.size, 0, none⟩), .int .u64 150] 130)) (by simp)
  have hg2 : ((w.alloc (.cells #[.pointer (some ⟨tb, 0, none⟩)] 93)).alloc (.cells #[.pointer (some ⟨2, 93, none⟩), .pointer (some ⟨w.heap.size, 0, none⟩), .int .u64 150] 130)).cell? ⟨0, 0, none⟩ = some (.iface 150 (.agg #[.pointer (some ⟨2, 64, none⟩)])) := by
    rw [World.cell?_alloc_lt _ _ ⟨0, 0, none⟩ (by have := hg.2; simp <;> omega), World.cell?_alloc_lt _ _ ⟨0, 0, none⟩ hg.2]; exact hg.1
  have b2 : Below w.heap.size w ((w.alloc (.cells #[.pointer (some ⟨tb, 0, none⟩)] 93)).alloc (.cells #[.pointer (some ⟨2, 93, none⟩), .pointer (some ⟨w.heap.size, 0, none⟩), .int .u64 150] 130)) := ((Below.refl _ _).alloc (Nat.le_refl _) _).alloc (Nat.le_of_lt (by simp)) _
  have HC := as_code e he tb w.heap.size old ((w.alloc (.cells #[.pointer (some ⟨tb, 0, none⟩)] 93)).alloc (.cells #[.pointer (some ⟨2, 93, none⟩), .pointer (some ⟨w.heap.size, 0, none⟩), .int .u64 150] 130)) (by rw [World.cell?_alloc_lt _ _ ⟨w.heap.size, 0, none⟩ (by simp)]; exact slab_cell (heap_new' _ _ _ rfl)) (by rw [World.cell?_alloc_lt _ _ ⟨tb, 0, none⟩ (by simp; omega), World.cell?_alloc_lt _ _ ⟨tb, 0, none⟩ htl]; exact ht0) (by rw [World.frozen?_alloc_old _ _ ⟨tb, 0, none⟩ (by simp; omega), World.frozen?_alloc_old _ _ ⟨tb, 0, none⟩ (Nat.ne_of_lt htl)]; exact hf0)
  rcases erV_cases e with h | ⟨_, t', v', hv⟩
  · exact absurd h he
  rw [hv] at HC ⊢
  clear hv ht0 hf0 hg
  go_enter Tryz.func54, Tryz.ntmps54
  go_wp2_with fail
  refine HC.mono ?_
  rintro r w3 (⟨n, hfi, he, w1, b1, hw⟩ | ⟨hfi, he, b1⟩)
  · subst he
    go_wp2
    go_ret
    exact .inl ⟨n, hfi, rfl, w1, b2.trans (b1.mono b2.size), (by first | exact hw | rfl)⟩
  · subst he
    go_wp2
    go_ret
    exact .inr ⟨hfi, rfl, b2.trans (b1.mono b2.size)⟩

set_option maxRecDepth 100000 in
set_option maxHeartbeats 4000000 in
theorem As_col (e : Er) (he : e ≠ .nil) (tb : Nat) (old : Value) (w : World) (hg : ErrT w) (ht0 : w.cell? ⟨tb, 0, none⟩ = some old) (hf0 : w.frozen? ⟨tb, 0, none⟩ = false) (old1 : Value) (ht1 : w.cell? ⟨tb, 1, none⟩ = some old1) (hf1 : w.frozen? ⟨tb, 1, none⟩ = false) :
    Calls Tryz.prog 54 #[erV e, .iface 96 (.pointer (some ⟨tb, 0, none⟩))] w fun r w' =>
      (∃ n e1, colE e = some (n, e1) ∧ r = .returned (.bool true) ∧ ∃ w1, Below w.heap.size w w1 ∧ w' = (w1.setCell ⟨tb, 0, none⟩ (.int .i64 n)).setCell ⟨tb, 1, none⟩ (erV e1)) ∨ (colE e = none ∧ r = .returned (.bool false) ∧ Below w.heap.size w w') := by
  have xVOf := @run_callFunc_extern Tryz.prog 81 _ (fun args => ReflectliteValue.unpack (args.getD 0 (.tuple #[]))) Tryz.func81 (by kernel_rfl) (by kernel_rfl) (by kernel_rfl) (by kernel_rfl)
  have xVType := @run_callFunc_extern Tryz.prog 82 _ (ReflectliteValue.methodAny (ReflectliteValue.valueError "reflectlite.Value.Type" 0) (fun t _ _ _ => ReflectliteType.toType t)) Tryz.func82 (by kernel_rfl) (by kernel_rfl) (by kernel_rfl) (by kernel_rfl)
  have xVNil := @run_callFunc_extern Tryz.prog 83 _ (ReflectliteValue.method (ReflectliteValue.valueError "reflectlite.Value.IsNil" 0) ReflectliteValue.isNil) Tryz.func83 (by kernel_rfl) (by kernel_rfl) (by kernel_rfl) (by kernel_rfl)
  have xMKind := @run_callFunc_extern Tryz.prog 169 _ (ReflectliteType.abiMethod fun t => do pure (.int .u8 (← Rtype.kind t))) Tryz.func169 (by kernel_rfl) (by kernel_rfl) (by kernel_rfl) (by kernel_rfl)
  have xMElem := @run_callFunc_extern Tryz.prog 181 _ (ReflectliteType.method ReflectliteType.elem) Tryz.func181 (by kernel_rfl) (by kernel_rfl) (by kernel_rfl) (by kernel_rfl)
  have xMImpl := @run_callFunc_extern Tryz.prog 182 _ (ReflectliteType.relation "Implements" ReflectliteType.implements_) Tryz.func182 (by kernel_rfl) (by kernel_rfl) (by kernel_rfl) (by kernel_rfl)
  have mK := Tryz.methodKind
  have mE := Tryz.methodElem
  have mI := Tryz.methodImplements
  have f6 := Tryz.valueOf96
  have f7 := Tryz.type96
  have kp := Tryz.kind96
  have kt := Tryz.kind95
  have ep := Tryz.elem96
  have it := Tryz.implements95
  have htl : tb < w.heap.size := by
    rcases Nat.lt_or_ge tb w.heap.size with h | h
    · exact h
    · simp [World.cell?, Array.getElem?_eq_none h] at ht0
  have n8 := Tryz.isNil96 ⟨w.heap.size, 0, none⟩ ⟨tb, 0, none⟩ ((w.alloc (.cells #[.pointer (some ⟨tb, 0, none⟩)] 96)).alloc (.cells #[.pointer (some ⟨2, 96, none⟩), .pointer (some ⟨w.heap.size, 0, none⟩), .int .u64 150] 130)) (by simp)
  have hg2 : ((w.alloc (.cells #[.pointer (some ⟨tb, 0, none⟩)] 96)).alloc (.cells #[.pointer (some ⟨2, 96, none⟩), .pointer (some ⟨w.heap.size, 0, none⟩), .int .u64 150] 130)).cell? ⟨0, 0, none⟩ = some (.iface 150 (.agg #[.pointer (some ⟨2, 64, none⟩)])) := by
    rw [World.cell?_alloc_lt _ _ ⟨0, 0, none⟩ (by have := hg.2; simp <;> omega), World.cell?_alloc_lt _ _ ⟨0, 0, none⟩ hg.2]; exact hg.1
  have b2 : Below w.heap.size w ((w.alloc (.cells #[.pointer (some ⟨tb, 0, none⟩)] 96)).alloc (.cells #[.pointer (some ⟨2, 96, none⟩), .pointer (some ⟨w.heap.size, 0, none⟩), .int .u64 150] 130)) := ((Below.refl _ _).alloc (Nat.le_refl _) _).alloc (Nat.le_of_lt (by simp)) _
  have HC := as_col e he tb w.heap.size old ((w.alloc (.cells #[.pointer (some ⟨tb, 0, none⟩)] 96)).alloc (.cells #[.pointer (some ⟨2, 96, none⟩), .pointer (some ⟨w.heap.size, 0, none⟩), .int .u64 150] 130)) (by rw [World.cell?_alloc_lt _ _ ⟨w.heap.size, 0, none⟩ (by simp)]; exact slab_cell (heap_new' _ _ _ rfl)) (by rw [World.cell?_alloc_lt _ _ ⟨tb, 0, none⟩ (by simp; omega), World.cell?_alloc_lt _ _ ⟨tb, 0, none⟩ htl]; exact ht0) (by rw [World.frozen?_alloc_old _ _ ⟨tb, 0, none⟩ (by simp; omega), World.frozen?_alloc_old _ _ ⟨tb, 0, none⟩ (Nat.ne_of_lt htl)]; exact hf0) old1 (by rw [World.cell?_alloc_lt _ _ ⟨tb, 1, none⟩ (by simp; omega), World.cell?_alloc_lt _ _ ⟨tb, 1, none⟩ htl]; exact ht1) (by rw [World.frozen?_alloc_old _ _ ⟨tb, 1, none⟩ (by simp; omega), World.frozen?_alloc_old _ _ ⟨tb, 1, none⟩ (Nat.ne_of_lt htl)]; exact hf1)
  rcases erV_cases e with h | ⟨_, t', v', hv⟩
  · exact absurd h he
  rw [hv] at HC ⊢
  clear hv ht0 hf0 hg
  go_enter Tryz.func54, Tryz.ntmps54
  go_wp2_with fail
  refine HC.mono ?_
  rintro r w3 (⟨n, e1, hfi, he, w1, b1, hw⟩ | ⟨hfi, he, b1⟩)
  · subst he
    go_wp2
    go_ret
    exact .inl ⟨n, e1, hfi, rfl, w1, b2.trans (b1.mono b2.size), (by first | exact hw | rfl)⟩
  · subst he
    go_wp2
    go_ret
    exact .inr ⟨hfi, rfl, b2.trans (b1.mono b2.size)⟩

set_option maxRecDepth 100000 in
set_option maxHeartbeats 4000000 in
theorem codeIn_any (e : Er) (w : World) (hg : ErrT w) :
    Calls Tryz.prog 27 #[erV e] w fun r w' => r = .returned (.int .i64 ((codeE e).getD 0)) ∧ Below w.heap.size w w' := by
  obtain ⟨W1, hW1⟩ : ∃ W1, w.alloc (.cells #[.int .i64 0] 90) = W1 := ⟨_, rfl⟩
  have B1 : Below w.heap.size w W1 := hW1 ▸ (Below.refl _ _).alloc (Nat.le_refl _) _
  have hg1 : ErrT W1 := hg.below B1 hg.2
  have c1 : W1.cell? ⟨w.heap.size, 0, none⟩ = some (.int .i64 0) := hW1 ▸ slab_cell (heap_new' _ _ _ rfl)
  have f1 : W1.frozen? ⟨w.heap.size, 0, none⟩ = false := hW1 ▸ slab_free (heap_new' _ _ _ rfl)
  have l1 : w.heap.size < W1.heap.size := by rw [← hW1]; simp
  clear hg
  by_cases he : e = .nil
  · subst he
    simp only [erV]
    go_enter Tryz.func27, Tryz.ntmps27
    go_wp2_with (go_at_call 54; refine (as_nil _ _).mono ?_; rintro e w' ⟨rfl, rfl⟩)
    go_ret
    exact ⟨rfl, B1⟩
  have HC := As_code e he w.heap.size (.int .i64 0) W1 hg1 c1 f1
  clear he c1 f1 hg1
  generalize hv : erV e = v at *
  go_enter Tryz.func27, Tryz.ntmps27
  go_wp2_with fail
  refine HC.mono ?_
  rintro r w3 (⟨n, hfi, rfl, w1, b1, rfl⟩ | ⟨hfi, rfl, b1⟩)
  · have c2 : (w1.setCell ⟨w.heap.size, 0, none⟩ (.int .i64 n)).cell? ⟨w.heap.size, 0, none⟩ = some (.int .i64 n) := World.cell?_setCell_same _ _ _ ((World.cell?_of_block (w := W1) (b1.block _ l1)).trans (hW1 ▸ slab_cell (heap_new' _ _ _ rfl)))
    have HN : Hid (codeE e = some n) := hfi
    have B2 : Below w.heap.size w (w1.setCell ⟨w.heap.size, 0, none⟩ (.int .i64 n)) := (B1.trans (b1.mono B1.size)).setCell (Nat.le_refl _) _
    clear hfi b1 HC hv hW1
    go_wp2
    go_ret
    exact ⟨by rw [HN.out]; rfl, B2⟩
  · have HN : Hid (codeE e = none) := hfi
    have B2 := B1.trans (b1.mono B1.size)
    clear hfi b1 HC hv hW1
    go_wp2
    go_ret
    exact ⟨by rw [HN.out]; rfl, B2⟩

set_option maxRecDepth 100000 in
set_option maxHeartbeats 4000000 in
theorem placeIn_none (e : Er) (h0 : colE e = none) (w : World) (hg : ErrT w) :
    Calls Tryz.prog 28 #[erV e] w fun r w' => r = .returned (.int .i64 0) ∧ Below w.heap.size w w' := by
  obtain ⟨W1, hW1⟩ : ∃ W1, w.alloc (.cells #[.int .i64 0, .nilIface] 95) = W1 := ⟨_, rfl⟩
  have B1 : Below w.heap.size w W1 := hW1 ▸ (Below.refl _ _).alloc (Nat.le_refl _) _
  have hg1 : ErrT W1 := hg.below B1 hg.2
  have c1 : W1.cell? ⟨w.heap.size, 0, none⟩ = some (.int .i64 0) := hW1 ▸ slab_cell (heap_new' _ _ _ rfl)
  have d1 : W1.cell? ⟨w.heap.size, 1, none⟩ = some .nilIface := hW1 ▸ slab_cell (heap_new' _ _ _ rfl)
  have f1 : ∀ o, W1.frozen? ⟨w.heap.size, o, none⟩ = false := fun o => hW1 ▸ slab_free (heap_new' _ _ _ rfl)
  clear hg
  by_cases he : e = .nil
  · subst he
    simp only [erV]
    go_enter Tryz.func28, Tryz.ntmps28
    go_wp2_with (go_at_call 54; refine (as_nil _ _).mono ?_; rintro e w' ⟨rfl, rfl⟩)
    go_ret
    exact ⟨rfl, B1⟩
  have HC := As_col e he w.heap.size (.int .i64 0) W1 hg1 c1 (f1 0) .nilIface d1 (f1 1)
  have H0 : Hid (colE e = none) := h0
  clear he c1 d1 f1 hg1 h0
  generalize hv : erV e = v at *
  go_enter Tryz.func28, Tryz.ntmps28
  go_wp2_with fail
  refine HC.mono ?_
  rintro r w3 (⟨n, e1, hfi, rfl, w1, b1, rfl⟩ | ⟨hfi, rfl, b1⟩)
  · rw [H0.out] at hfi; cases hfi
  · have B2 := B1.trans (b1.mono B1.size)
    clear hfi b1 HC hv hW1
    go_wp2
    go_ret
    exact ⟨rfl, B2⟩
/-- What stands while a place is read. -/
abbrev StP (w : World) (g : Nat) (p : Int) (v : Value) (w' : World) : Prop := w'.cell? ⟨g, 0, none⟩ = some (.int .i64 p) ∧ w'.cell? ⟨g, 1, none⟩ = some v ∧ g < w'.heap.size ∧ ErrT w' ∧ Below w.heap.size w w'
theorem StP.keep {w : World} {g : Nat} {p : Int} {v : Value} {w1 w2 : World} (h : StP w g p v w1) (hb : Below w1.heap.size w1 w2) : StP w g p v w2 :=
  ⟨(hb.cell (p := ⟨g, 0, none⟩) h.2.2.1).trans h.1, (hb.cell (p := ⟨g, 1, none⟩) h.2.2.1).trans h.2.1, Nat.lt_of_lt_of_le h.2.2.1 hb.size, h.2.2.2.1.below hb h.2.2.2.1.2, below_step h.2.2.2.2 (Nat.le_refl _) hb⟩
set_option maxRecDepth 100000 in
set_option maxHeartbeats 4000000 in
theorem placeIn_one (p n : Int) (hp : 0 ≤ p) (hp2 : p ≤ 1000000000000) (w : World) (hg : ErrT w) :
    Calls Tryz.prog 28 #[erV (.col p (.code n))] w fun r w' => r = .returned (.int .i64 p) ∧ Below w.heap.size w w' := by
  obtain ⟨W1, hW1⟩ : ∃ W1, w.alloc (.cells #[.int .i64 0, .nilIface] 95) = W1 := ⟨_, rfl⟩
  have B1 : Below w.heap.size w W1 := hW1 ▸ (Below.refl _ _).alloc (Nat.le_refl _) _
  have hg1 : ErrT W1 := hg.below B1 hg.2
  have c1 : W1.cell? ⟨w.heap.size, 0, none⟩ = some (.int .i64 0) := hW1 ▸ slab_cell (heap_new' _ _ _ rfl)
  have d1 : W1.cell? ⟨w.heap.size, 1, none⟩ = some .nilIface := hW1 ▸ slab_cell (heap_new' _ _ _ rfl)
  have f1 : ∀ o, W1.frozen? ⟨w.heap.size, o, none⟩ = false := fun o => hW1 ▸ slab_free (heap_new' _ _ _ rfl)
  have l1 : w.heap.size < W1.heap.size := by rw [← hW1]; simp
  have HC := As_col (.col p (.code n)) (by simp) w.heap.size (.int .i64 0) W1 hg1 c1 (f1 0) .nilIface d1 (f1 1)
  have hre := fun w hg => placeIn_none (.code n) rfl w hg
  have HG1 : Hid (ErrT W1) := hg1
  have HGW : Hid (ErrT w) := hg
  have hp0 : IntKind.i64.wrap (p + 0) = p := by rw [Int.add_zero]; simp [IntKind.wrap, IntKind.bits, IntKind.signed]; omega
  have hp1 : IntKind.i64.wrap p = p := by simp [IntKind.wrap, IntKind.bits, IntKind.signed]; omega
  clear c1 d1 f1 hg1 hg
  simp only [colE] at HC
  generalize hv : erV (.col p (.code n)) = v at *
  generalize hv2 : erV (.code n) = v2 at *
  have hone : v2.oneCell' = true := by rw [← hv2]; rfl
  go_enter Tryz.func28, Tryz.ntmps28
  go_wp2_with fail
  refine HC.mono ?_
  rintro r w3 (⟨n', e1, hfi, rfl, w1, b1, rfl⟩ | ⟨hfi, rfl, b1⟩)
  · cases hfi
    rw [hv2] at *
    have hlt : w.heap.size < w1.heap.size := Nat.lt_of_lt_of_le l1 b1.size
    have hb1 : w1.heap[w.heap.size]? = W1.heap[w.heap.size]? := b1.block _ l1
    have k0 : w1.cell? ⟨w.heap.size, 0, none⟩ = some (.int .i64 0) := (World.cell?_of_block (w := W1) hb1).trans (hW1 ▸ slab_cell (heap_new' _ _ _ rfl))
    have k1 : w1.cell? ⟨w.heap.size, 1, none⟩ = some .nilIface := (World.cell?_of_block (w := W1) hb1).trans (hW1 ▸ slab_cell (heap_new' _ _ _ rfl))
    have k1' : (w1.setCell ⟨w.heap.size, 0, none⟩ (.int .i64 p)).cell? ⟨w.heap.size, 1, none⟩ = some .nilIface := (World.cell?_setCell_other _ _ _ _ (by simp)).trans k1
    have c2 : ((w1.setCell ⟨w.heap.size, 0, none⟩ (.int .i64 p)).setCell ⟨w.heap.size, 1, none⟩ v2).cell? ⟨w.heap.size, 0, none⟩ = some (.int .i64 p) := by
      rw [World.cell?_setCell_other _ _ _ _ (by simp)]
      exact World.cell?_setCell_same _ _ _ k0
    have c3 : ((w1.setCell ⟨w.heap.size, 0, none⟩ (.int .i64 p)).setCell ⟨w.heap.size, 1, none⟩ v2).cell? ⟨w.heap.size, 1, none⟩ = some v2 := World.cell?_setCell_same _ _ _ k1'
    have B2 : Below w.heap.size w ((w1.setCell ⟨w.heap.size, 0, none⟩ (.int .i64 p)).setCell ⟨w.heap.size, 1, none⟩ v2) := ((B1.trans (b1.mono B1.size)).setCell (Nat.le_refl _) _).setCell (Nat.le_refl _) _
    have hg2 : ErrT ((w1.setCell ⟨w.heap.size, 0, none⟩ (.int .i64 p)).setCell ⟨w.heap.size, 1, none⟩ v2) := by
      have h1 : ErrT w1 := HG1.out.below b1 HG1.out.2
      have hne : (0 : Nat) < w.heap.size := HGW.out.2
      exact HGW.out.below B2 hne
    generalize ((w1.setCell ⟨w.heap.size, 0, none⟩ (.int .i64 p)).setCell ⟨w.heap.size, 1, none⟩ v2) = w4 at *
    have hPL : StP w w.heap.size p v2 w4.drew := ⟨c2, c3, World.block_lt_of_cell? w4 ⟨w.heap.size, 0, none⟩ c2, hg2, B2.drew⟩
    clear hb1 k0 k1 k1' c2 c3 B2 hg2 HC b1 hv hW1
    go_wp2_with fail
    go_region_held3 (StP w w.heap.size p v2) (first | exact hPL | exact StP.keep (by assumption) hb) (first | (go_at_call 28; refine (hre _ (show StP w w.heap.size p v2 _ by assumption).2.2.2.1).mono ?_; rintro r wA ⟨rfl, hb⟩) | fail)
    rename_i hLL
    have hB := hLL.2.2.2.2
    clear hPL hLL hre
    go_wp2
    go_ret
    exact ⟨rfl, hB⟩
  · cases hfi
end Go.Proofs.YteejkmcljokloaaGreatDoor
