/- errors.As, and what is read of an error by it: codeIn, columnIn, placeIn (stage 11). -/
import Derived.Test.YtffjnhhfplcloaaGreatDoorAsC
import Derived.Deep.RegionHeld3
namespace Go.Proofs.YtffjnhhfplcloaaGreatDoor
open Go.RowKit Go.Extern.Stop Go.Stop Go.Extern

/-- The library's variable errors.errorType holds the handle of error. -/
abbrev ErrT (w : World) : Prop := w.cell? ⟨1, 0, none⟩ = some (.iface 303 (.agg #[.pointer (some ⟨8, 115, none⟩)])) ∧ 1 < w.heap.size
theorem ErrT.below {B : Nat} {w w' : World} (h : ErrT w) (hb : Below B w w') (hB : 1 < B) : ErrT w' := ⟨(World.cell?_of_block (w := w) (hb.block _ hB)).trans h.1, Nat.lt_of_lt_of_le h.2 hb.size⟩

set_option maxRecDepth 100000 in
set_option maxHeartbeats 4000000 in
theorem As_code (e : Er) (he : e ≠ .nil) (tb : Nat) (old : Value) (w : World) (hg : ErrT w) (ht0 : w.cell? ⟨tb, 0, none⟩ = some old) (hf0 : w.frozen? ⟨tb, 0, none⟩ = false) :
    Calls Tryz.prog 162 #[erV e, .iface 191 (.pointer (some ⟨tb, 0, none⟩))] w fun r w' =>
      (∃ n, codeE e = some n ∧ r = .returned (.bool true) ∧ ∃ w1, Below w.heap.size w w1 ∧ w' = w1.setCell ⟨tb, 0, none⟩ (.int .i64 n)) ∨ (codeE e = none ∧ r = .returned (.bool false) ∧ Below w.heap.size w w') := by
  have xVOf := @run_callFunc_extern Tryz.prog 232 _ (fun args => ReflectliteValue.unpack (args.getD 0 (.tuple #[]))) Tryz.func232 (by kernel_rfl) (by kernel_rfl) (by kernel_rfl) (by kernel_rfl)
  have xVType := @run_callFunc_extern Tryz.prog 233 _ (ReflectliteValue.methodAny (ReflectliteValue.valueError "reflectlite.Value.Type" 0) (fun t _ _ _ => ReflectliteType.toType t)) Tryz.func233 (by kernel_rfl) (by kernel_rfl) (by kernel_rfl) (by kernel_rfl)
  have xVNil := @run_callFunc_extern Tryz.prog 234 _ (ReflectliteValue.method (ReflectliteValue.valueError "reflectlite.Value.IsNil" 0) ReflectliteValue.isNil) Tryz.func234 (by kernel_rfl) (by kernel_rfl) (by kernel_rfl) (by kernel_rfl)
  have xMKind := @run_callFunc_extern Tryz.prog 355 _ (ReflectliteType.abiMethod fun t => do pure (.int .u8 (← Rtype.kind t))) Tryz.func355 (by kernel_rfl) (by kernel_rfl) (by kernel_rfl) (by kernel_rfl)
  have xMElem := @run_callFunc_extern Tryz.prog 376 _ (ReflectliteType.method ReflectliteType.elem) Tryz.func376 (by kernel_rfl) (by kernel_rfl) (by kernel_rfl) (by kernel_rfl)
  have xMImpl := @run_callFunc_extern Tryz.prog 377 _ (ReflectliteType.relation "Implements" ReflectliteType.implements_) Tryz.func377 (by kernel_rfl) (by kernel_rfl) (by kernel_rfl) (by kernel_rfl)
  have mK := Tryz.methodKind
  have mE := Tryz.methodElem
  have mI := Tryz.methodImplements
  have f6 := Tryz.valueOf191
  have f7 := Tryz.type191
  have kp := Tryz.kind191
  have kt := Tryz.kind189
  have ep := Tryz.elem191
  have it := Tryz.implements189
  have htl : tb < w.heap.size := by
    rcases Nat.lt_or_ge tb w.heap.size with h | h
    · exact h
    · simp [World.cell?, Array.getElem?_eq_none h] at ht0
  have n8 := Tryz.isNil191 ⟨w.heap.size, 0, none⟩ ⟨tb, 0, none⟩ ((w.alloc (.cells #[.pointer (some ⟨tb, 0, none⟩)] 191)).alloc (.cells #[.pointer (some ⟨8, 191, none⟩), .pointer (some ⟨w.heap.size, 0, none⟩), .int .u64 150] 263)) (by simp)
  have hg2 : ((w.alloc (.cells #[.pointer (some ⟨tb, 0, none⟩)] 191)).alloc (.cells #[.pointer (some ⟨8, 191, none⟩), .pointer (some ⟨w.heap.size, 0, none⟩), .int .u64 150] 263)).cell? ⟨1, 0, none⟩ = some (.iface 303 (.agg #[.pointer (some ⟨8, 115, none⟩)])) := by
    rw [World.cell?_alloc_lt _ _ ⟨1, 0, none⟩ (by have := hg.2; simp; omega), World.cell?_alloc_lt _ _ ⟨1, 0, none⟩ hg.2]; exact hg.1
  have b2 : Below w.heap.size w ((w.alloc (.cells #[.pointer (some ⟨tb, 0, none⟩)] 191)).alloc (.cells #[.pointer (some ⟨8, 191, none⟩), .pointer (some ⟨w.heap.size, 0, none⟩), .int .u64 150] 263)) := ((Below.refl _ _).alloc (Nat.le_refl _) _).alloc (Nat.le_of_lt (by simp)) _
  have HC := as_code e he tb w.heap.size old ((w.alloc (.cells #[.pointer (some ⟨tb, 0, none⟩)] 191)).alloc (.cells #[.pointer (some ⟨8, 191, none⟩), .pointer (some ⟨w.heap.size, 0, none⟩), .int .u64 150] 263)) (by rw [World.cell?_alloc_lt _ _ ⟨w.heap.size, 0, none⟩ (by simp)]; exact slab_cell (heap_new' _ _ _ rfl)) (by rw [World.cell?_alloc_lt _ _ ⟨tb, 0, none⟩ (by simp; omega), World.cell?_alloc_lt _ _ ⟨tb, 0, none⟩ htl]; exact ht0) (by rw [World.frozen?_alloc_old _ _ ⟨tb, 0, none⟩ (by simp; omega), World.frozen?_alloc_old _ _ ⟨tb, 0, none⟩ (Nat.ne_of_lt htl)]; exact hf0)
  rcases erV_cases e with h | ⟨_, t', v', hv⟩
  · exact absurd h he
  rw [hv] at HC ⊢
  clear hv ht0 hf0 hg
  go_enter Tryz.func162, Tryz.ntmps162
  go_wp2_with fail
  refine HC.mono ?_
  rintro r w3 (⟨n, hfi, he, w1, b1, hw⟩ | ⟨hfi, he, b1⟩)
  · subst he
    go_wp2
    go_ret
    exact .inl ⟨n, hfi, rfl, w1, b2.trans (b1.mono b2.size), (by first | exact hw | rfl)⟩
  · subst he
    go_wp2
    go_ret
    exact .inr ⟨hfi, rfl, b2.trans (b1.mono b2.size)⟩

set_option maxRecDepth 100000 in
set_option maxHeartbeats 4000000 in
theorem As_col (e : Er) (he : e ≠ .nil) (tb : Nat) (old : Value) (w : World) (hg : ErrT w) (ht0 : w.cell? ⟨tb, 0, none⟩ = some old) (hf0 : w.frozen? ⟨tb, 0, none⟩ = false) (old1 : Value) (ht1 : w.cell? ⟨tb, 1, none⟩ = some old1) (hf1 : w.frozen? ⟨tb, 1, none⟩ = false) :
    Calls Tryz.prog 162 #[erV e, .iface 216 (.pointer (some ⟨tb, 0, none⟩))] w fun r w' =>
      (∃ n e1, colE e = some (n, e1) ∧ r = .returned (.bool true) ∧ ∃ w1, Below w.heap.size w w1 ∧ w' = (w1.setCell ⟨tb, 0, none⟩ (.int .i64 n)).setCell ⟨tb, 1, none⟩ (erV e1)) ∨ (colE e = none ∧ r = .returned (.bool false) ∧ Below w.heap.size w w') := by
  have xVOf := @run_callFunc_extern Tryz.prog 232 _ (fun args => ReflectliteValue.unpack (args.getD 0 (.tuple #[]))) Tryz.func232 (by kernel_rfl) (by kernel_rfl) (by kernel_rfl) (by kernel_rfl)
  have xVType := @run_callFunc_extern Tryz.prog 233 _ (ReflectliteValue.methodAny (ReflectliteValue.valueError "reflectlite.Value.Type" 0) (fun t _ _ _ => ReflectliteType.toType t)) Tryz.func233 (by kernel_rfl) (by kernel_rfl) (by kernel_rfl) (by kernel_rfl)
  have xVNil := @run_callFunc_extern Tryz.prog 234 _ (ReflectliteValue.method (ReflectliteValue.valueError "reflectlite.Value.IsNil" 0) ReflectliteValue.isNil) Tryz.func234 (by kernel_rfl) (by kernel_rfl) (by kernel_rfl) (by kernel_rfl)
  have xMKind := @run_callFunc_extern Tryz.prog 355 _ (ReflectliteType.abiMethod fun t => do pure (.int .u8 (← Rtype.kind t))) Tryz.func355 (by kernel_rfl) (by kernel_rfl) (by kernel_rfl) (by kernel_rfl)
  have xMElem := @run_callFunc_extern Tryz.prog 376 _ (ReflectliteType.method ReflectliteType.elem) Tryz.func376 (by kernel_rfl) (by kernel_rfl) (by kernel_rfl) (by kernel_rfl)
  have xMImpl := @run_callFunc_extern Tryz.prog 377 _ (ReflectliteType.relation "Implements" ReflectliteType.implements_) Tryz.func377 (by kernel_rfl) (by kernel_rfl) (by kernel_rfl) (by kernel_rfl)
  have mK := Tryz.methodKind
  have mE := Tryz.methodElem
  have mI := Tryz.methodImplements
  have f6 := Tryz.valueOf216
  have f7 := Tryz.type216
  have kp := Tryz.kind216
  have kt := Tryz.kind194
  have ep := Tryz.elem216
  have it := Tryz.implements194
  have htl : tb < w.heap.size := by
    rcases Nat.lt_or_ge tb w.heap.size with h | h
    · exact h
    · simp [World.cell?, Array.getElem?_eq_none h] at ht0
  have n8 := Tryz.isNil216 ⟨w.heap.size, 0, none⟩ ⟨tb, 0, none⟩ ((w.alloc (.cells #[.pointer (some ⟨tb, 0, none⟩)] 216)).alloc (.cells #[.pointer (some ⟨8, 216, none⟩), .pointer (some ⟨w.heap.size, 0, none⟩), .int .u64 150] 263)) (by simp)
  have hg2 : ((w.alloc (.cells #[.pointer (some ⟨tb, 0, none⟩)] 216)).alloc (.cells #[.pointer (some ⟨8, 216, none⟩), .pointer (some ⟨w.heap.size, 0, none⟩), .int .u64 150] 263)).cell? ⟨1, 0, none⟩ = some (.iface 303 (.agg #[.pointer (some ⟨8, 115, none⟩)])) := by
    rw [World.cell?_alloc_lt _ _ ⟨1, 0, none⟩ (by have := hg.2; simp; omega), World.cell?_alloc_lt _ _ ⟨1, 0, none⟩ hg.2]; exact hg.1
  have b2 : Below w.heap.size w ((w.alloc (.cells #[.pointer (some ⟨tb, 0, none⟩)] 216)).alloc (.cells #[.pointer (some ⟨8, 216, none⟩), .pointer (some ⟨w.heap.size, 0, none⟩), .int .u64 150] 263)) := ((Below.refl _ _).alloc (Nat.le_refl _) _).alloc (Nat.le_of_lt (by simp)) _
  have HC := as_col e he tb w.heap.size old ((w.alloc (.cells #[.pointer (some ⟨tb, 0, none⟩)] 216)).alloc (.cells #[.pointer (some ⟨8, 216, none⟩), .pointer (some ⟨w.heap.size, 0, none⟩), .int .u64 150] 263)) (by rw [World.cell?_alloc_lt _ _ ⟨w.heap.size, 0, none⟩ (by simp)]; exact slab_cell (heap_new' _ _ _ rfl)) (by rw [World.cell?_alloc_lt _ _ ⟨tb, 0, none⟩ (by simp; omega), World.cell?_alloc_lt _ _ ⟨tb, 0, none⟩ htl]; exact ht0) (by rw [World.frozen?_alloc_old _ _ ⟨tb, 0, none⟩ (by simp; omega), World.frozen?_alloc_old _ _ ⟨tb, 0, none⟩ (Nat.ne_of_lt htl)]; exact hf0) old1 (by rw [World.cell?_alloc_lt _ _ ⟨tb, 1, none⟩ (by simp; omega), World.cell?_alloc_lt _ _ ⟨tb, 1, none⟩ htl]; exact ht1) (by rw [World.frozen?_alloc_old _ _ ⟨tb, 1, none⟩ (by simp; omega), World.frozen?_alloc_old _ _ ⟨tb, 1, none⟩ (Nat.ne_of_lt htl)]; exact hf1)
  rcases erV_cases e with h | ⟨_, t', v', hv⟩
  · exact absurd h he
  rw [hv] at HC ⊢
  clear hv ht0 hf0 hg
  go_enter Tryz.func162, Tryz.ntmps162
  go_wp2_with fail
  refine HC.mono ?_
  rintro r w3 (⟨n, e1, hfi, he, w1, b1, hw⟩ | ⟨hfi, he, b1⟩)
  · subst he
    go_wp2
    go_ret
    exact .inl ⟨n, e1, hfi, rfl, w1, b2.trans (b1.mono b2.size), (by first | exact hw | rfl)⟩
  · subst he
    go_wp2
    go_ret
    exact .inr ⟨hfi, rfl, b2.trans (b1.mono b2.size)⟩

set_option maxRecDepth 100000 in
set_option maxHeartbeats 4000000 in
theorem As_plc (e : Er) (he : e ≠ .nil) (tb : Nat) (old : Value) (w : World) (hg : ErrT w) (ht0 : w.cell? ⟨tb, 0, none⟩ = some old) (hf0 : w.frozen? ⟨tb, 0, none⟩ = false) (old1 : Value) (ht1 : w.cell? ⟨tb, 1, none⟩ = some old1) (hf1 : w.frozen? ⟨tb, 1, none⟩ = false) :
    Calls Tryz.prog 162 #[erV e, .iface 220 (.pointer (some ⟨tb, 0, none⟩))] w fun r w' =>
      (∃ n e1, plcE e = some (n, e1) ∧ r = .returned (.bool true) ∧ ∃ w1, Below w.heap.size w w1 ∧ w' = (w1.setCell ⟨tb, 0, none⟩ (.int .i64 n)).setCell ⟨tb, 1, none⟩ (erV e1)) ∨ (plcE e = none ∧ r = .returned (.bool false) ∧ Below w.heap.size w w') := by
  have xVOf := @run_callFunc_extern Tryz.prog 232 _ (fun args => ReflectliteValue.unpack (args.getD 0 (.tuple #[]))) Tryz.func232 (by kernel_rfl) (by kernel_rfl) (by kernel_rfl) (by kernel_rfl)
  have xVType := @run_callFunc_extern Tryz.prog 233 _ (ReflectliteValue.methodAny (ReflectliteValue.valueError "reflectlite.Value.Type" 0) (fun t _ _ _ => ReflectliteType.toType t)) Tryz.func233 (by kernel_rfl) (by kernel_rfl) (by kernel_rfl) (by kernel_rfl)
  have xVNil := @run_callFunc_extern Tryz.prog 234 _ (ReflectliteValue.method (ReflectliteValue.valueError "reflectlite.Value.IsNil" 0) ReflectliteValue.isNil) Tryz.func234 (by kernel_rfl) (by kernel_rfl) (by kernel_rfl) (by kernel_rfl)
  have xMKind := @run_callFunc_extern Tryz.prog 355 _ (ReflectliteType.abiMethod fun t => do pure (.int .u8 (← Rtype.kind t))) Tryz.func355 (by kernel_rfl) (by kernel_rfl) (by kernel_rfl) (by kernel_rfl)
  have xMElem := @run_callFunc_extern Tryz.prog 376 _ (ReflectliteType.method ReflectliteType.elem) Tryz.func376 (by kernel_rfl) (by kernel_rfl) (by kernel_rfl) (by kernel_rfl)
  have xMImpl := @run_callFunc_extern Tryz.prog 377 _ (ReflectliteType.relation "Implements" ReflectliteType.implements_) Tryz.func377 (by kernel_rfl) (by kernel_rfl) (by kernel_rfl) (by kernel_rfl)
  have mK := Tryz.methodKind
  have mE := Tryz.methodElem
  have mI := Tryz.methodImplements
  have f6 := Tryz.valueOf220
  have f7 := Tryz.type220
  have kp := Tryz.kind220
  have kt := Tryz.kind219
  have ep := Tryz.elem220
  have it := Tryz.implements219
  have htl : tb < w.heap.size := by
    rcases Nat.lt_or_ge tb w.heap.size with h | h
    · exact h
    · simp [World.cell?, Array.getElem?_eq_none h] at ht0
  have n8 := Tryz.isNil220 ⟨w.heap.size, 0, none⟩ ⟨tb, 0, none⟩ ((w.alloc (.cells #[.pointer (some ⟨tb, 0, none⟩)] 220)).alloc (.cells #[.pointer (some ⟨8, 220, none⟩), .pointer (some ⟨w.heap.size, 0, none⟩), .int .u64 150] 263)) (by simp)
  have hg2 : ((w.alloc (.cells #[.pointer (some ⟨tb, 0, none⟩)] 220)).alloc (.cells #[.pointer (some ⟨8, 220, none⟩), .pointer (some ⟨w.heap.size, 0, none⟩), .int .u64 150] 263)).cell? ⟨1, 0, none⟩ = some (.iface 303 (.agg #[.pointer (some ⟨8, 115, none⟩)])) := by
    rw [World.cell?_alloc_lt _ _ ⟨1, 0, none⟩ (by have := hg.2; simp; omega), World.cell?_alloc_lt _ _ ⟨1, 0, none⟩ hg.2]; exact hg.1
  have b2 : Below w.heap.size w ((w.alloc (.cells #[.pointer (some ⟨tb, 0, none⟩)] 220)).alloc (.cells #[.pointer (some ⟨8, 220, none⟩), .pointer (some ⟨w.heap.size, 0, none⟩), .int .u64 150] 263)) := ((Below.refl _ _).alloc (Nat.le_refl _) _).alloc (Nat.le_of_lt (by simp)) _
  have HC := as_plc e he tb w.heap.size old ((w.alloc (.cells #[.pointer (some ⟨tb, 0, none⟩)] 220)).alloc (.cells #[.pointer (some ⟨8, 220, none⟩), .pointer (some ⟨w.heap.size, 0, none⟩), .int .u64 150] 263)) (by rw [World.cell?_alloc_lt _ _ ⟨w.heap.size, 0, none⟩ (by simp)]; exact slab_cell (heap_new' _ _ _ rfl)) (by rw [World.cell?_alloc_lt _ _ ⟨tb, 0, none⟩ (by simp; omega), World.cell?_alloc_lt _ _ ⟨tb, 0, none⟩ htl]; exact ht0) (by rw [World.frozen?_alloc_old _ _ ⟨tb, 0, none⟩ (by simp; omega), World.frozen?_alloc_old _ _ ⟨tb, 0, none⟩ (Nat.ne_of_lt htl)]; exact hf0) old1 (by rw [World.cell?_alloc_lt _ _ ⟨tb, 1, none⟩ (by simp; omega), World.cell?_alloc_lt _ _ ⟨tb, 1, none⟩ htl]; exact ht1) (by rw [World.frozen?_alloc_old _ _ ⟨tb, 1, none⟩ (by simp; omega), World.frozen?_alloc_old _ _ ⟨tb, 1, none⟩ (Nat.ne_of_lt htl)]; exact hf1)
  rcases erV_cases e with h | ⟨_, t', v', hv⟩
  · exact absurd h he
  rw [hv] at HC ⊢
  clear hv ht0 hf0 hg
  go_enter Tryz.func162, Tryz.ntmps162
  go_wp2_with fail
  refine HC.mono ?_
  rintro r w3 (⟨n, e1, hfi, he, w1, b1, hw⟩ | ⟨hfi, he, b1⟩)
  · subst he
    go_wp2
    go_ret
    exact .inl ⟨n, e1, hfi, rfl, w1, b2.trans (b1.mono b2.size), (by first | exact hw | rfl)⟩
  · subst he
    go_wp2
    go_ret
    exact .inr ⟨hfi, rfl, b2.trans (b1.mono b2.size)⟩

set_option maxRecDepth 100000 in
set_option maxHeartbeats 4000000 in
theorem codeIn_any (e : Er) (w : World) (hg : ErrT w) :
    Calls Tryz.prog 85 #[erV e] w fun r w' => r = .returned (.int .i64 ((codeE e).getD 0)) ∧ Below w.heap.size w w' := by
  obtain ⟨W1, hW1⟩ : ∃ W1, w.alloc (.cells #[.int .i64 0] 189) = W1 := ⟨_, rfl⟩
  have B1 : Below w.heap.size w W1 := hW1 ▸ (Below.refl _ _).alloc (Nat.le_refl _) _
  have hg1 : ErrT W1 := hg.below B1 hg.2
  have c1 : W1.cell? ⟨w.heap.size, 0, none⟩ = some (.int .i64 0) := hW1 ▸ slab_cell (heap_new' _ _ _ rfl)
  have f1 : W1.frozen? ⟨w.heap.size, 0, none⟩ = false := hW1 ▸ slab_free (heap_new' _ _ _ rfl)
  have l1 : w.heap.size < W1.heap.size := by rw [← hW1]; simp
  clear hg
  by_cases he : e = .nil
  · subst he
    simp only [erV]
    go_enter Tryz.func85, Tryz.ntmps85
    go_wp2_with (go_at_call 162; refine (as_nil _ _).mono ?_; rintro e w' ⟨rfl, rfl⟩)
    go_ret
    exact ⟨rfl, B1⟩
  have HC := As_code e he w.heap.size (.int .i64 0) W1 hg1 c1 f1
  clear he c1 f1 hg1
  generalize hv : erV e = v at *
  go_enter Tryz.func85, Tryz.ntmps85
  go_wp2_with fail
  refine HC.mono ?_
  rintro r w3 (⟨n, hfi, rfl, w1, b1, rfl⟩ | ⟨hfi, rfl, b1⟩)
  · have c2 : (w1.setCell ⟨w.heap.size, 0, none⟩ (.int .i64 n)).cell? ⟨w.heap.size, 0, none⟩ = some (.int .i64 n) := World.cell?_setCell_same _ _ _ ((World.cell?_of_block (w := W1) (b1.block _ l1)).trans (hW1 ▸ slab_cell (heap_new' _ _ _ rfl)))
    have HN : Hid (codeE e = some n) := hfi
    have B2 : Below w.heap.size w (w1.setCell ⟨w.heap.size, 0, none⟩ (.int .i64 n)) := (B1.trans (b1.mono B1.size)).setCell (Nat.le_refl _) _
    clear hfi b1 HC hv hW1
    go_wp2
    go_ret
    exact ⟨by rw [HN.out]; rfl, B2⟩
  · have HN : Hid (codeE e = none) := hfi
    have B2 := B1.trans (b1.mono B1.size)
    clear hfi b1 HC hv hW1
    go_wp2
    go_ret
    exact ⟨by rw [HN.out]; rfl, B2⟩

set_option maxRecDepth 100000 in
set_option maxHeartbeats 4000000 in
theorem columnIn_any (e : Er) (w : World) (hg : ErrT w) :
    Calls Tryz.prog 101 #[erV e] w fun r w' => r = .returned (.int .i64 (((colE e).map (·.1)).getD 0)) ∧ Below w.heap.size w w' := by
  obtain ⟨W1, hW1⟩ : ∃ W1, w.alloc (.cells #[.int .i64 0, .nilIface] 194) = W1 := ⟨_, rfl⟩
  have B1 : Below w.heap.size w W1 := hW1 ▸ (Below.refl _ _).alloc (Nat.le_refl _) _
  have hg1 : ErrT W1 := hg.below B1 hg.2
  have c1 : W1.cell? ⟨w.heap.size, 0, none⟩ = some (.int .i64 0) := hW1 ▸ slab_cell (heap_new' _ _ _ rfl)
  have d1 : W1.cell? ⟨w.heap.size, 1, none⟩ = some .nilIface := hW1 ▸ slab_cell (heap_new' _ _ _ rfl)
  have f1 : ∀ o, W1.frozen? ⟨w.heap.size, o, none⟩ = false := fun o => hW1 ▸ slab_free (heap_new' _ _ _ rfl)
  have l1 : w.heap.size < W1.heap.size := by rw [← hW1]; simp
  clear hg
  by_cases he : e = .nil
  · subst he
    simp only [erV]
    go_enter Tryz.func101, Tryz.ntmps101
    go_wp2_with (go_at_call 162; refine (as_nil _ _).mono ?_; rintro e w' ⟨rfl, rfl⟩)
    go_ret
    exact ⟨rfl, B1⟩
  have HC := As_col e he w.heap.size (.int .i64 0) W1 hg1 c1 (f1 0) .nilIface d1 (f1 1)
  clear he c1 d1 f1 hg1
  generalize hv : erV e = v at *
  go_enter Tryz.func101, Tryz.ntmps101
  go_wp2_with fail
  refine HC.mono ?_
  rintro r w3 (⟨n, e1, hfi, rfl, w1, b1, rfl⟩ | ⟨hfi, rfl, b1⟩)
  · have c2 : ((w1.setCell ⟨w.heap.size, 0, none⟩ (.int .i64 n)).setCell ⟨w.heap.size, 1, none⟩ (erV e1)).cell? ⟨w.heap.size, 0, none⟩ = some (.int .i64 n) := by
      rw [World.cell?_setCell_other _ _ _ _ (by simp)]
      exact World.cell?_setCell_same _ _ _ ((World.cell?_of_block (w := W1) (b1.block _ l1)).trans (hW1 ▸ slab_cell (heap_new' _ _ _ rfl)))
    have HN : Hid (colE e = some (n, e1)) := hfi
    have B2 : Below w.heap.size w ((w1.setCell ⟨w.heap.size, 0, none⟩ (.int .i64 n)).setCell ⟨w.heap.size, 1, none⟩ (erV e1)) := ((B1.trans (b1.mono B1.size)).setCell (Nat.le_refl _) _).setCell (Nat.le_refl _) _
    clear hfi b1 HC hv hW1
    go_wp2
    go_ret
    exact ⟨by rw [HN.out]; rfl, B2⟩
  · have HN : Hid (colE e = none) := hfi
    have B2 := B1.trans (b1.mono B1.size)
    clear hfi b1 HC hv hW1
    go_wp2
    go_ret
    exact ⟨by rw [HN.out]; rfl, B2⟩
end Go.Proofs.YtffjnhhfplcloaaGreatDoor
