/- errors.as along a chain of errors (stage 11). -/
import Derived.Test.YteejkmcljokloaaGreatDoorAsB
namespace Go.Proofs.YteejkmcljokloaaGreatDoor
open Go.RowKit Go.Extern.Stop Go.Stop Go.Extern

theorem erV_lt95 (i : Int) (e : Er) : SizeOf.sizeOf (erV e) < SizeOf.sizeOf (Value.iface 95 (.agg #[.int .i64 i, erV e])) := by simp; omega
theorem modify_push {α : Type} (a : Array α) (x : α) (i : Nat) (f : α → α) (h : i < a.size) : (a.push x).modify i f = (a.modify i f).push x := by
  apply Array.ext
  · simp
  · intro j h1 h2
    simp [Array.getElem_modify, Array.getElem_push]
    by_cases hj : j < a.size
    · simp [hj]
    · have : ¬ i = j := by omega
      simp [hj, this]
theorem set_alloc (w : World) (o : Obj) (p : Addr) (v : Value) (h : p.block < w.heap.size) : (w.alloc o).setCell p v = (w.setCell p v).alloc o := by
  unfold World.setCell
  rw [show (w.alloc o).heap = w.heap.push o from rfl, modify_push _ _ _ _ h]
  rfl
theorem erV_cases (e : Er) : e = .nil ∨ (e ≠ .nil ∧ ∃ t v, erV e = .iface t v) := by
  cases e with
  | nil => exact .inl rfl
  | code n => exact .inr ⟨by simp, _, _, rfl⟩
  | col i e => exact .inr ⟨by simp, _, _, rfl⟩

set_option maxRecDepth 100000 in
set_option maxHeartbeats 4000000 in
theorem as_code (e : Er) (he : e ≠ .nil) (tb a : Nat) (old : Value) (w : World) (hcp : w.cell? ⟨a, 0, none⟩ = some (.pointer (some ⟨tb, 0, none⟩))) (ht0 : w.cell? ⟨tb, 0, none⟩ = some old) (hf0 : w.frozen? ⟨tb, 0, none⟩ = false) :
    Calls Tryz.prog 84 #[erV e, .iface 93 (.pointer (some ⟨tb, 0, none⟩)), .agg #[.pointer (some ⟨2, 93, none⟩), .pointer (some ⟨a, 0, none⟩), .int .u64 150], .iface 150 (.agg #[.pointer (some ⟨2, 90, none⟩)])] w fun r w' =>
      (∃ n, codeE e = some n ∧ r = .returned (.bool true) ∧ ∃ w1, Below w.heap.size w w1 ∧ w' = w1.setCell ⟨tb, 0, none⟩ (.int .i64 n)) ∨ (codeE e = none ∧ r = .returned (.bool false) ∧ Below w.heap.size w w') := by
  have xVOf := @run_callFunc_extern Tryz.prog 81 _ (fun args => ReflectliteValue.unpack (args.getD 0 (.tuple #[]))) Tryz.func81 (by kernel_rfl) (by kernel_rfl) (by kernel_rfl) (by kernel_rfl)
  have xTOf := @run_callFunc_extern Tryz.prog 108 _ ReflectliteType.typeOf Tryz.func108 (by kernel_rfl) (by kernel_rfl) (by kernel_rfl) (by kernel_rfl)
  have xMAss := @run_callFunc_extern Tryz.prog 179 _ (ReflectliteType.relation "AssignableTo" ReflectliteType.assignableTo) Tryz.func179 (by kernel_rfl) (by kernel_rfl) (by kernel_rfl) (by kernel_rfl)
  have xVElem := @run_callFunc_extern Tryz.prog 109 _ (ReflectliteValue.method (ReflectliteValue.valueError "reflectlite.Value.Elem" 0) ReflectliteValue.elem) Tryz.func109 (by kernel_rfl) (by kernel_rfl) (by kernel_rfl) (by kernel_rfl)
  have xVSet := @run_callFunc_extern Tryz.prog 110 _ ReflectliteValue.set Tryz.func110 (by kernel_rfl) (by kernel_rfl) (by kernel_rfl) (by kernel_rfl)
  have mA := Tryz.methodAssignableTo
  have tO90 := Tryz.typeOf90
  have aT90 := Tryz.assignable90_90
  have tO95 := Tryz.typeOf95
  have aT95 := Tryz.assignable95_90
  have hcl : a < w.heap.size := by
    rcases Nat.lt_or_ge a w.heap.size with h | h
    · exact h
    · simp [World.cell?, Array.getElem?_eq_none h] at hcp
  have htl : tb < w.heap.size := by
    rcases Nat.lt_or_ge tb w.heap.size with h | h
    · exact h
    · simp [World.cell?, Array.getElem?_eq_none h] at ht0
  obtain ⟨W0, hW0⟩ : ∃ W0, w.alloc (.cells #[.pointer (some ⟨2, 93, none⟩), .pointer (some ⟨a, 0, none⟩), .int .u64 150] 130) = W0 := ⟨_, rfl⟩
  have B0 : Below w.heap.size w W0 := hW0 ▸ (Below.refl _ _).alloc (Nat.le_refl _) _
  have hS0 : w.heap.size < W0.heap.size := by rw [← hW0]; simp
  go_enter Tryz.func84, Tryz.ntmps84
  go_wp2
  go_loopw [0] (fun u wr => ∃ e' : Er, e' ≠ .nil ∧ u = erV e' ∧ Hid (codeE e' = codeE e) ∧ Below W0.heap.size W0 wr) (fun u _ => SizeOf.sizeOf u)
  case atStart => exact ⟨e, he, rfl, rfl, Below.refl _ _⟩
  case round =>
    obtain ⟨e', he', rfl, HF, hbl⟩ := hrel
    have q0 : wr.cell? ⟨w.heap.size, 0, none⟩ = some (.pointer (some ⟨2, 93, none⟩)) := (World.cell?_of_block (w := W0) (hbl.block _ hS0)).trans (hW0 ▸ slab_cell (heap_new' _ _ _ rfl))
    have q1 : wr.cell? ⟨w.heap.size, 1, none⟩ = some (.pointer (some ⟨a, 0, none⟩)) := (World.cell?_of_block (w := W0) (hbl.block _ hS0)).trans (hW0 ▸ slab_cell (heap_new' _ _ _ rfl))
    have q2 : wr.cell? ⟨w.heap.size, 2, none⟩ = some (.int .u64 150) := (World.cell?_of_block (w := W0) (hbl.block _ hS0)).trans (hW0 ▸ slab_cell (heap_new' _ _ _ rfl))
    have hB := B0.trans (hbl.mono B0.size)
    have hcp' : wr.cell? ⟨a, 0, none⟩ = some (.pointer (some ⟨tb, 0, none⟩)) := (World.cell?_of_block (w := w) (hB.block _ hcl)).trans hcp
    have htb : wr.heap[tb]? = w.heap[tb]? := hB.block _ htl
    have ht' : wr.cell? ⟨tb, 0, none⟩ = some old := (World.cell?_of_block (w := w) htb).trans ht0
    have hf' : wr.frozen? ⟨tb, 0, none⟩ = false := by
      rw [← hf0]
      simp only [World.frozen?, htb]
    have htr : tb < wr.heap.size := Nat.lt_of_lt_of_le htl hB.size
    cases e' with
    | nil => exact absurd rfl he'
    | code n =>
      have el := Tryz.elemV93 ⟨a, 0, none⟩ ⟨tb, 0, none⟩ wr hcp'
      have vO := Tryz.valueOf90 n wr
      have b1 : Below wr.heap.size wr (wr.alloc (.cells #[.int .i64 n] 90)) := (Below.refl _ _).alloc (Nat.le_refl _) _
      have st := Tryz.set90 ⟨tb, 0, none⟩ ⟨wr.heap.size, 0, none⟩ n old (wr.alloc (.cells #[.int .i64 n] 90)) (slab_cell (heap_new' _ _ _ rfl)) ((World.cell?_of_block (w := wr) (b1.block _ htr)).trans ht') (by rw [← hf']; simp only [World.frozen?, b1.block _ htr])
      have HN : Hid (codeE e = some n) := HF.out.symm
      have B2 := below_step hB (Nat.le_refl _) b1
      simp only [erV]
      clear HF b1
      go_wp2
      go_ret
      exact .inl ⟨n, HN.out, rfl, (wr.alloc (.cells #[.int .i64 n] 90)), B2, (set_alloc _ _ _ _ htr).symm⟩
    | col i e1 =>
      have HN : Hid (codeE e1 = codeE e) := HF.out
      have nA := noAs95
      have nU := hasUw95
      have mU := Tryz.methodUw95
      have b1 : ∀ v, Below wr.heap.size wr (wr.alloc (.cells #[.int .i64 i, v] 95)) := fun v => (Below.refl _ _).alloc (Nat.le_refl _) _
      rcases erV_cases e1 with rfl | ⟨hne, t', v', hv⟩
      · simp only [erV]
        clear HF
        have B2 := below_step hB (Nat.le_refl _) (b1 .nilIface)
        clear b1
        go_wp2_with (go_at_call 174; refine (unwrap95_any i .nilIface wr).mono ?_; rintro e w' ⟨rfl, rfl⟩)
        go_ret
        exact .inr ⟨HN.out.symm.trans rfl, rfl, B2⟩
      · have HV : Hid (erV e1 = .iface t' v') := hv
        have hlt := erV_lt95 i e1
        simp only [erV]
        rw [hv] at hlt ⊢
        have B2 := below_step hbl (Nat.le_refl _) (b1 (.iface t' v'))
        clear b1 hv HF
        have HL : Hid (SizeOf.sizeOf (Value.iface t' v') < SizeOf.sizeOf (Value.iface 95 (.agg #[.int .i64 i, .iface t' v']))) := hlt
        clear hlt
        go_wp2_with (go_at_call 174; refine (unwrap95_any i (.iface t' v') wr).mono ?_; rintro e w' ⟨rfl, rfl⟩)
        go_roundw
        case rel => exact ⟨e1, hne, HV.out.symm, HN, B2⟩
        case measure => exact HL.out

set_option maxRecDepth 100000 in
set_option maxHeartbeats 4000000 in
theorem as_col (e : Er) (he : e ≠ .nil) (tb a : Nat) (old : Value) (w : World) (hcp : w.cell? ⟨a, 0, none⟩ = some (.pointer (some ⟨tb, 0, none⟩))) (ht0 : w.cell? ⟨tb, 0, none⟩ = some old) (hf0 : w.frozen? ⟨tb, 0, none⟩ = false) (old1 : Value) (ht1 : w.cell? ⟨tb, 1, none⟩ = some old1) (hf1 : w.frozen? ⟨tb, 1, none⟩ = false) :
    Calls Tryz.prog 84 #[erV e, .iface 96 (.pointer (some ⟨tb, 0, none⟩)), .agg #[.pointer (some ⟨2, 96, none⟩), .pointer (some ⟨a, 0, none⟩), .int .u64 150], .iface 150 (.agg #[.pointer (some ⟨2, 95, none⟩)])] w fun r w' =>
      (∃ n e1, colE e = some (n, e1) ∧ r = .returned (.bool true) ∧ ∃ w1, Below w.heap.size w w1 ∧ w' = (w1.setCell ⟨tb, 0, none⟩ (.int .i64 n)).setCell ⟨tb, 1, none⟩ (erV e1)) ∨ (colE e = none ∧ r = .returned (.bool false) ∧ Below w.heap.size w w') := by
  have xVOf := @run_callFunc_extern Tryz.prog 81 _ (fun args => ReflectliteValue.unpack (args.getD 0 (.tuple #[]))) Tryz.func81 (by kernel_rfl) (by kernel_rfl) (by kernel_rfl) (by kernel_rfl)
  have xTOf := @run_callFunc_extern Tryz.prog 108 _ ReflectliteType.typeOf Tryz.func108 (by kernel_rfl) (by kernel_rfl) (by kernel_rfl) (by kernel_rfl)
  have xMAss := @run_callFunc_extern Tryz.prog 179 _ (ReflectliteType.relation "AssignableTo" ReflectliteType.assignableTo) Tryz.func179 (by kernel_rfl) (by kernel_rfl) (by kernel_rfl) (by kernel_rfl)
  have xVElem := @run_callFunc_extern Tryz.prog 109 _ (ReflectliteValue.method (ReflectliteValue.valueError "reflectlite.Value.Elem" 0) ReflectliteValue.elem) Tryz.func109 (by kernel_rfl) (by kernel_rfl) (by kernel_rfl) (by kernel_rfl)
  have xVSet := @run_callFunc_extern Tryz.prog 110 _ ReflectliteValue.set Tryz.func110 (by kernel_rfl) (by kernel_rfl) (by kernel_rfl) (by kernel_rfl)
  have mA := Tryz.methodAssignableTo
  have tO90 := Tryz.typeOf90
  have aT90 := Tryz.assignable90_95
  have tO95 := Tryz.typeOf95
  have aT95 := Tryz.assignable95_95
  have hcl : a < w.heap.size := by
    rcases Nat.lt_or_ge a w.heap.size with h | h
    · exact h
    · simp [World.cell?, Array.getElem?_eq_none h] at hcp
  have htl : tb < w.heap.size := by
    rcases Nat.lt_or_ge tb w.heap.size with h | h
    · exact h
    · simp [World.cell?, Array.getElem?_eq_none h] at ht0
  obtain ⟨W0, hW0⟩ : ∃ W0, w.alloc (.cells #[.pointer (some ⟨2, 96, none⟩), .pointer (some ⟨a, 0, none⟩), .int .u64 150] 130) = W0 := ⟨_, rfl⟩
  have B0 : Below w.heap.size w W0 := hW0 ▸ (Below.refl _ _).alloc (Nat.le_refl _) _
  have hS0 : w.heap.size < W0.heap.size := by rw [← hW0]; simp
  go_enter Tryz.func84, Tryz.ntmps84
  go_wp2
  go_loopw [0] (fun u wr => ∃ e' : Er, e' ≠ .nil ∧ u = erV e' ∧ Hid (colE e' = colE e) ∧ Below W0.heap.size W0 wr) (fun u _ => SizeOf.sizeOf u)
  case atStart => exact ⟨e, he, rfl, rfl, Below.refl _ _⟩
  case round =>
    obtain ⟨e', he', rfl, HF, hbl⟩ := hrel
    have q0 : wr.cell? ⟨w.heap.size, 0, none⟩ = some (.pointer (some ⟨2, 96, none⟩)) := (World.cell?_of_block (w := W0) (hbl.block _ hS0)).trans (hW0 ▸ slab_cell (heap_new' _ _ _ rfl))
    have q1 : wr.cell? ⟨w.heap.size, 1, none⟩ = some (.pointer (some ⟨a, 0, none⟩)) := (World.cell?_of_block (w := W0) (hbl.block _ hS0)).trans (hW0 ▸ slab_cell (heap_new' _ _ _ rfl))
    have q2 : wr.cell? ⟨w.heap.size, 2, none⟩ = some (.int .u64 150) := (World.cell?_of_block (w := W0) (hbl.block _ hS0)).trans (hW0 ▸ slab_cell (heap_new' _ _ _ rfl))
    have hB := B0.trans (hbl.mono B0.size)
    have hcp' : wr.cell? ⟨a, 0, none⟩ = some (.pointer (some ⟨tb, 0, none⟩)) := (World.cell?_of_block (w := w) (hB.block _ hcl)).trans hcp
    have htb : wr.heap[tb]? = w.heap[tb]? := hB.block _ htl
    have ht' : wr.cell? ⟨tb, 0, none⟩ = some old := (World.cell?_of_block (w := w) htb).trans ht0
    have hf' : wr.frozen? ⟨tb, 0, none⟩ = false := by
      rw [← hf0]
      simp only [World.frozen?, htb]
    have htr : tb < wr.heap.size := Nat.lt_of_lt_of_le htl hB.size
    have ht1' : wr.cell? ⟨tb, 1, none⟩ = some old1 := (World.cell?_of_block (w := w) htb).trans ht1
    have hf1' : wr.frozen? ⟨tb, 1, none⟩ = false := by
      rw [← hf1]
      simp only [World.frozen?, htb]
    cases e' with
    | nil => exact absurd rfl he'
    | code n =>
      have HN : Hid (colE e = none) := HF.out.symm
      have nA := noAs90
      have nU := noUw90
      have nS := noUs90
      simp only [erV]
      clear HF
      go_wp2
      go_ret
      exact .inr ⟨HN.out, rfl, hB⟩
    | col i e1 =>
      have el := Tryz.elemV96 ⟨a, 0, none⟩ ⟨tb, 0, none⟩ wr hcp'
      have vO := Tryz.valueOf95 i (erV e1) wr
      have b1 : Below wr.heap.size wr (wr.alloc (.cells #[.int .i64 i, erV e1] 95)) := (Below.refl _ _).alloc (Nat.le_refl _) _
      have st := Tryz.set95 tb wr.heap.size i (erV e1) old old1 (wr.alloc (.cells #[.int .i64 i, erV e1] 95)) (slab_cell (heap_new' _ _ _ rfl)) (slab_cell (heap_new' _ _ _ rfl)) (by cases e1 <;> rfl) ((World.cell?_of_block (w := wr) (b1.block _ htr)).trans ht') ((World.cell?_of_block (w := wr) (b1.block _ htr)).trans ht1') (by rw [← hf']; simp only [World.frozen?, b1.block _ htr]) (by rw [← hf1']; simp only [World.frozen?, b1.block _ htr])
      have HN : Hid (colE e = some (i, e1)) := HF.out.symm
      have B2 := below_step hB (Nat.le_refl _) b1
      simp only [erV]
      clear HF b1
      go_wp2
      go_ret
      refine .inl ⟨i, e1, HN.out, rfl, (wr.alloc (.cells #[.int .i64 i, erV e1] 95)), B2, ?_⟩
      rw [set_alloc _ _ _ _ htr, set_alloc _ _ _ _ (by simpa [World.setCell] using htr)]
end Go.Proofs.YteejkmcljokloaaGreatDoor
