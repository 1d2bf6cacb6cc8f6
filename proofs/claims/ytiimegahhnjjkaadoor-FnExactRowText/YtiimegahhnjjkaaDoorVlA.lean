/- Values as both sides see them (stage 11). -/
import Derived.Test.YtiimegahhnjjkaaDoorBase
namespace Go.Proofs.YtiimegahhnjjkaaDoor
open Go.ChangeShapes Go.WideShapes Go.ChangeAt Go.RowKit Go.Joins

/-- A value as both sides' structs hold it. -/
abbrev VV (k n : Int) (t : ByteArray) : Value := .agg #[.int .i64 k, .int .i64 n, .string t]

/-- A right value, as the document's chapter 2 has it. -/
def okV (k n : Int) (t : ByteArray) : Bool :=
  if k = 0 then n == 0 && t.toList.isEmpty else if k = 1 then inB n 0 1 && t.toList.isEmpty else if k = 2 then t.toList.isEmpty
  else if k = 3 ∨ k = 4 then n == 0 && decide ((t.size : Int) ≤ 60) else false

def leftOf (left : Int) (t : ByteArray) : Int := if left - t.size < 0 then -1 else left - t.size

theorem szValue_any (k n left : Int) (t : ByteArray) (w : World) (h0 : 0 ≤ left) (h1 : left ≤ 1048576) (ht : t.size ≤ maxLen) :
    Calls Tryd.prog 5 #[VV k n t, .int .i64 left] w fun e w' => e = .returned (.int .i64 (leftOf left t)) ∧ Below w.heap.size w w' := by
  unfold maxLen at ht
  by_cases hlt : left - t.size < 0
  · have H : Hid (leftOf left t = -1) := by show _ = _; unfold leftOf; rw [if_pos hlt]
    go_enter Tryd.func5, Tryd.ntmps5
    go_wp2
    go_ret
    exact ⟨ret_int' H.out.symm, (Below.refl _ _).alloc (Nat.le_refl _) _⟩
  · have H : Hid (leftOf left t = left - t.size) := by show _ = _; unfold leftOf; rw [if_neg hlt]
    go_enter Tryd.func5, Tryd.ntmps5
    go_wp2
    go_ret
    exact ⟨ret_int' H.out.symm, (Below.refl _ _).alloc (Nat.le_refl _) _⟩

theorem toValue_any (k n : Int) (t : ByteArray) (w : World) :
    Calls Tryd.prog 7 #[VV k n t] w fun e w' => e = .returned (VV k n t) ∧ Below w.heap.size w w' := by
  go_enter Tryd.func7, Tryd.ntmps7
  go_wp2
  exact bodyPost_ret (v := VV k n t) (by simp [results, Tryd.results7, go_sem]) rfl ⟨rfl, (((Below.refl _ _).alloc (Nat.le_refl _) _).alloc (by simp) _).alloc (by simp; omega) _⟩

set_option maxHeartbeats 1000000 in
theorem specValueOK_any (k n : Int) (t : ByteArray) (w : World) :
    Calls Tryd.prog 14 #[VV k n t] w fun e w' => e = .returned (.bool (okV k n t)) ∧ Below w.heap.size w w' := by
  go_enter Tryd.func14, Tryd.ntmps14
  go_wp2_with (go_at_call 24; refine (l01In_any _ _ _ _).mono ?_; rintro e w' ⟨rfl, rfl⟩)
  all_goals
    go_ret
    refine ⟨ret_bool' ?_, (Below.refl _ _).alloc (Nat.le_refl _) _⟩
    simp_all [okV]

/-- The cell that a value is behind impl's interface: nil of a value that is not right. -/
def cellV (k n : Int) (t : ByteArray) : Value :=
  if okV k n t then
    (if k = 0 then .iface 60 (.agg #[]) else if k = 1 then .iface 61 (.bool (n == 1)) else if k = 2 then .iface 62 (.int .i64 n) else if k = 3 then .iface 63 (.string t) else .iface 64 (.string t))
  else .nilIface

theorem inB01 (n : Int) : inB n 0 1 = (n == 0 || n == 1) := by unfold inB; rw [Bool.eq_iff_iff]; simp; omega

set_option maxHeartbeats 1000000 in
theorem cellOf_any (k n : Int) (t : ByteArray) (w : World) :
    Calls Tryd.prog 16 #[VV k n t] w fun e w' => e = .returned (cellV k n t) ∧ Below w.heap.size w w' := by
  go_enter Tryd.func16, Tryd.ntmps16
  go_wp2
  all_goals
    go_ret
    refine ⟨ret_val ?_, (Below.refl _ _).alloc (Nat.le_refl _) _⟩
    simp_all [cellV, okV, inB01]

theorem bcell {W w1 : World} (hb : Below W.heap.size W w1) : (∀ b o, b < W.heap.size → w1.cell? ⟨b, o, none⟩ = W.cell? ⟨b, o, none⟩) ∧ (∀ b o, b < W.heap.size → w1.frozen? ⟨b, o, none⟩ = W.frozen? ⟨b, o, none⟩) :=
  ⟨fun b o h => hb.cell (p := ⟨b, o, none⟩) h, fun b o h => hb.frozen (p := ⟨b, o, none⟩) h⟩

theorem leftOf_bd (left : Int) (t : ByteArray) (h1 : left ≤ 1048576) : -1 ≤ leftOf left t ∧ leftOf left t ≤ 1048576 := by
  unfold leftOf; split <;> omega

theorem cells23 : Tryd.prog.cellsOf 23 = 3 := by kernel_rfl
set_option maxRecDepth 100000 in
/-- A struct Value that was handed in: a kind, a number and a text. -/
theorem open_value {H : Type} {enc : TypeId × Value → H} {W : World} {base : Nat} {v : Value} {d : DataW H} {p : List MemPlace}
    (hv : Value.okWide Tryd.prog W .any base 23 v) (h : DataW.Trod enc Tryd.prog W 0 (fun _ => true) true 23 v d p) :
    ∃ (k n : Int) (t : ByteArray), v = VV k n t ∧ (Lit.int .i64 k).wf = true ∧ (Lit.int .i64 n).wf = true ∧ t.size ≤ maxLen := by
  obtain ⟨c0, c1, c2, y0, y1, y2, m, rfl, hd, hp, hy0, hy1, hy2⟩ := open_agg3 Tryd.underlying23 (by kernel_rfl) cells23 hv h
  obtain ⟨a, e0, _, wa⟩ := DataW.trod_int Tryd.underlying3 hy0
  obtain ⟨b, e1, _, wb⟩ := DataW.trod_int Tryd.underlying3 hy1
  obtain ⟨s, e2, _, ws⟩ := DataW.trod_string Tryd.underlying9 hy2
  simp at e0 e1 e2
  subst e0 e1 e2
  exact ⟨a, b, s, rfl, wa, wb, ws⟩

end Go.Proofs.YtiimegahhnjjkaaDoor
