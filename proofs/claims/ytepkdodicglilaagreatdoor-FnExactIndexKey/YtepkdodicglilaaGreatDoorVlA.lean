/- Values as both sides see them (stage 11). -/
import Derived.Test.YtepkdodicglilaaGreatDoorBase
namespace Go.Proofs.YtepkdodicglilaaGreatDoor
open Go.ChangeShapes Go.WideShapes Go.ChangeAt Go.RowKit Go.Joins

/-- A value as both sides' structs hold it. -/
abbrev VV (k n : Int) (t : ByteArray) : Value := .agg #[.int .i64 k, .int .i64 n, .string t]

/-- A right value, as the document's chapter 2 has it. -/
def okV (k n : Int) (t : ByteArray) : Bool :=
  if k = 0 then n == 0 && t.toList.isEmpty else if k = 1 then inB n 0 1 && t.toList.isEmpty else if k = 2 then t.toList.isEmpty
  else if k = 3 ∨ k = 4 then n == 0 && decide ((t.size : Int) ≤ 60) else false

def leftOf (left : Int) (t : ByteArray) : Int := if left - t.size < 0 then -1 else left - t.size

theorem szValue_any (k n left : Int) (t : ByteArray) (w : World) (h0 : 0 ≤ left) (h1 : left ≤ 1048576) (ht : t.size ≤ maxLen) :
    Calls Tryz.prog 25 #[VV k n t, .int .i64 left] w fun e w' => e = .returned (.int .i64 (leftOf left t)) ∧ Below w.heap.size w w' := by
  unfold maxLen at ht
  by_cases hlt : left - t.size < 0
  · have H : Hid (leftOf left t = -1) := by show _ = _; unfold leftOf; rw [if_pos hlt]
    go_enter Tryz.func25, Tryz.ntmps25
    go_wp2
    go_ret
    exact ⟨ret_int' H.out.symm, (Below.refl _ _).alloc (Nat.le_refl _) _⟩
  · have H : Hid (leftOf left t = left - t.size) := by show _ = _; unfold leftOf; rw [if_neg hlt]
    go_enter Tryz.func25, Tryz.ntmps25
    go_wp2
    go_ret
    exact ⟨ret_int' H.out.symm, (Below.refl _ _).alloc (Nat.le_refl _) _⟩

theorem toValue_any (k n : Int) (t : ByteArray) (w : World) :
    Calls Tryz.prog 31 #[VV k n t] w fun e w' => e = .returned (VV k n t) ∧ Below w.heap.size w w' := by
  go_enter Tryz.func31, Tryz.ntmps31
  go_wp2
  exact bodyPost_ret (v := VV k n t) (by simp [results, Tryz.results31, go_sem]) rfl ⟨rfl, (((Below.refl _ _).alloc (Nat.le_refl _) _).alloc (by simp) _).alloc (by simp; omega) _⟩

set_option maxHeartbeats 1000000 in
theorem specValueOK_any (k n : Int) (t : ByteArray) (w : World) :
    Calls Tryz.prog 52 #[VV k n t] w fun e w' => e = .returned (.bool (okV k n t)) ∧ Below w.heap.size w w' := by
  go_enter Tryz.func52, Tryz.ntmps52
  go_wp2_with (go_at_call 43; refine (l01In_any _ _ _ _).mono ?_; rintro e w' ⟨rfl, rfl⟩)
  all_goals
    go_ret
    refine ⟨ret_bool' ?_, (Below.refl _ _).alloc (Nat.le_refl _) _⟩
    simp_all [okV]

/-- The cell that a value is behind impl's interface: nil of a value that is not right. -/
def cellV (k n : Int) (t : ByteArray) : Value :=
  if okV k n t then
    (if k = 0 then .iface 167 (.agg #[]) else if k = 1 then .iface 140 (.bool (n == 1)) else if k = 2 then .iface 142 (.int .i64 n) else if k = 3 then .iface 144 (.string t) else .iface 145 (.string t))
  else .nilIface

theorem inB01 (n : Int) : inB n 0 1 = (n == 0 || n == 1) := by unfold inB; rw [Bool.eq_iff_iff]; simp; omega

set_option maxHeartbeats 1000000 in
theorem cellOf_any (k n : Int) (t : ByteArray) (w : World) :
    Calls Tryz.prog 84 #[VV k n t] w fun e w' => e = .returned (cellV k n t) ∧ Below w.heap.size w w' := by
  go_enter Tryz.func84, Tryz.ntmps84
  go_wp2
  all_goals
    go_ret
    refine ⟨ret_val ?_, (Below.refl _ _).alloc (Nat.le_refl _) _⟩
    simp_all [cellV, okV, inB01]

theorem bcell {W w1 : World} (hb : Below W.heap.size W w1) : (∀ b o, b < W.heap.size → w1.cell? ⟨b, o, none⟩ = W.cell? ⟨b, o, none⟩) ∧ (∀ b o, b < W.heap.size → w1.frozen? ⟨b, o, none⟩ = W.frozen? ⟨b, o, none⟩) :=
  ⟨fun b o h => hb.cell (p := ⟨b, o, none⟩) h, fun b o h => hb.frozen (p := ⟨b, o, none⟩) h⟩

theorem leftOf_bd (left : Int) (t : ByteArray) (h1 : left ≤ 1048576) : -1 ≤ leftOf left t ∧ leftOf left t ≤ 1048576 := by
  unfold leftOf; split <;> omega

theorem cells54 : Tryz.prog.cellsOf 54 = 3 := by kernel_rfl
set_option maxRecDepth 100000 in
/-- A struct Value that was handed in: a kind, a number and a text. -/
theorem open_value {H : Type} {enc : TypeId × Value → H} {W : World} {base : Nat} {v : Value} {d : DataW H} {p : List MemPlace}
    (hv : Value.okWide Tryz.prog W .any base 54 v) (h : DataW.Trod enc Tryz.prog W 0 (fun _ => true) true 54 v d p) :
    ∃ (k n : Int) (t : ByteArray), v = VV k n t ∧ (Lit.int .i64 k).wf = true ∧ (Lit.int .i64 n).wf = true ∧ t.size ≤ maxLen := by
  obtain ⟨c0, c1, c2, y0, y1, y2, m, rfl, hd, hp, hy0, hy1, hy2⟩ := open_agg3 Tryz.underlying54 (by kernel_rfl) cells54 hv h
  obtain ⟨a, e0, _, wa⟩ := DataW.trod_int Tryz.underlying3 hy0
  obtain ⟨b, e1, _, wb⟩ := DataW.trod_int Tryz.underlying3 hy1
  obtain ⟨s, e2, _, ws⟩ := DataW.trod_string Tryz.underlying9 hy2
  simp at e0 e1 e2
  subst e0 e1 e2
  exact ⟨a, b, s, rfl, wa, wb, ws⟩

end Go.Proofs.YtepkdodicglilaaGreatDoor
