/- Values as both sides see them (stage 13). -/
import Derived.Test.YthdilgggjkekaaaBase
namespace Go.Proofs.Ythdilgggjkekaaa.R
open Go.ChangeShapes Go.WideShapes Go.ChangeAt Go.RowKit Go.Joins

/-- A value as both sides' structs hold it. -/
abbrev VV (k n : Int) (t : ByteArray) : Value := .agg #[.int .i64 k, .int .i64 n, .string t]

/-- A right value, as the document's chapter 2 has it. -/
def okV (k n : Int) (t : ByteArray) : Bool :=
  if k = 0 then n == 0 && t.toList.isEmpty else if k = 1 then inB n 0 1 && t.toList.isEmpty else if k = 2 then t.toList.isEmpty
  else if k = 3 ∨ k = 4 then n == 0 && decide ((t.size : Int) ≤ 60) else false

def leftOf (left : Int) (t : ByteArray) : Int := if left - t.size < 0 then -1 else left - t.size

set_option maxHeartbeats 1000000 in
theorem specValueOK_any (k n : Int) (t : ByteArray) (w : World) :
    Calls Try.prog 13 #[VV k n t] w fun e w' => e = .returned (.bool (okV k n t)) ∧ Below w.heap.size w w' := by
  go_enter Try.func13, Try.ntmps13
  go_wp2_with (go_at_call 27; refine (l01In_any _ _ _ _).mono ?_; rintro e w' ⟨rfl, rfl⟩)
  all_goals
    go_ret
    refine ⟨ret_bool' ?_, (Below.refl _ _).alloc (Nat.le_refl _) _⟩
    simp_all [okV]

/-- The cell that a value is behind impl's interface: nil of a value that is not right. -/
def cellV (k n : Int) (t : ByteArray) : Value :=
  if okV k n t then
    (if k = 0 then .iface 71 (.agg #[]) else if k = 1 then .iface 72 (.bool (n == 1)) else if k = 2 then .iface 73 (.int .i64 n) else if k = 3 then .iface 74 (.string t) else .iface 75 (.string t))
  else .nilIface

theorem inB01 (n : Int) : inB n 0 1 = (n == 0 || n == 1) := by unfold inB; rw [Bool.eq_iff_iff]; simp; omega

set_option maxHeartbeats 1000000 in
theorem cellOf_any (k n : Int) (t : ByteArray) (w : World) :
    Calls Try.prog 35 #[VV k n t] w fun e w' => e = .returned (cellV k n t) ∧ Below w.heap.size w w' := by
  go_enter Try.func35, Try.ntmps35
  go_wp2
  all_goals
    go_ret
    refine ⟨ret_val ?_, (Below.refl _ _).alloc (Nat.le_refl _) _⟩
    simp_all [cellV, okV, inB01]

theorem implValueOK_any (k n : Int) (t : ByteArray) (w : World) :
    Calls Try.prog 19 #[VV k n t] w fun e w' => e = .returned (.bool (okV k n t)) ∧ Below w.heap.size w w' := by
  by_cases h : okV k n t = true
  · obtain ⟨u, x, hx⟩ : ∃ u x, cellV k n t = .iface u x := by
      unfold cellV
      rw [if_pos h]
      split; · exact ⟨_, _, rfl⟩
      split; · exact ⟨_, _, rfl⟩
      split; · exact ⟨_, _, rfl⟩
      split; · exact ⟨_, _, rfl⟩
      exact ⟨_, _, rfl⟩
    have H : Hid (okV k n t = true) := h
    clear h
    go_enter Try.func19, Try.ntmps19
    go_wp2_with (go_at_call 35; refine (cellOf_any _ _ _ _).mono ?_; rintro e w1 ⟨rfl, hb⟩)
    go_ret
    exact ⟨ret_bool' H.out.symm, ((Below.refl _ _).alloc (Nat.le_refl _) _).trans (hb.mono (by simp))⟩
  · have hx : cellV k n t = .nilIface := by unfold cellV; rw [if_neg h]
    have H : Hid (okV k n t = false) := by show okV k n t = false; simpa using h
    clear h
    go_enter Try.func19, Try.ntmps19
    go_wp2_with (go_at_call 35; refine (cellOf_any _ _ _ _).mono ?_; rintro e w1 ⟨rfl, hb⟩)
    go_ret
    exact ⟨ret_bool' H.out.symm, ((Below.refl _ _).alloc (Nat.le_refl _) _).trans (hb.mono (by simp))⟩

theorem bcell {W w1 : World} (hb : Below W.heap.size W w1) : (∀ b o, b < W.heap.size → w1.cell? ⟨b, o, none⟩ = W.cell? ⟨b, o, none⟩) ∧ (∀ b o, b < W.heap.size → w1.frozen? ⟨b, o, none⟩ = W.frozen? ⟨b, o, none⟩) :=
  ⟨fun b o h => hb.cell (p := ⟨b, o, none⟩) h, fun b o h => hb.frozen (p := ⟨b, o, none⟩) h⟩

theorem leftOf_bd (left : Int) (t : ByteArray) (h1 : left ≤ 1048576) : -1 ≤ leftOf left t ∧ leftOf left t ≤ 1048576 := by
  unfold leftOf; split <;> omega

end Go.Proofs.Ythdilgggjkekaaa.R
