/- What cellOf and both ValueOK functions answer of a value. -/
import Derived.Test.YthdilgggjkekaaaVals
namespace Go.Proofs.Ythdilgggjkekaaa
open Go.RowKit
set_option maxHeartbeats 1000000 in
theorem specValueOK_any (k n : Int) (t : ByteArray) (w : World) :
    Calls Try.prog 13 #[VV k n t] w fun e w' => e = .returned (.bool (okV k n t)) ∧ Below w.heap.size w w' := by
  go_enter Try.func13, Try.ntmps13
  go_wp2_with (go_at_call 27; refine (l01In_any _ _ _ _).mono ?_; rintro e w' ⟨rfl, rfl⟩)
  all_goals
    go_ret
    refine ⟨ret_bool' ?_, (Below.refl _ _).alloc (Nat.le_refl _) _⟩
    simp_all [okV]

/-- The cell that a value is behind impl's interface: nil of a value that is not right. -/
def cellV (k n : Int) (t : ByteArray) : Value :=
  if okV k n t then
    (if k = 0 then .iface 71 (.agg #[]) else if k = 1 then .iface 72 (.bool (n == 1)) else if k = 2 then .iface 73 (.int .i64 n) else if k = 3 then .iface 74 (.string t) else .iface 75 (.string t))
  else .nilIface

theorem ret_val {a b : Value} (h : a = b) : Ending.returned a = .returned b := by rw [h]
theorem inB01 (n : Int) : inB n 0 1 = (n == 0 || n == 1) := by unfold inB; rw [Bool.eq_iff_iff]; simp; omega

set_option maxHeartbeats 1000000 in
theorem cellOf_any (k n : Int) (t : ByteArray) (w : World) :
    Calls Try.prog 35 #[VV k n t] w fun e w' => e = .returned (cellV k n t) ∧ Below w.heap.size w w' := by
  go_enter Try.func35, Try.ntmps35
  go_wp2
  all_goals
    go_ret
    refine ⟨ret_val ?_, (Below.refl _ _).alloc (Nat.le_refl _) _⟩
    simp_all [cellV, okV, inB01]

theorem implValueOK_any (k n : Int) (t : ByteArray) (w : World) :
    Calls Try.prog 19 #[VV k n t] w fun e w' => e = .returned (.bool (okV k n t)) ∧ Below w.heap.size w w' := by
  by_cases h : okV k n t = true
  · obtain ⟨u, x, hx⟩ : ∃ u x, cellV k n t = .iface u x := by
      unfold cellV
      rw [if_pos h]
      split; · exact ⟨_, _, rfl⟩
      split; · exact ⟨_, _, rfl⟩
      split; · exact ⟨_, _, rfl⟩
      split; · exact ⟨_, _, rfl⟩
      exact ⟨_, _, rfl⟩
    have H : Hid (okV k n t = true) := h
    clear h
    go_enter Try.func19, Try.ntmps19
    go_wp2_with (go_at_call 35; refine (cellOf_any _ _ _ _).mono ?_; rintro e w1 ⟨rfl, hb⟩)
    go_ret
    exact ⟨ret_bool' H.out.symm, ((Below.refl _ _).alloc (Nat.le_refl _) _).trans (hb.mono (by simp))⟩
  · have hx : cellV k n t = .nilIface := by unfold cellV; rw [if_neg h]
    have H : Hid (okV k n t = false) := by show okV k n t = false; simpa using h
    clear h
    go_enter Try.func19, Try.ntmps19
    go_wp2_with (go_at_call 35; refine (cellOf_any _ _ _ _).mono ?_; rintro e w1 ⟨rfl, hb⟩)
    go_ret
    exact ⟨ret_bool' H.out.symm, ((Below.refl _ _).alloc (Nat.le_refl _) _).trans (hb.mono (by simp))⟩
end Go.Proofs.Ythdilgggjkekaaa
