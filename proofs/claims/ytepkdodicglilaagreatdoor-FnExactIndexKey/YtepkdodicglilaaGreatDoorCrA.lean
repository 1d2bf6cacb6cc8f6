/- A cell's code, and the first fault of a row (stage 11). -/
import Derived.Test.YtepkdodicglilaaGreatDoorTbA
import Derived.Test.YtepkdodicglilaaGreatDoorVlD
namespace Go.Proofs.YtepkdodicglilaaGreatDoor
open Go.RowKit

/-- The code of a value in a column. -/
def ccV (c : TC) (v : V3) : Int := if v.1 = 0 ∧ c.2.2 = false then 14 else if v.1 ≠ 0 ∧ v.1 ≠ c.2.1 then 10 else 0
/-- The first fault of a row, and where it is. -/
def rowF : List TC → List V3 → Int → Int × Int
  | c :: cs, v :: vs, i => if ccV c v = 0 then rowF cs vs (i + 1) else (ccV c v, i)
  | _, _, _ => (0, 0)
theorem rowF_hit : ∀ (k : Nat) (cs : List TC) (vs : List V3) (i : Int), (∀ j, j < k → ccV (nthC cs j) (nthV vs j) = 0) → k < cs.length → k < vs.length → ccV (nthC cs k) (nthV vs k) ≠ 0 → rowF cs vs i = (ccV (nthC cs k) (nthV vs k), i + k)
  | 0, c :: cs, v :: vs, i, _, _, _, h => by
    have h' : ccV c v ≠ 0 := h
    show (if ccV c v = 0 then rowF cs vs (i + 1) else (ccV c v, i)) = (ccV c v, i + 0)
    rw [if_neg h', Int.add_zero]
  | k + 1, c :: cs, v :: vs, i, ha, h1, h2, h => by
    have h0 : ccV c v = 0 := ha 0 (by omega)
    have := rowF_hit k cs vs (i + 1) (fun j hj => ha (j + 1) (by omega)) (by simpa using h1) (by simpa using h2) h
    show (if ccV c v = 0 then rowF cs vs (i + 1) else (ccV c v, i)) = _
    rw [if_pos h0, this]
    show (_, _) = (_, _)
    congr 1
    push_cast
    omega
  | _, [], _, _, _, h1, _, _ => by simp at h1
  | _, _ :: _, [], _, _, _, h2, _ => by simp at h2
theorem rowF_none : ∀ (cs : List TC) (vs : List V3) (i : Int), cs.length = vs.length → (∀ j, j < vs.length → ccV (nthC cs j) (nthV vs j) = 0) → rowF cs vs i = (0, 0)
  | [], [], _, _, _ => rfl
  | c :: cs, v :: vs, i, hl, ha => by
    have h0 : ccV c v = 0 := ha 0 (by simp)
    show (if ccV c v = 0 then rowF cs vs (i + 1) else (ccV c v, i)) = _
    rw [if_pos h0]
    exact rowF_none cs vs (i + 1) (by simpa using hl) fun j hj => ha (j + 1) (by simpa using hj)
  | [], _ :: _, _, hl, _ => by simp at hl
  | _ :: _, [], _, hl, _ => by simp at hl
set_option maxRecDepth 100000 in
set_option maxHeartbeats 2000000 in
theorem cellCode_any (nm : ByteArray) (ty : Int) (nl : Bool) (k n : Int) (t : ByteArray) (w : World) :
    Calls Tryz.prog 58 #[ValC (nm, ty, nl), VV k n t] w fun e w' => e = .returned (.int .i64 (ccV (nm, ty, nl) (k, n, t))) ∧ Below w.heap.size w w' := by
  have B1 : Below w.heap.size w (w.alloc (.cells #[.string nm, .int .i64 ty, .bool nl] 85)) := (Below.refl _ _).alloc (Nat.le_refl _) _
  have B2 : Below w.heap.size w ((w.alloc (.cells #[.string nm, .int .i64 ty, .bool nl] 85)).alloc (.cells #[.int .i64 k, .int .i64 n, .string t] 59)) := B1.alloc (Nat.le_of_lt (by simp)) _
  by_cases h0 : k = 0
  · subst h0
    cases nl with
    | false =>
      go_enter Tryz.func58, Tryz.ntmps58
      go_wp2
      go_ret
      exact ⟨rfl, B2⟩
    | true =>
      go_enter Tryz.func58, Tryz.ntmps58
      go_wp2
      go_ret
      exact ⟨rfl, B2⟩
  · have g0 : (k == 0) = false := beq_eq_false_iff_ne.2 h0
    have g1 : (k != 0) = true := bne_iff_ne.2 h0
    by_cases h1 : k = ty
    · subst h1
      have HE : Hid (ccV (nm, k, nl) (k, n, t) = 0) := by show _ = _; simp [ccV, h0]
      go_enter Tryz.func58, Tryz.ntmps58
      go_wp2
      go_ret
      exact ⟨ret_int' HE.out.symm, B2⟩
    · have HE : Hid (ccV (nm, ty, nl) (k, n, t) = 10) := by show _ = _; simp [ccV, h0, h1]
      have g2 : (k != ty) = true := bne_iff_ne.2 h1
      go_enter Tryz.func58, Tryz.ntmps58
      go_wp2
      go_ret
      exact ⟨ret_int' HE.out.symm, B2⟩
set_option maxRecDepth 100000 in
set_option maxHeartbeats 2000000 in
theorem l09Cell_any (nm : ByteArray) (ty : Int) (nl : Bool) (k n : Int) (t : ByteArray) (w : World) :
    Calls Tryz.prog 53 #[ValC (nm, ty, nl), VV k n t] w fun e w' => e = .returned (.int .i64 (ccV (nm, ty, nl) (k, n, t))) ∧ Below w.heap.size w w' := by
  have B1 : Below w.heap.size w (w.alloc (.cells #[.string nm, .int .i64 ty, .bool nl] 85)) := (Below.refl _ _).alloc (Nat.le_refl _) _
  have B2 : Below w.heap.size w ((w.alloc (.cells #[.string nm, .int .i64 ty, .bool nl] 85)).alloc (.cells #[.int .i64 k, .int .i64 n, .string t] 59)) := B1.alloc (Nat.le_of_lt (by simp)) _
  by_cases h0 : k = 0
  · subst h0
    cases nl with
    | false =>
      go_enter Tryz.func53, Tryz.ntmps53
      go_wp2
      go_ret
      exact ⟨rfl, B2⟩
    | true =>
      go_enter Tryz.func53, Tryz.ntmps53
      go_wp2
      go_ret
      exact ⟨rfl, B2⟩
  · have g0 : (k == 0) = false := beq_eq_false_iff_ne.2 h0
    have g1 : (k != 0) = true := bne_iff_ne.2 h0
    by_cases h1 : k = ty
    · subst h1
      have HE : Hid (ccV (nm, k, nl) (k, n, t) = 0) := by show _ = _; simp [ccV, h0]
      go_enter Tryz.func53, Tryz.ntmps53
      go_wp2
      go_ret
      exact ⟨ret_int' HE.out.symm, B2⟩
    · have HE : Hid (ccV (nm, ty, nl) (k, n, t) = 10) := by show _ = _; simp [ccV, h0, h1]
      have g2 : (k != ty) = true := bne_iff_ne.2 h1
      go_enter Tryz.func53, Tryz.ntmps53
      go_wp2
      go_ret
      exact ⟨ret_int' HE.out.symm, B2⟩
end Go.Proofs.YtepkdodicglilaaGreatDoor
