/- What both CompareValues functions answer. -/
import Derived.Test.YthdilgggjkekaaaOrder
import Derived.Deep.RegionHeld3
namespace Go.Proofs.Ythdilgggjkekaaa
open Go.RowKit
theorem cell3 (w : World) (o1 o2 : Obj) (C : Array Value) (i : Nat) (v : Value) (h : C[i]? = some v) :
    (((w.alloc o1).alloc o2).alloc (.cells C 3)).drew.cell? ⟨w.heap.size + 1 + 1, i, none⟩ = some v := by
  go_simp
set_option maxHeartbeats 1000000 in
theorem valueOrder_any (k1 n1 : Int) (t1 : ByteArray) (k2 n2 : Int) (t2 : ByteArray) (w : World) :
    Calls Try.prog 25 #[VV k1 n1 t1, VV k2 n2 t2] w fun e w' => e = .returned (.int .i64 (cmpV k1 n1 t1 k2 n2 t2)) ∧ Below w.heap.size w w' := by
  go_enter Try.func25, Try.ntmps25
  go_wp2
  go_region_held3 (fun w' => w'.cell? ⟨w.heap.size, 0, none⟩ = some (.int .i64 k1) ∧ w'.cell? ⟨w.heap.size, 1, none⟩ = some (.int .i64 n1) ∧ w'.cell? ⟨w.heap.size, 2, none⟩ = some (.string t1) ∧ w'.cell? ⟨w.heap.size + 1, 0, none⟩ = some (.int .i64 k2) ∧ w'.cell? ⟨w.heap.size + 1, 1, none⟩ = some (.int .i64 n2) ∧ w'.cell? ⟨w.heap.size + 1, 2, none⟩ = some (.string t2)) (go_simp) (first | (go_at_call 40; refine (cmpInt_any _ _ _).mono ?_; rintro e w' ⟨rfl, rfl⟩) | (go_at_call 41; refine (cmpStr_any _ _ _).mono ?_; rintro e w' ⟨rfl, rfl⟩) | (go_at_call 39; refine (cmpOr_any _ (cmpI k1 k2) (cmpI n1 n2) (cmpS t1 t2) _ ?_ ?_ ?_).mono ?_; exact cell3 _ _ _ _ _ _ rfl; exact cell3 _ _ _ _ _ _ rfl; exact cell3 _ _ _ _ _ _ rfl; rintro e w' ⟨rfl, rfl⟩))
  go_wp2
  go_ret
  exact ⟨ret_int' cmpV_or.symm, ((((Below.refl _ _).alloc (Nat.le_refl _) _).alloc (by simp) _).alloc (by simp; omega) _).drew⟩

def okB (a b : Bool) : Bool := a && b
/-- What CompareValues answers: the order, and the code. -/
def cvR (k1 n1 : Int) (t1 : ByteArray) (k2 n2 : Int) (t2 : ByteArray) : Int := if okB (okV k1 n1 t1) (okV k2 n2 t2) then cmpV k1 n1 t1 k2 n2 t2 else 0
def cvC (k1 n1 : Int) (t1 : ByteArray) (k2 n2 : Int) (t2 : ByteArray) : Int := if okB (okV k1 n1 t1) (okV k2 n2 t2) then 0 else 1

theorem ret_two {a b c d : Int} (h : a = c) (h2 : b = d) : Ending.returned (.tuple #[.int .i64 a, .int .i64 b]) = .returned (.tuple #[.int .i64 c, .int .i64 d]) := by rw [h, h2]
end Go.Proofs.Ythdilgggjkekaaa
