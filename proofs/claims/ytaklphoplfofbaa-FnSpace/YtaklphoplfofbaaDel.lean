/- slices.Delete of one number of a list of the call's own (stage 4). -/
import Derived.Test.YtaklphoplfofbaaStF
import Derived.Shelf.Slices.Delete
import Derived.Lib.OwnBridge
namespace Go.Proofs
open Go.Shelf
def Try.laysDel_ren : Go.Shelf.Ren := ⟨fun | 23 => 76 | n => n, fun | 22 => 26 | n => n, fun | n => n⟩
theorem Try.laysDel : Go.Proofs.Lays2.n23 Try.prog Try.laysDel_ren := {
  mixed := by kernel_rfl
  f23 := Try.func76.trans (congrArg some (by kernel_rfl))
  t0 := Try.underlying0
  a0 := Try.isAgg0
  z0 := Try.sizeOf0
  v0 := Try.zeroValue0
  t3 := Try.underlying3
  a3 := Try.isAgg3
  z3 := Try.sizeOf3
  v3 := Try.zeroValue3
  t4 := Try.underlying4
  a4 := Try.isAgg4
  z4 := Try.sizeOf4
  v4 := Try.zeroValue4
  t22 := Try.underlying26
  a22 := Try.isAgg26
  z22 := Try.sizeOf26
  v22 := Try.zeroValue26
  i3 := by kernel_rfl }
end Go.Proofs
namespace Go.Proofs.Ytaklphoplfofbaa
open Go.RowKit Go.Sort Go.Lib

theorem take_erase (l : List Int) (n : Nat) (hn : n < l.length) : (l.take n ++ l.drop (n + 1) ++ List.replicate (n + 1 - n) 0).take (l.length - (n + 1 - n)) = l.eraseIdx n := by
  rw [List.take_append_of_le_length (by simp; omega), List.take_of_length_le (by simp; omega), List.eraseIdx_eq_take_drop_succ]
theorem del_own {w : World} {B : Nat} {v : Value} {l : List Int} {n : Nat} (h : OwnI w B v l) (hn : n < l.length) :
    Calls Try.prog 76 #[v, .int .i64 n, .int .i64 (n + 1)] w fun r w' => ∃ v', r = .returned v' ∧ OwnI w' B v' (l.eraseIdx n) ∧ Below B w w' := by
  rcases h.2 with ⟨rfl, h0⟩ | ⟨g, cap, cur, rfl, hB, hh, hc, hm, hs, ht⟩
  · omega
  · have hH : Holds (Value.int .i64) w g 0 l.toArray := fun j hj => by
      have hj' : j < l.length := by simpa using hj
      obtain ⟨a, c, e, r, _⟩ := h.row
      cases e
      obtain ⟨b, off, e, _, hcell⟩ := r j hj'
      cases e
      refine ⟨hcell.trans ?_, slab_free hh⟩
      rw [nthI_get hj']
      simp [hj']
    refine (Any.slices_Delete_int Try.laysDel g 0 cap n (n + 1) l w hH hc (by unfold maxLen at hm; omega) (by omega) (by omega)).mono ?_
    rintro r w' ⟨rfl, q, rfl⟩
    have hO := ownsRow_putRow (q := q) (k := l.length - (n + 1 - n)) h (ys := l.take n ++ l.drop (n + 1) ++ List.replicate (n + 1 - n) 0) (by simp; omega) (by omega)
    rw [take_erase l n hn] at hO
    exact ⟨_, rfl, ownI_of hO, below_putRow (Below.refl _ _) hB⟩
end Go.Proofs.Ytaklphoplfofbaa
