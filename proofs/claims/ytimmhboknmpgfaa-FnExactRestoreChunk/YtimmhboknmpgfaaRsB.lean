/- What RestoreChunk answers on both sides. -/
import Derived.Test.YtimmhboknmpgfaaRsA
namespace Go.Proofs.Ytimmhboknmpgfaa
open Go.RowKit

abbrev RC (n : Int) (t : ByteArray) (d : Bool) (k : Int) : Value := .tuple #[RV n t d, .int .i64 k]
abbrev noB : ByteArray := ⟨#[]⟩
/-- What a right restore makes of one more piece. -/
def tkR (n : Int) (t : ByteArray) (d : Bool) (c : ByteArray) : Value :=
  if d = true then RC n t d 16 else if c.size < 1 ∨ 64 < c.size then RC n t d 4 else if 65536 < t.size + c.size then RC n t d 7
  else RC ((t.size : Int) + c.size) (t ++ c) (decide ((c.size : Int) < 64)) 0
def rcR (n : Int) (t : ByteArray) (d : Bool) (c : ByteArray) : Value :=
  if 65536 < c.size then RC 0 noB false 2 else if okR n t d = true then tkR n t d c else RC 0 noB false 1

set_option maxHeartbeats 1000000 in
theorem specTake_any (n : Int) (t : ByteArray) (d : Bool) (c : ByteArray) (w : World) (hn : n = (t.size : Int)) (ht : t.size ≤ 65536) (hc : c.size ≤ 65536) :
    Calls Try.prog 12 #[RV n t d, .string c] w fun e w' => e = .returned (tkR n t d c) ∧ Below w.heap.size w w' := by
  subst hn
  by_cases h1 : d = true
  · subst h1
    have H : Hid (tkR t.size t true c = RC t.size t true 16) := by show _ = _; unfold tkR; rw [if_pos rfl]
    go_enter Try.func12, Try.ntmps12
    go_wp2
    all_goals first | (exfalso; simp_all; done) | (exfalso; omega) | exact bodyPost_ret (v := RC t.size t true 16) (by simp [results, Try.results12, go_sem]) rfl ⟨by rw [H.out], ((Below.refl _ _).alloc (Nat.le_refl _) _).alloc (by simp) _⟩

  have h1 : d = false := by simpa using h1
  subst h1
  by_cases h2 : c.size < 1 ∨ 64 < c.size
  · have H : Hid (tkR t.size t false c = RC t.size t false 4) := by show _ = _; unfold tkR; rw [if_neg (by decide), if_pos h2]
    rcases h2 with h2 | h2
    · have h2a : ((c.size : Int) == 0) = true := beq_iff_eq.mpr (by omega)
      go_enter Try.func12, Try.ntmps12
      go_wp2
      all_goals first | (exfalso; simp_all; done) | (exfalso; omega) | exact bodyPost_ret (v := RC t.size t false 4) (by simp [results, Try.results12, go_sem]) rfl ⟨by rw [H.out], ((Below.refl _ _).alloc (Nat.le_refl _) _).alloc (by simp) _⟩

    · have h2a : ((c.size : Int) == 0) = false := beq_eq_false_iff_ne.mpr (by omega)
      have h2b : (64 : Int) < (c.size : Int) := by omega
      go_enter Try.func12, Try.ntmps12
      go_wp2
      all_goals first | (exfalso; simp_all; done) | (exfalso; omega) | exact bodyPost_ret (v := RC t.size t false 4) (by simp [results, Try.results12, go_sem]) rfl ⟨by rw [H.out], ((Below.refl _ _).alloc (Nat.le_refl _) _).alloc (by simp) _⟩

  have h2a : ((c.size : Int) == 0) = false := beq_eq_false_iff_ne.mpr (by omega)
  have h2b : ¬ (64 : Int) < (c.size : Int) := by omega
  by_cases h3 : 65536 < t.size + c.size
  · have H : Hid (tkR t.size t false c = RC t.size t false 7) := by show _ = _; unfold tkR; rw [if_neg (by decide), if_neg h2, if_pos h3]
    have h3a : (65536 : Int) < (t.size : Int) + (c.size : Int) := by omega
    go_enter Try.func12, Try.ntmps12
    go_wp2
    all_goals first | (exfalso; simp_all; done) | (exfalso; omega) | exact bodyPost_ret (v := RC t.size t false 7) (by simp [results, Try.results12, go_sem]) rfl ⟨by rw [H.out], ((Below.refl _ _).alloc (Nat.le_refl _) _).alloc (by simp) _⟩

  have H : Hid (tkR t.size t false c = RC ((t.size : Int) + c.size) (t ++ c) (decide ((c.size : Int) < 64)) 0) := by show _ = _; unfold tkR; rw [if_neg (by decide), if_neg h2, if_neg h3]
  have h3a : ¬ (65536 : Int) < (t.size : Int) + (c.size : Int) := by omega
  go_enter Try.func12, Try.ntmps12
  go_wp2
  all_goals first | (exfalso; simp_all; done) | (exfalso; omega) | exact bodyPost_ret (v := RC ((t.size : Int) + c.size) (t ++ c) (decide ((c.size : Int) < 64)) 0) (by simp [results, Try.results12, go_sem]) rfl ⟨by rw [H.out], ((Below.refl _ _).alloc (Nat.le_refl _) _).alloc (by simp) _⟩

end Go.Proofs.Ytimmhboknmpgfaa
