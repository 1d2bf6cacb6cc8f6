/- What both CompareValues functions answer. -/
import Derived.Test.YtfkenogbfbbbjaaOrder
import Derived.Deep.RegionHeld3
namespace Go.Proofs.Ytfkenogbfbbbjaa
open Go.RowKit
theorem cell3 (w : World) (o1 o2 : Obj) (C : Array Value) (i : Nat) (v : Value) (h : C[i]? = some v) :
    (((w.alloc o1).alloc o2).alloc (.cells C 3)).drew.cell? ⟨w.heap.size + 1 + 1, i, none⟩ = some v := by
  go_simp
set_option maxHeartbeats 1000000 in
theorem valueOrder_any (k1 n1 : Int) (t1 : ByteArray) (k2 n2 : Int) (t2 : ByteArray) (w : World) :
    Calls Try.prog 50 #[VV k1 n1 t1, VV k2 n2 t2] w fun e w' => e = .returned (.int .i64 (cmpV k1 n1 t1 k2 n2 t2)) ∧ Below w.heap.size w w' := by
  go_enter Try.func50, Try.ntmps50
  go_wp2
  go_region_held3 (fun w' => w'.cell? ⟨w.heap.size, 0, none⟩ = some (.int .i64 k1) ∧ w'.cell? ⟨w.heap.size, 1, none⟩ = some (.int .i64 n1) ∧ w'.cell? ⟨w.heap.size, 2, none⟩ = some (.string t1) ∧ w'.cell? ⟨w.heap.size + 1, 0, none⟩ = some (.int .i64 k2) ∧ w'.cell? ⟨w.heap.size + 1, 1, none⟩ = some (.int .i64 n2) ∧ w'.cell? ⟨w.heap.size + 1, 2, none⟩ = some (.string t2)) (go_simp) (first | (go_at_call 82; refine (cmpInt_any _ _ _).mono ?_; rintro e w' ⟨rfl, rfl⟩) | (go_at_call 83; refine (cmpStr_any _ _ _).mono ?_; rintro e w' ⟨rfl, rfl⟩) | (go_at_call 81; refine (cmpOr_any _ (cmpI k1 k2) (cmpI n1 n2) (cmpS t1 t2) _ ?_ ?_ ?_).mono ?_; exact cell3 _ _ _ _ _ _ rfl; exact cell3 _ _ _ _ _ _ rfl; exact cell3 _ _ _ _ _ _ rfl; rintro e w' ⟨rfl, rfl⟩))
  go_wp2
  go_ret
  exact ⟨ret_int' cmpV_or.symm, ((((Below.refl _ _).alloc (Nat.le_refl _) _).alloc (by simp) _).alloc (by simp; omega) _).drew⟩

def okB (a b : Bool) : Bool := a && b
/-- What CompareValues answers: the order, and the code. -/
def cvR (k1 n1 : Int) (t1 : ByteArray) (k2 n2 : Int) (t2 : ByteArray) : Int := if okB (okV k1 n1 t1) (okV k2 n2 t2) then cmpV k1 n1 t1 k2 n2 t2 else 0
def cvC (k1 n1 : Int) (t1 : ByteArray) (k2 n2 : Int) (t2 : ByteArray) : Int := if okB (okV k1 n1 t1) (okV k2 n2 t2) then 0 else 1

theorem ret_two {a b c d : Int} (h : a = c) (h2 : b = d) : Ending.returned (.tuple #[.int .i64 a, .int .i64 b]) = .returned (.tuple #[.int .i64 c, .int .i64 d]) := by rw [h, h2]

section
variable {k1 n1 : Int} {t1 : ByteArray} {k2 n2 : Int} {t2 : ByteArray}
theorem cv_bad (h : okB (okV k1 n1 t1) (okV k2 n2 t2) = false) : 0 = cvR k1 n1 t1 k2 n2 t2 ∧ 1 = cvC k1 n1 t1 k2 n2 t2 := by unfold cvR cvC; simp [h]
theorem cv_ok (h : okB (okV k1 n1 t1) (okV k2 n2 t2) = true) : cmpV k1 n1 t1 k2 n2 t2 = cvR k1 n1 t1 k2 n2 t2 ∧ 0 = cvC k1 n1 t1 k2 n2 t2 := by unfold cvR cvC; simp [h]
end

set_option maxHeartbeats 1000000 in
theorem specCompare_any (k1 n1 : Int) (t1 : ByteArray) (k2 n2 : Int) (t2 : ByteArray) (w : World) :
    Calls Try.prog 16 #[VV k1 n1 t1, VV k2 n2 t2] w fun e w' => e = .returned (.tuple #[.int .i64 (cvR k1 n1 t1 k2 n2 t2), .int .i64 (cvC k1 n1 t1 k2 n2 t2)]) ∧ Below w.heap.size w w' := by
  by_cases h1 : okV k1 n1 t1 = true
  · by_cases h2 : okV k2 n2 t2 = true
    · have H : Hid (okB (okV k1 n1 t1) (okV k2 n2 t2) = true) := by show okB _ _ = true; rw [h1, h2]; rfl
      go_enter Try.func16, Try.ntmps16
      go_wp2_with fail
      refine (specValueOK_any _ _ _ _).mono ?_
      rintro e w1 ⟨rfl, hb1⟩
      have hc1 := (bcell hb1).1
      go_wp2_with fail
      refine (specValueOK_any _ _ _ _).mono ?_
      rintro e w2 ⟨rfl, hb2⟩
      have hB2 := below_step hb1 (Nat.le_refl _) hb2
      clear hc1 hb1 hb2
      have hc2 := (bcell hB2).1
      go_wp2_with fail
      refine (l01Compare_any _ _ _ _ _ _ _).mono ?_
      rintro e w3 ⟨rfl, hb3⟩
      have hB3 := below_step hB2 (Nat.le_refl _) hb3
      clear hc2 hB2 hb3
      go_wp2
      go_ret2
      exact ⟨ret_two (cv_ok H.out).1 (cv_ok H.out).2, (((Below.refl _ _).alloc (Nat.le_refl _) _).alloc (by simp) _).trans (hB3.mono (by simp; omega))⟩
    · have h2' : okV k2 n2 t2 = false := by simpa using h2
      have H : Hid (okB (okV k1 n1 t1) (okV k2 n2 t2) = false) := by show okB _ _ = false; rw [h1, h2']; rfl
      clear h2
      go_enter Try.func16, Try.ntmps16
      go_wp2_with fail
      refine (specValueOK_any _ _ _ _).mono ?_
      rintro e w1 ⟨rfl, hb1⟩
      have hc1 := (bcell hb1).1
      go_wp2_with fail
      refine (specValueOK_any _ _ _ _).mono ?_
      rintro e w2 ⟨rfl, hb2⟩
      have hB2 := below_step hb1 (Nat.le_refl _) hb2
      clear hc1 hb1 hb2
      go_wp2
      go_ret2
      exact ⟨ret_two (cv_bad H.out).1 (cv_bad H.out).2, (((Below.refl _ _).alloc (Nat.le_refl _) _).alloc (by simp) _).trans (hB2.mono (by simp; omega))⟩
  · have h1' : okV k1 n1 t1 = false := by simpa using h1
    have H : Hid (okB (okV k1 n1 t1) (okV k2 n2 t2) = false) := by show okB _ _ = false; rw [h1']; rfl
    clear h1
    go_enter Try.func16, Try.ntmps16
    go_wp2_with fail
    refine (specValueOK_any _ _ _ _).mono ?_
    rintro e w1 ⟨rfl, hb1⟩
    go_wp2
    go_ret2
    exact ⟨ret_two (cv_bad H.out).1 (cv_bad H.out).2, (((Below.refl _ _).alloc (Nat.le_refl _) _).alloc (by simp) _).trans (hb1.mono (by simp; omega))⟩

set_option maxHeartbeats 1000000 in
theorem implCompare_any (k1 n1 : Int) (t1 : ByteArray) (k2 n2 : Int) (t2 : ByteArray) (w : World) :
    Calls Try.prog 15 #[VV k1 n1 t1, VV k2 n2 t2] w fun e w' => e = .returned (.tuple #[.int .i64 (cvR k1 n1 t1 k2 n2 t2), .int .i64 (cvC k1 n1 t1 k2 n2 t2)]) ∧ Below w.heap.size w w' := by
  by_cases h1 : okV k1 n1 t1 = true
  · by_cases h2 : okV k2 n2 t2 = true
    · have H : Hid (okB (okV k1 n1 t1) (okV k2 n2 t2) = true) := by show okB _ _ = true; rw [h1, h2]; rfl
      go_enter Try.func15, Try.ntmps15
      go_wp2_with fail
      refine (implValueOK_any _ _ _ _).mono ?_
      rintro e w1 ⟨rfl, hb1⟩
      have hc1 := (bcell hb1).1
      go_wp2_with fail
      refine (implValueOK_any _ _ _ _).mono ?_
      rintro e w2 ⟨rfl, hb2⟩
      have hB2 := below_step hb1 (Nat.le_refl _) hb2
      clear hc1 hb1 hb2
      have hc2 := (bcell hB2).1
      go_wp2_with fail
      refine (valueOrder_any _ _ _ _ _ _ _).mono ?_
      rintro e w3 ⟨rfl, hb3⟩
      have hB3 := below_step hB2 (Nat.le_refl _) hb3
      clear hc2 hB2 hb3
      go_wp2
      go_ret2
      exact ⟨ret_two (cv_ok H.out).1 (cv_ok H.out).2, (((Below.refl _ _).alloc (Nat.le_refl _) _).alloc (by simp) _).trans (hB3.mono (by simp; omega))⟩
    · have h2' : okV k2 n2 t2 = false := by simpa using h2
      have H : Hid (okB (okV k1 n1 t1) (okV k2 n2 t2) = false) := by show okB _ _ = false; rw [h1, h2']; rfl
      clear h2
      go_enter Try.func15, Try.ntmps15
      go_wp2_with fail
      refine (implValueOK_any _ _ _ _).mono ?_
      rintro e w1 ⟨rfl, hb1⟩
      have hc1 := (bcell hb1).1
      go_wp2_with fail
      refine (implValueOK_any _ _ _ _).mono ?_
      rintro e w2 ⟨rfl, hb2⟩
      have hB2 := below_step hb1 (Nat.le_refl _) hb2
      clear hc1 hb1 hb2
      go_wp2
      go_ret2
      exact ⟨ret_two (cv_bad H.out).1 (cv_bad H.out).2, (((Below.refl _ _).alloc (Nat.le_refl _) _).alloc (by simp) _).trans (hB2.mono (by simp; omega))⟩
  · have h1' : okV k1 n1 t1 = false := by simpa using h1
    have H : Hid (okB (okV k1 n1 t1) (okV k2 n2 t2) = false) := by show okB _ _ = false; rw [h1']; rfl
    clear h1
    go_enter Try.func15, Try.ntmps15
    go_wp2_with fail
    refine (implValueOK_any _ _ _ _).mono ?_
    rintro e w1 ⟨rfl, hb1⟩
    go_wp2
    go_ret2
    exact ⟨ret_two (cv_bad H.out).1 (cv_bad H.out).2, (((Below.refl _ _).alloc (Nat.le_refl _) _).alloc (by simp) _).trans (hb1.mono (by simp; omega))⟩
end Go.Proofs.Ytfkenogbfbbbjaa
