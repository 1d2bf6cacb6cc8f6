/- impl's fieldsOK (stage 11). -/
import Derived.Test.YteejkmcljokloaaGreatDoorSqA
namespace Go.Proofs.YteejkmcljokloaaGreatDoor
open Go.RowKit

set_option maxRecDepth 100000 in
set_option maxHeartbeats 4000000 in
theorem fields1 (n : Int) (nm of : ByteArray) (vk vn : Int) (vt : ByteArray) (s : Value) (w : World) (ht : nm.size ≤ maxLen ∧ of.size ≤ maxLen) :
    Calls Tryz.prog 73 #[ValT ⟨1, n, nm, of, vk, vn, vt⟩ s] w fun e w' => e = .returned (.bool (fieldB ⟨1, n, nm, of, vk, vn, vt⟩)) ∧ Below w.heap.size w w' := by
  have HT : Hid (nm.size ≤ maxLen ∧ of.size ≤ maxLen) := ht
  clear ht
  have B0 : Hid (∀ o, Below w.heap.size w (w.alloc o)) := fun o => (Below.refl _ _).alloc (Nat.le_refl _) _
  go_enter Tryz.func73, Tryz.ntmps73
  go_wp2_with (first | (go_at_call 91; refine (isGivenName_any _ _ (by first | exact HT.out.1 | exact HT.out.2)).mono ?_; rintro e w' ⟨rfl, hq⟩; obtain rfl := hq.symm) | (go_at_call 99; refine (unaryLevel_any _ _).mono ?_; rintro e w' ⟨rfl, hq⟩; obtain rfl := hq.symm) | (go_at_call 100; refine (signLevel_any _ _).mono ?_; rintro e w' ⟨rfl, hq⟩; obtain rfl := hq.symm) | (go_at_call 101; refine (isAggregate_any _ _).mono ?_; rintro e w' ⟨rfl, hq⟩; obtain rfl := hq.symm))
  all_goals
    go_ret
    exact ⟨ret_bool' (by simp_all [fieldB, emp, noV]), B0.out _⟩

set_option maxRecDepth 100000 in
set_option maxHeartbeats 4000000 in
theorem fields7 (n : Int) (nm of : ByteArray) (vk vn : Int) (vt : ByteArray) (s : Value) (w : World) (ht : nm.size ≤ maxLen ∧ of.size ≤ maxLen) :
    Calls Tryz.prog 73 #[ValT ⟨7, n, nm, of, vk, vn, vt⟩ s] w fun e w' => e = .returned (.bool (fieldB ⟨7, n, nm, of, vk, vn, vt⟩)) ∧ Below w.heap.size w w' := by
  have HT : Hid (nm.size ≤ maxLen ∧ of.size ≤ maxLen) := ht
  clear ht
  have B0 : Hid (∀ o, Below w.heap.size w (w.alloc o)) := fun o => (Below.refl _ _).alloc (Nat.le_refl _) _
  go_enter Tryz.func73, Tryz.ntmps73
  go_wp2_with (first | (go_at_call 91; refine (isGivenName_any _ _ (by first | exact HT.out.1 | exact HT.out.2)).mono ?_; rintro e w' ⟨rfl, hq⟩; obtain rfl := hq.symm) | (go_at_call 99; refine (unaryLevel_any _ _).mono ?_; rintro e w' ⟨rfl, hq⟩; obtain rfl := hq.symm) | (go_at_call 100; refine (signLevel_any _ _).mono ?_; rintro e w' ⟨rfl, hq⟩; obtain rfl := hq.symm) | (go_at_call 101; refine (isAggregate_any _ _).mono ?_; rintro e w' ⟨rfl, hq⟩; obtain rfl := hq.symm))
  all_goals
    go_ret
    exact ⟨ret_bool' (by simp_all [fieldB, emp, noV]), B0.out _⟩

set_option maxRecDepth 100000 in
set_option maxHeartbeats 4000000 in
theorem fields8 (n : Int) (nm of : ByteArray) (vk vn : Int) (vt : ByteArray) (s : Value) (w : World) (ht : nm.size ≤ maxLen ∧ of.size ≤ maxLen) :
    Calls Tryz.prog 73 #[ValT ⟨8, n, nm, of, vk, vn, vt⟩ s] w fun e w' => e = .returned (.bool (fieldB ⟨8, n, nm, of, vk, vn, vt⟩)) ∧ Below w.heap.size w w' := by
  have HT : Hid (nm.size ≤ maxLen ∧ of.size ≤ maxLen) := ht
  clear ht
  have B0 : Hid (∀ o, Below w.heap.size w (w.alloc o)) := fun o => (Below.refl _ _).alloc (Nat.le_refl _) _
  go_enter Tryz.func73, Tryz.ntmps73
  go_wp2_with (first | (go_at_call 91; refine (isGivenName_any _ _ (by first | exact HT.out.1 | exact HT.out.2)).mono ?_; rintro e w' ⟨rfl, hq⟩; obtain rfl := hq.symm) | (go_at_call 99; refine (unaryLevel_any _ _).mono ?_; rintro e w' ⟨rfl, hq⟩; obtain rfl := hq.symm) | (go_at_call 100; refine (signLevel_any _ _).mono ?_; rintro e w' ⟨rfl, hq⟩; obtain rfl := hq.symm) | (go_at_call 101; refine (isAggregate_any _ _).mono ?_; rintro e w' ⟨rfl, hq⟩; obtain rfl := hq.symm))
  all_goals
    go_ret
    exact ⟨ret_bool' (by simp_all [fieldB, emp, noV]), B0.out _⟩

set_option maxRecDepth 100000 in
set_option maxHeartbeats 4000000 in
theorem fields9 (n : Int) (nm of : ByteArray) (vk vn : Int) (vt : ByteArray) (s : Value) (w : World) (ht : nm.size ≤ maxLen ∧ of.size ≤ maxLen) :
    Calls Tryz.prog 73 #[ValT ⟨9, n, nm, of, vk, vn, vt⟩ s] w fun e w' => e = .returned (.bool (fieldB ⟨9, n, nm, of, vk, vn, vt⟩)) ∧ Below w.heap.size w w' := by
  have HT : Hid (nm.size ≤ maxLen ∧ of.size ≤ maxLen) := ht
  clear ht
  have B0 : Hid (∀ o, Below w.heap.size w (w.alloc o)) := fun o => (Below.refl _ _).alloc (Nat.le_refl _) _
  go_enter Tryz.func73, Tryz.ntmps73
  go_wp2_with (first | (go_at_call 91; refine (isGivenName_any _ _ (by first | exact HT.out.1 | exact HT.out.2)).mono ?_; rintro e w' ⟨rfl, hq⟩; obtain rfl := hq.symm) | (go_at_call 99; refine (unaryLevel_any _ _).mono ?_; rintro e w' ⟨rfl, hq⟩; obtain rfl := hq.symm) | (go_at_call 100; refine (signLevel_any _ _).mono ?_; rintro e w' ⟨rfl, hq⟩; obtain rfl := hq.symm) | (go_at_call 101; refine (isAggregate_any _ _).mono ?_; rintro e w' ⟨rfl, hq⟩; obtain rfl := hq.symm))
  all_goals
    go_ret
    exact ⟨ret_bool' (by simp_all [fieldB, emp, noV]), B0.out _⟩

set_option maxRecDepth 100000 in
set_option maxHeartbeats 4000000 in
theorem fields2 (n : Int) (nm of : ByteArray) (vk vn : Int) (vt : ByteArray) (s : Value) (w : World) (ht : nm.size ≤ maxLen ∧ of.size ≤ maxLen) :
    Calls Tryz.prog 73 #[ValT ⟨2, n, nm, of, vk, vn, vt⟩ s] w fun e w' => e = .returned (.bool (fieldB ⟨2, n, nm, of, vk, vn, vt⟩)) ∧ Below w.heap.size w w' := by
  have HT : Hid (nm.size ≤ maxLen ∧ of.size ≤ maxLen) := ht
  clear ht
  have B0 : Hid (∀ o, Below w.heap.size w (w.alloc o)) := fun o => (Below.refl _ _).alloc (Nat.le_refl _) _
  go_enter Tryz.func73, Tryz.ntmps73
  go_wp2_with (first | (go_at_call 91; refine (isGivenName_any _ _ (by first | exact HT.out.1 | exact HT.out.2)).mono ?_; rintro e w' ⟨rfl, hq⟩; obtain rfl := hq.symm) | (go_at_call 99; refine (unaryLevel_any _ _).mono ?_; rintro e w' ⟨rfl, hq⟩; obtain rfl := hq.symm) | (go_at_call 100; refine (signLevel_any _ _).mono ?_; rintro e w' ⟨rfl, hq⟩; obtain rfl := hq.symm) | (go_at_call 101; refine (isAggregate_any _ _).mono ?_; rintro e w' ⟨rfl, hq⟩; obtain rfl := hq.symm))
  all_goals
    go_ret
    exact ⟨ret_bool' (by simp_all [fieldB, emp, noV]), B0.out _⟩

set_option maxRecDepth 100000 in
set_option maxHeartbeats 4000000 in
theorem fields3 (n : Int) (nm of : ByteArray) (vk vn : Int) (vt : ByteArray) (s : Value) (w : World) (ht : nm.size ≤ maxLen ∧ of.size ≤ maxLen) :
    Calls Tryz.prog 73 #[ValT ⟨3, n, nm, of, vk, vn, vt⟩ s] w fun e w' => e = .returned (.bool (fieldB ⟨3, n, nm, of, vk, vn, vt⟩)) ∧ Below w.heap.size w w' := by
  have HT : Hid (nm.size ≤ maxLen ∧ of.size ≤ maxLen) := ht
  clear ht
  have B0 : Hid (∀ o, Below w.heap.size w (w.alloc o)) := fun o => (Below.refl _ _).alloc (Nat.le_refl _) _
  go_enter Tryz.func73, Tryz.ntmps73
  go_wp2_with (first | (go_at_call 91; refine (isGivenName_any _ _ (by first | exact HT.out.1 | exact HT.out.2)).mono ?_; rintro e w' ⟨rfl, hq⟩; obtain rfl := hq.symm) | (go_at_call 99; refine (unaryLevel_any _ _).mono ?_; rintro e w' ⟨rfl, hq⟩; obtain rfl := hq.symm) | (go_at_call 100; refine (signLevel_any _ _).mono ?_; rintro e w' ⟨rfl, hq⟩; obtain rfl := hq.symm) | (go_at_call 101; refine (isAggregate_any _ _).mono ?_; rintro e w' ⟨rfl, hq⟩; obtain rfl := hq.symm))
  all_goals
    go_ret
    exact ⟨ret_bool' (by simp_all [fieldB, emp, noV]), B0.out _⟩

set_option maxRecDepth 100000 in
set_option maxHeartbeats 4000000 in
theorem fields4 (n : Int) (nm of : ByteArray) (vk vn : Int) (vt : ByteArray) (s : Value) (w : World) (ht : nm.size ≤ maxLen ∧ of.size ≤ maxLen) :
    Calls Tryz.prog 73 #[ValT ⟨4, n, nm, of, vk, vn, vt⟩ s] w fun e w' => e = .returned (.bool (fieldB ⟨4, n, nm, of, vk, vn, vt⟩)) ∧ Below w.heap.size w w' := by
  have HT : Hid (nm.size ≤ maxLen ∧ of.size ≤ maxLen) := ht
  clear ht
  have B0 : Hid (∀ o, Below w.heap.size w (w.alloc o)) := fun o => (Below.refl _ _).alloc (Nat.le_refl _) _
  go_enter Tryz.func73, Tryz.ntmps73
  go_wp2_with (first | (go_at_call 91; refine (isGivenName_any _ _ (by first | exact HT.out.1 | exact HT.out.2)).mono ?_; rintro e w' ⟨rfl, hq⟩; obtain rfl := hq.symm) | (go_at_call 99; refine (unaryLevel_any _ _).mono ?_; rintro e w' ⟨rfl, hq⟩; obtain rfl := hq.symm) | (go_at_call 100; refine (signLevel_any _ _).mono ?_; rintro e w' ⟨rfl, hq⟩; obtain rfl := hq.symm) | (go_at_call 101; refine (isAggregate_any _ _).mono ?_; rintro e w' ⟨rfl, hq⟩; obtain rfl := hq.symm))
  all_goals
    go_ret
    exact ⟨ret_bool' (by simp_all [fieldB, emp, noV]), B0.out _⟩

set_option maxRecDepth 100000 in
set_option maxHeartbeats 4000000 in
theorem fields12 (n : Int) (nm of : ByteArray) (vk vn : Int) (vt : ByteArray) (s : Value) (w : World) (ht : nm.size ≤ maxLen ∧ of.size ≤ maxLen) :
    Calls Tryz.prog 73 #[ValT ⟨12, n, nm, of, vk, vn, vt⟩ s] w fun e w' => e = .returned (.bool (fieldB ⟨12, n, nm, of, vk, vn, vt⟩)) ∧ Below w.heap.size w w' := by
  have HT : Hid (nm.size ≤ maxLen ∧ of.size ≤ maxLen) := ht
  clear ht
  have B0 : Hid (∀ o, Below w.heap.size w (w.alloc o)) := fun o => (Below.refl _ _).alloc (Nat.le_refl _) _
  go_enter Tryz.func73, Tryz.ntmps73
  go_wp2_with (first | (go_at_call 91; refine (isGivenName_any _ _ (by first | exact HT.out.1 | exact HT.out.2)).mono ?_; rintro e w' ⟨rfl, hq⟩; obtain rfl := hq.symm) | (go_at_call 99; refine (unaryLevel_any _ _).mono ?_; rintro e w' ⟨rfl, hq⟩; obtain rfl := hq.symm) | (go_at_call 100; refine (signLevel_any _ _).mono ?_; rintro e w' ⟨rfl, hq⟩; obtain rfl := hq.symm) | (go_at_call 101; refine (isAggregate_any _ _).mono ?_; rintro e w' ⟨rfl, hq⟩; obtain rfl := hq.symm))
  all_goals
    go_ret
    exact ⟨ret_bool' (by simp_all [fieldB, emp, noV]), B0.out _⟩

set_option maxRecDepth 100000 in
set_option maxHeartbeats 4000000 in
theorem fields5 (n : Int) (nm of : ByteArray) (vk vn : Int) (vt : ByteArray) (s : Value) (w : World) (ht : nm.size ≤ maxLen ∧ of.size ≤ maxLen) :
    Calls Tryz.prog 73 #[ValT ⟨5, n, nm, of, vk, vn, vt⟩ s] w fun e w' => e = .returned (.bool (fieldB ⟨5, n, nm, of, vk, vn, vt⟩)) ∧ Below w.heap.size w w' := by
  have HT : Hid (nm.size ≤ maxLen ∧ of.size ≤ maxLen) := ht
  clear ht
  have B0 : Hid (∀ o, Below w.heap.size w (w.alloc o)) := fun o => (Below.refl _ _).alloc (Nat.le_refl _) _
  go_enter Tryz.func73, Tryz.ntmps73
  go_wp2_with (first | (go_at_call 91; refine (isGivenName_any _ _ (by first | exact HT.out.1 | exact HT.out.2)).mono ?_; rintro e w' ⟨rfl, hq⟩; obtain rfl := hq.symm) | (go_at_call 99; refine (unaryLevel_any _ _).mono ?_; rintro e w' ⟨rfl, hq⟩; obtain rfl := hq.symm) | (go_at_call 100; refine (signLevel_any _ _).mono ?_; rintro e w' ⟨rfl, hq⟩; obtain rfl := hq.symm) | (go_at_call 101; refine (isAggregate_any _ _).mono ?_; rintro e w' ⟨rfl, hq⟩; obtain rfl := hq.symm))
  all_goals
    go_ret
    exact ⟨ret_bool' (by simp_all [fieldB, emp, noV]), B0.out _⟩

set_option maxRecDepth 100000 in
set_option maxHeartbeats 4000000 in
theorem fields6 (n : Int) (nm of : ByteArray) (vk vn : Int) (vt : ByteArray) (s : Value) (w : World) (ht : nm.size ≤ maxLen ∧ of.size ≤ maxLen) :
    Calls Tryz.prog 73 #[ValT ⟨6, n, nm, of, vk, vn, vt⟩ s] w fun e w' => e = .returned (.bool (fieldB ⟨6, n, nm, of, vk, vn, vt⟩)) ∧ Below w.heap.size w w' := by
  have HT : Hid (nm.size ≤ maxLen ∧ of.size ≤ maxLen) := ht
  clear ht
  have B0 : Hid (∀ o, Below w.heap.size w (w.alloc o)) := fun o => (Below.refl _ _).alloc (Nat.le_refl _) _
  go_enter Tryz.func73, Tryz.ntmps73
  go_wp2_with (first | (go_at_call 91; refine (isGivenName_any _ _ (by first | exact HT.out.1 | exact HT.out.2)).mono ?_; rintro e w' ⟨rfl, hq⟩; obtain rfl := hq.symm) | (go_at_call 99; refine (unaryLevel_any _ _).mono ?_; rintro e w' ⟨rfl, hq⟩; obtain rfl := hq.symm) | (go_at_call 100; refine (signLevel_any _ _).mono ?_; rintro e w' ⟨rfl, hq⟩; obtain rfl := hq.symm) | (go_at_call 101; refine (isAggregate_any _ _).mono ?_; rintro e w' ⟨rfl, hq⟩; obtain rfl := hq.symm))
  all_goals
    go_ret
    exact ⟨ret_bool' (by simp_all [fieldB, emp, noV]), B0.out _⟩

set_option maxRecDepth 100000 in
set_option maxHeartbeats 4000000 in
theorem fields14 (n : Int) (nm of : ByteArray) (vk vn : Int) (vt : ByteArray) (s : Value) (w : World) (ht : nm.size ≤ maxLen ∧ of.size ≤ maxLen) :
    Calls Tryz.prog 73 #[ValT ⟨14, n, nm, of, vk, vn, vt⟩ s] w fun e w' => e = .returned (.bool (fieldB ⟨14, n, nm, of, vk, vn, vt⟩)) ∧ Below w.heap.size w w' := by
  have HT : Hid (nm.size ≤ maxLen ∧ of.size ≤ maxLen) := ht
  clear ht
  have B0 : Hid (∀ o, Below w.heap.size w (w.alloc o)) := fun o => (Below.refl _ _).alloc (Nat.le_refl _) _
  go_enter Tryz.func73, Tryz.ntmps73
  go_wp2_with (first | (go_at_call 91; refine (isGivenName_any _ _ (by first | exact HT.out.1 | exact HT.out.2)).mono ?_; rintro e w' ⟨rfl, hq⟩; obtain rfl := hq.symm) | (go_at_call 99; refine (unaryLevel_any _ _).mono ?_; rintro e w' ⟨rfl, hq⟩; obtain rfl := hq.symm) | (go_at_call 100; refine (signLevel_any _ _).mono ?_; rintro e w' ⟨rfl, hq⟩; obtain rfl := hq.symm) | (go_at_call 101; refine (isAggregate_any _ _).mono ?_; rintro e w' ⟨rfl, hq⟩; obtain rfl := hq.symm))
  all_goals
    go_ret
    exact ⟨ret_bool' (by simp_all [fieldB, emp, noV]), B0.out _⟩

set_option maxRecDepth 100000 in
set_option maxHeartbeats 4000000 in
theorem fields10 (n : Int) (nm of : ByteArray) (vk vn : Int) (vt : ByteArray) (s : Value) (w : World) (ht : nm.size ≤ maxLen ∧ of.size ≤ maxLen) :
    Calls Tryz.prog 73 #[ValT ⟨10, n, nm, of, vk, vn, vt⟩ s] w fun e w' => e = .returned (.bool (fieldB ⟨10, n, nm, of, vk, vn, vt⟩)) ∧ Below w.heap.size w w' := by
  have HT : Hid (nm.size ≤ maxLen ∧ of.size ≤ maxLen) := ht
  clear ht
  have B0 : Hid (∀ o, Below w.heap.size w (w.alloc o)) := fun o => (Below.refl _ _).alloc (Nat.le_refl _) _
  go_enter Tryz.func73, Tryz.ntmps73
  go_wp2_with (first | (go_at_call 91; refine (isGivenName_any _ _ (by first | exact HT.out.1 | exact HT.out.2)).mono ?_; rintro e w' ⟨rfl, hq⟩; obtain rfl := hq.symm) | (go_at_call 99; refine (unaryLevel_any _ _).mono ?_; rintro e w' ⟨rfl, hq⟩; obtain rfl := hq.symm) | (go_at_call 100; refine (signLevel_any _ _).mono ?_; rintro e w' ⟨rfl, hq⟩; obtain rfl := hq.symm) | (go_at_call 101; refine (isAggregate_any _ _).mono ?_; rintro e w' ⟨rfl, hq⟩; obtain rfl := hq.symm))
  all_goals
    go_ret
    exact ⟨ret_bool' (by simp_all [fieldB, emp, noV]), B0.out _⟩

set_option maxRecDepth 100000 in
set_option maxHeartbeats 4000000 in
theorem fields11 (n : Int) (nm of : ByteArray) (vk vn : Int) (vt : ByteArray) (s : Value) (w : World) (ht : nm.size ≤ maxLen ∧ of.size ≤ maxLen) :
    Calls Tryz.prog 73 #[ValT ⟨11, n, nm, of, vk, vn, vt⟩ s] w fun e w' => e = .returned (.bool (fieldB ⟨11, n, nm, of, vk, vn, vt⟩)) ∧ Below w.heap.size w w' := by
  have HT : Hid (nm.size ≤ maxLen ∧ of.size ≤ maxLen) := ht
  clear ht
  have B0 : Hid (∀ o, Below w.heap.size w (w.alloc o)) := fun o => (Below.refl _ _).alloc (Nat.le_refl _) _
  go_enter Tryz.func73, Tryz.ntmps73
  go_wp2_with (first | (go_at_call 91; refine (isGivenName_any _ _ (by first | exact HT.out.1 | exact HT.out.2)).mono ?_; rintro e w' ⟨rfl, hq⟩; obtain rfl := hq.symm) | (go_at_call 99; refine (unaryLevel_any _ _).mono ?_; rintro e w' ⟨rfl, hq⟩; obtain rfl := hq.symm) | (go_at_call 100; refine (signLevel_any _ _).mono ?_; rintro e w' ⟨rfl, hq⟩; obtain rfl := hq.symm) | (go_at_call 101; refine (isAggregate_any _ _).mono ?_; rintro e w' ⟨rfl, hq⟩; obtain rfl := hq.symm))
  all_goals
    go_ret
    exact ⟨ret_bool' (by first | (simp_all [fieldB, emp, noV, inB]; done) | (simp_all [fieldB, emp, noV, inB]; intros; omega)), B0.out _⟩

set_option maxRecDepth 100000 in
set_option maxHeartbeats 4000000 in
theorem fields15 (n : Int) (nm of : ByteArray) (vk vn : Int) (vt : ByteArray) (s : Value) (w : World) (ht : nm.size ≤ maxLen ∧ of.size ≤ maxLen) :
    Calls Tryz.prog 73 #[ValT ⟨15, n, nm, of, vk, vn, vt⟩ s] w fun e w' => e = .returned (.bool (fieldB ⟨15, n, nm, of, vk, vn, vt⟩)) ∧ Below w.heap.size w w' := by
  have HT : Hid (nm.size ≤ maxLen ∧ of.size ≤ maxLen) := ht
  clear ht
  have B0 : Hid (∀ o, Below w.heap.size w (w.alloc o)) := fun o => (Below.refl _ _).alloc (Nat.le_refl _) _
  go_enter Tryz.func73, Tryz.ntmps73
  go_wp2_with (first | (go_at_call 91; refine (isGivenName_any _ _ (by first | exact HT.out.1 | exact HT.out.2)).mono ?_; rintro e w' ⟨rfl, hq⟩; obtain rfl := hq.symm) | (go_at_call 99; refine (unaryLevel_any _ _).mono ?_; rintro e w' ⟨rfl, hq⟩; obtain rfl := hq.symm) | (go_at_call 100; refine (signLevel_any _ _).mono ?_; rintro e w' ⟨rfl, hq⟩; obtain rfl := hq.symm) | (go_at_call 101; refine (isAggregate_any _ _).mono ?_; rintro e w' ⟨rfl, hq⟩; obtain rfl := hq.symm))
  all_goals
    go_ret
    exact ⟨ret_bool' (by first | (simp_all [fieldB, emp, noV]; done) | (simp_all [fieldB, emp, noV]; intros; omega)), B0.out _⟩

set_option maxRecDepth 100000 in
set_option maxHeartbeats 4000000 in
theorem fields16 (n : Int) (nm of : ByteArray) (vk vn : Int) (vt : ByteArray) (s : Value) (w : World) (ht : nm.size ≤ maxLen ∧ of.size ≤ maxLen) :
    Calls Tryz.prog 73 #[ValT ⟨16, n, nm, of, vk, vn, vt⟩ s] w fun e w' => e = .returned (.bool (fieldB ⟨16, n, nm, of, vk, vn, vt⟩)) ∧ Below w.heap.size w w' := by
  have HT : Hid (nm.size ≤ maxLen ∧ of.size ≤ maxLen) := ht
  clear ht
  have B0 : Hid (∀ o, Below w.heap.size w (w.alloc o)) := fun o => (Below.refl _ _).alloc (Nat.le_refl _) _
  go_enter Tryz.func73, Tryz.ntmps73
  go_wp2_with (first | (go_at_call 91; refine (isGivenName_any _ _ (by first | exact HT.out.1 | exact HT.out.2)).mono ?_; rintro e w' ⟨rfl, hq⟩; obtain rfl := hq.symm) | (go_at_call 99; refine (unaryLevel_any _ _).mono ?_; rintro e w' ⟨rfl, hq⟩; obtain rfl := hq.symm) | (go_at_call 100; refine (signLevel_any _ _).mono ?_; rintro e w' ⟨rfl, hq⟩; obtain rfl := hq.symm) | (go_at_call 101; refine (isAggregate_any _ _).mono ?_; rintro e w' ⟨rfl, hq⟩; obtain rfl := hq.symm))
  all_goals
    go_ret
    exact ⟨ret_bool' (by first | (simp_all [fieldB, emp, noV]; done) | (simp_all [fieldB, emp, noV]; intros; omega)), B0.out _⟩

set_option maxRecDepth 100000 in
set_option maxHeartbeats 4000000 in
theorem fields17 (n : Int) (nm of : ByteArray) (vk vn : Int) (vt : ByteArray) (s : Value) (w : World) (ht : nm.size ≤ maxLen ∧ of.size ≤ maxLen) :
    Calls Tryz.prog 73 #[ValT ⟨17, n, nm, of, vk, vn, vt⟩ s] w fun e w' => e = .returned (.bool (fieldB ⟨17, n, nm, of, vk, vn, vt⟩)) ∧ Below w.heap.size w w' := by
  have HT : Hid (nm.size ≤ maxLen ∧ of.size ≤ maxLen) := ht
  clear ht
  have B0 : Hid (∀ o, Below w.heap.size w (w.alloc o)) := fun o => (Below.refl _ _).alloc (Nat.le_refl _) _
  go_enter Tryz.func73, Tryz.ntmps73
  go_wp2_with (first | (go_at_call 91; refine (isGivenName_any _ _ (by first | exact HT.out.1 | exact HT.out.2)).mono ?_; rintro e w' ⟨rfl, hq⟩; obtain rfl := hq.symm) | (go_at_call 99; refine (unaryLevel_any _ _).mono ?_; rintro e w' ⟨rfl, hq⟩; obtain rfl := hq.symm) | (go_at_call 100; refine (signLevel_any _ _).mono ?_; rintro e w' ⟨rfl, hq⟩; obtain rfl := hq.symm) | (go_at_call 101; refine (isAggregate_any _ _).mono ?_; rintro e w' ⟨rfl, hq⟩; obtain rfl := hq.symm))
  all_goals
    go_ret
    exact ⟨ret_bool' (by simp_all [fieldB, emp, noV]), B0.out _⟩

set_option maxRecDepth 100000 in
set_option maxHeartbeats 4000000 in
theorem fields13 (n : Int) (nm of : ByteArray) (vk vn : Int) (vt : ByteArray) (s : Value) (w : World) :
    Calls Tryz.prog 73 #[ValT ⟨13, n, nm, of, vk, vn, vt⟩ s] w fun e w' => e = .returned (.bool (fieldB ⟨13, n, nm, of, vk, vn, vt⟩)) ∧ Below w.heap.size w w' := by
  have X0 : Hid ((w.alloc (.cells #[.int .i64 13, .int .i64 n, .string nm, .string of, .int .i64 vk, .int .i64 vn, .string vt, s] 38)).heap[w.heap.size]? = some (.cells #[.int .i64 13, .int .i64 n, .string nm, .string of, .int .i64 vk, .int .i64 vn, .string vt, s] 38 (0, 0))) := heap_new' _ _ _ rfl
  have B0 : Below w.heap.size w (w.alloc (.cells #[.int .i64 13, .int .i64 n, .string nm, .string of, .int .i64 vk, .int .i64 vn, .string vt, s] 38)) := (Below.refl _ _).alloc (Nat.le_refl _) _
  go_enter Tryz.func73, Tryz.ntmps73
  go_wp2_with fail
  refine (implValueOK_any vk vn vt _).mono ?_
  rintro e w1 ⟨rfl, b1⟩
  have x1 : w1.heap[w.heap.size]? = some (.cells #[.int .i64 13, .int .i64 n, .string nm, .string of, .int .i64 vk, .int .i64 vn, .string vt, s] 38 (0, 0)) := (b1.block _ (by simp)).trans X0.out
  have B1 : Below w.heap.size w w1 := B0.trans (b1.mono B0.size)
  have y1 : w1.cell? ⟨w.heap.size, 1, none⟩ = some (.int .i64 n) := (slab_cell x1).trans rfl
  have y2 : w1.cell? ⟨w.heap.size, 2, none⟩ = some (.string nm) := (slab_cell x1).trans rfl
  have y3 : w1.cell? ⟨w.heap.size, 3, none⟩ = some (.string of) := (slab_cell x1).trans rfl
  have y4 : w1.cell? ⟨w.heap.size, 4, none⟩ = some (.int .i64 vk) := (slab_cell x1).trans rfl
  have y5 : w1.cell? ⟨w.heap.size, 5, none⟩ = some (.int .i64 vn) := (slab_cell x1).trans rfl
  have y6 : w1.cell? ⟨w.heap.size, 6, none⟩ = some (.string vt) := (slab_cell x1).trans rfl
  have hf : ∀ q, w1.frozen? ⟨w.heap.size, q, none⟩ = false := fun q => slab_free x1
  have HB : Hid (∀ v4 v5 v6, Below w.heap.size w (((w1.setCell ⟨w.heap.size, 4, none⟩ v4).setCell ⟨w.heap.size, 5, none⟩ v5).setCell ⟨w.heap.size, 6, none⟩ v6)) := fun v4 v5 v6 => ((B1.setCell (p := ⟨w.heap.size, 4, none⟩) (Nat.le_refl _) _).setCell (p := ⟨w.heap.size, 5, none⟩) (Nat.le_refl _) _).setCell (p := ⟨w.heap.size, 6, none⟩) (Nat.le_refl _) _
  clear X0 B0 b1 x1 B1
  cases hok : okV vk vn vt with
  | false =>
    have HK : Hid (okV vk vn vt = false) := hok
    clear hok
    go_wp2
    all_goals
      go_ret
      exact ⟨ret_bool' (by show false = _; simp [fieldB, HK.out]), HB.out _ _ _⟩
  | true =>
    have HK : Hid (okV vk vn vt = true) := hok
    clear hok
    go_wp2
    all_goals
      go_ret
      refine ⟨ret_bool' ?_, HB.out _ _ _⟩
      have hk := HK.out
      clear HK HB y1 y2 y3 y4 y5 y6 hf
      first | (simp_all [fieldB, emp, inB]; done) | (simp_all [fieldB, emp, inB]; intros; omega)
set_option maxRecDepth 100000 in
set_option maxHeartbeats 4000000 in
theorem fieldsNo (k n : Int) (nm of : ByteArray) (vk vn : Int) (vt : ByteArray) (s : Value) (w : World) (h1 : ¬ k = 1) (h2 : ¬ k = 2) (h3 : ¬ k = 3) (h4 : ¬ k = 4) (h5 : ¬ k = 5) (h6 : ¬ k = 6) (h7 : ¬ k = 7) (h8 : ¬ k = 8) (h9 : ¬ k = 9) (h10 : ¬ k = 10) (h11 : ¬ k = 11) (h12 : ¬ k = 12) (h13 : ¬ k = 13) (h14 : ¬ k = 14) (h15 : ¬ k = 15) (h16 : ¬ k = 16) (h17 : ¬ k = 17) :
    Calls Tryz.prog 73 #[ValT ⟨k, n, nm, of, vk, vn, vt⟩ s] w fun e w' => e = .returned (.bool (fieldB ⟨k, n, nm, of, vk, vn, vt⟩)) ∧ Below w.heap.size w w' := by
  have HE : Hid (fieldB ⟨k, n, nm, of, vk, vn, vt⟩ = false) := by show _ = _; simp [fieldB, h1, h2, h3, h4, h5, h6, h7, h8, h9, h10, h11, h12, h13, h14, h15, h16, h17]
  go_enter Tryz.func73, Tryz.ntmps73
  go_wp2
  go_ret
  exact ⟨ret_bool' HE.out.symm, (Below.refl _ _).alloc (Nat.le_refl _) _⟩
theorem fieldsOK_any (x : ND) (s : Value) (w : World) (ht : TextsN maxLen x) : Calls Tryz.prog 73 #[ValT x s] w fun e w' => e = .returned (.bool (fieldB x)) ∧ Below w.heap.size w w' := by
  obtain ⟨k, n, nm, of, vk, vn, vt⟩ := x
  have ht' : nm.size ≤ maxLen ∧ of.size ≤ maxLen := ⟨ht.1, ht.2.1⟩
  by_cases h1 : k = 1
  · subst h1; exact fields1 n nm of vk vn vt s w ht'
  by_cases h2 : k = 2
  · subst h2; exact fields2 n nm of vk vn vt s w ht'
  by_cases h3 : k = 3
  · subst h3; exact fields3 n nm of vk vn vt s w ht'
  by_cases h4 : k = 4
  · subst h4; exact fields4 n nm of vk vn vt s w ht'
  by_cases h5 : k = 5
  · subst h5; exact fields5 n nm of vk vn vt s w ht'
  by_cases h6 : k = 6
  · subst h6; exact fields6 n nm of vk vn vt s w ht'
  by_cases h7 : k = 7
  · subst h7; exact fields7 n nm of vk vn vt s w ht'
  by_cases h8 : k = 8
  · subst h8; exact fields8 n nm of vk vn vt s w ht'
  by_cases h9 : k = 9
  · subst h9; exact fields9 n nm of vk vn vt s w ht'
  by_cases h10 : k = 10
  · subst h10; exact fields10 n nm of vk vn vt s w ht'
  by_cases h11 : k = 11
  · subst h11; exact fields11 n nm of vk vn vt s w ht'
  by_cases h12 : k = 12
  · subst h12; exact fields12 n nm of vk vn vt s w ht'
  by_cases h13 : k = 13
  · subst h13; exact fields13 n nm of vk vn vt s w
  by_cases h14 : k = 14
  · subst h14; exact fields14 n nm of vk vn vt s w ht'
  by_cases h15 : k = 15
  · subst h15; exact fields15 n nm of vk vn vt s w ht'
  by_cases h16 : k = 16
  · subst h16; exact fields16 n nm of vk vn vt s w ht'
  by_cases h17 : k = 17
  · subst h17; exact fields17 n nm of vk vn vt s w ht'
  exact fieldsNo k n nm of vk vn vt s w h1 h2 h3 h4 h5 h6 h7 h8 h9 h10 h11 h12 h13 h14 h15 h16 h17
end Go.Proofs.YteejkmcljokloaaGreatDoor
