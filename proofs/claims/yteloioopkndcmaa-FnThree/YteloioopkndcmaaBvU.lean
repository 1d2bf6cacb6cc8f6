/- The law on UnaryValue (stage 12). -/
import Derived.Test.YteloioopkndcmaaBvF
namespace Go.Proofs.Yteloioopkndcmaa
open Go.RowKit

theorem eqValue_same (k n : Int) (t : ByteArray) (w : World) :
    Calls Try.prog 28 #[VV k n t, VV k n t] w fun e w' => e = .returned (.bool true) ∧ Below w.heap.size w w' := by
  go_enter Try.func28, Try.ntmps28
  go_wp2
  go_ret
  exact ⟨rfl, ((Below.refl _ _).alloc (Nat.le_refl _) _).alloc (by simp) _⟩
/-- A value that the law was handed, in its block. -/
abbrev ArgB (w : World) (k n : Int) (t : ByteArray) (w' : World) : Prop :=
  (w'.cell? ⟨w.heap.size, 0, none⟩ = some (.int .i64 k) ∧ w'.cell? ⟨w.heap.size, 1, none⟩ = some (.int .i64 n) ∧ w'.cell? ⟨w.heap.size, 2, none⟩ = some (.string t)) ∧ Hid (w.heap.size < w'.heap.size ∧ Below w.heap.size w w')
theorem ArgB.keep {w w1 w2 : World} {k n : Int} {t : ByteArray} (h : ArgB w k n t w1) (hb : Below w1.heap.size w1 w2) : ArgB w k n t w2 := by
  obtain ⟨⟨h1, h2, h3⟩, ⟨h4, h5⟩⟩ := h
  have hc := (bcell hb).1
  exact ⟨⟨(hc _ _ h4).trans h1, (hc _ _ h4).trans h2, (hc _ _ h4).trans h3⟩, ⟨Nat.lt_of_lt_of_le h4 hb.size, h5.trans (hb.mono h5.size)⟩⟩
theorem ArgB.start (w : World) (k n : Int) (t : ByteArray) (ty : TypeId) : ArgB w k n t (w.alloc (.cells #[.int .i64 k, .int .i64 n, .string t] ty)) :=
  ⟨by simp, ⟨by simp, (Below.refl _ _).alloc (Nat.le_refl _) _⟩⟩
set_option maxRecDepth 100000 in
set_option maxHeartbeats 2000000 in
theorem lawUnary_any (s : ByteArray) (k n : Int) (t : ByteArray) (w : World) (hm : s.size ≤ maxLen) (ht : t.size ≤ maxLen) (hn : In64 n) :
    Calls Try.prog 10 #[.string s, VV k n t] w fun e w' => e = .returned (.bool true) ∧ Below w.heap.size w w' := by
  have A0 : Hid (ArgB w k n t _) := ArgB.start w k n t 41
  have hz := szValue_any k n 1048576 t (w.alloc (.cells #[.int .i64 k, .int .i64 n, .string t] 41)) (by omega) (by omega) ht
  have HT : Hid (∀ w1, Calls Try.prog 27 #[VV k n t] w1 fun e w' => e = .returned (VV k n t) ∧ Below w1.heap.size w1 w') := fun w1 => toValue_any k n t w1
  have HS : Hid (∀ w1, Calls Try.prog 29 #[.string s, VV k n t] w1 fun e w' => e = .returned (ansV (unA s k n t)) ∧ Below w1.heap.size w1 w') := fun w1 => specUnary_any s k n t w1 hm hn
  have HI : Hid (∀ w1, Calls Try.prog 21 #[.string s, VV k n t] w1 fun e w' => e = .returned (ansV (unA s k n t)) ∧ Below w1.heap.size w1 w') := fun w1 => implUnary_any s k n t w1 hm ht hn
  generalize unA s k n t = X at *
  obtain ⟨⟨xk, xn, xt⟩, xc⟩ := X
  generalize leftOf 1048576 t = lf at *
  clear hn ht
  unfold maxLen at hm
  by_cases hlong : 1048576 < s.size
  · have h' : (1048576 : Int) < (s.size : Int) := by omega
    go_enter Try.func10, Try.ntmps10
    go_wp2_with fail
    go_ret
    exact ⟨rfl, A0.out.2.out.2⟩
  obtain ⟨⟨u0, u1, u2⟩, _⟩ := A0.out
  go_enter Try.func10, Try.ntmps10
  go_wp2_with fail
  refine hz.mono ?_
  rintro e w1 ⟨rfl, b1⟩
  have A1 : Hid (ArgB w k n t w1) := ArgB.keep A0.out b1
  clear u0 u1 u2 b1 A0 hz
  by_cases hlf : lf < 0
  · go_wp2_with fail
    go_ret
    exact ⟨rfl, A1.out.2.out.2⟩
  obtain ⟨⟨u0, u1, u2⟩, _⟩ := A1.out
  go_wp2_with fail
  refine (HT.out _).mono ?_
  rintro e w2 ⟨rfl, b2⟩
  have A2 : Hid (ArgB w k n t w2) := ArgB.keep A1.out b2
  clear u0 u1 u2 b2 A1
  go_wp2_with fail
  refine (HS.out _).mono ?_
  rintro e w3 ⟨rfl, b3⟩
  have A3 : Hid (ArgB w k n t w3) := ArgB.keep A2.out b3
  clear b3 A2 HS
  have A4 : Hid (ArgB w k n t (w3.alloc (.cells #[.int .i64 xk, .int .i64 xn, .string xt] 24))) := ArgB.keep A3.out ((Below.refl _ _).alloc (Nat.le_refl _) _)
  have R4 : Hid (BoxV (w3.alloc (.cells #[.int .i64 xk, .int .i64 xn, .string xt] 24)) w3.heap.size xk xn xt) := heap_alloc_new w3 _
  have L4 : w3.heap.size < (w3.alloc (.cells #[.int .i64 xk, .int .i64 xn, .string xt] 24)).heap.size := by simp
  obtain ⟨⟨u0, u1, u2⟩, _⟩ := A3.out
  have hl3 : w.heap.size < w3.heap.size := A3.out.2.out.1
  go_wp2_with fail
  refine (HT.out _).mono ?_
  rintro e w5 ⟨rfl, b5⟩
  have A5 : Hid (ArgB w k n t w5) := ArgB.keep A4.out b5
  have R5 : Hid (BoxV w5 w3.heap.size xk xn xt ∧ w3.heap.size < w5.heap.size) := ⟨(b5.block _ L4).trans R4.out, Nat.lt_of_lt_of_le L4 b5.size⟩
  clear u0 u1 u2 b5 A4 R4 L4 HT A3 hl3
  go_wp2_with fail
  refine (HI.out _).mono ?_
  rintro e w6 ⟨rfl, b6⟩
  have A6 : Hid (ArgB w k n t w6) := ArgB.keep A5.out b6
  have R6 : BoxV w6 w3.heap.size xk xn xt := (b6.block _ R5.out.2).trans R5.out.1
  have hl6 : w3.heap.size < w6.heap.size := Nat.lt_of_lt_of_le R5.out.2 b6.size
  obtain ⟨r0, r1, r2, _, _, _⟩ := box_facts R6
  clear b6 A5 R5 HI R6
  have E1 := eqValue_same xk xn xt (w6.alloc (.cells #[.int .i64 xk, .int .i64 xn, .string xt] 24))
  have A7 : Hid (ArgB w k n t (w6.alloc (.cells #[.int .i64 xk, .int .i64 xn, .string xt] 24))) := ArgB.keep A6.out ((Below.refl _ _).alloc (Nat.le_refl _) _)
  clear A6
  go_wp2_with fail
  refine E1.mono ?_
  rintro e w8 ⟨rfl, b8⟩
  have A8 : Hid (ArgB w k n t w8) := ArgB.keep A7.out b8
  clear b8 A7 E1 r0 r1 r2
  go_wp2_with fail
  go_ret
  exact ⟨rfl, A8.out.2.out.2⟩
end Go.Proofs.Yteloioopkndcmaa
