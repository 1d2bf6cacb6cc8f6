/- The law on BinaryValue (stage 12). -/
import Derived.Test.YteloioopkndcmaaBvO
import Derived.Test.YteloioopkndcmaaBvQ
namespace Go.Proofs.Yteloioopkndcmaa
open Go.RowKit

/-- Two values that the law was handed, in their blocks. -/
def Ar2 (w : World) (k n : Int) (t : ByteArray) (k2 n2 : Int) (t2 : ByteArray) (w' : World) : Prop :=
  BoxV' w' w.heap.size k n t ∧ BoxV' w' (w.heap.size + 1) k2 n2 t2 ∧ Below w.heap.size w w'
theorem Ar2.keep {w w1 w2 : World} {k n : Int} {t : ByteArray} {k2 n2 : Int} {t2 : ByteArray} (h : Ar2 w k n t k2 n2 t2 w1) (hb : Below w1.heap.size w1 w2) : Ar2 w k n t k2 n2 t2 w2 :=
  ⟨(hb.block _ (lt_blk h.1)).trans h.1, (hb.block _ (lt_blk h.2.1)).trans h.2.1, h.2.2.trans (hb.mono h.2.2.size)⟩
theorem Ar2.start (w : World) (k n : Int) (t : ByteArray) (k2 n2 : Int) (t2 : ByteArray) : Ar2 w k n t k2 n2 t2 ((w.alloc (.cells #[.int .i64 k, .int .i64 n, .string t] 41)).alloc (.cells #[.int .i64 k2, .int .i64 n2, .string t2] 41)) :=
  ⟨blk1' w _ _, blk2' w _ _, below2 w _ _⟩
set_option maxRecDepth 100000 in
set_option maxHeartbeats 4000000 in
theorem lawBin_any (s : ByteArray) (k n : Int) (t : ByteArray) (k2 n2 : Int) (t2 : ByteArray) (w : World) (hm : s.size ≤ maxLen) (ht : t.size ≤ maxLen) (hn : In64 n) (ht2 : t2.size ≤ maxLen) (hn2 : In64 n2) :
    Calls Try.prog 9 #[.string s, VV k n t, VV k2 n2 t2] w fun e w' => e = .returned (.bool true) ∧ Below w.heap.size w w' := by
  have A0 : Hid (Ar2 w k n t k2 n2 t2 _) := Ar2.start w k n t k2 n2 t2
  have hz := szValue_any k n 1048576 t ((w.alloc (.cells #[.int .i64 k, .int .i64 n, .string t] 41)).alloc (.cells #[.int .i64 k2, .int .i64 n2, .string t2] 41)) (by omega) (by omega) ht
  have hbd := leftOf_bd 1048576 t (by omega)
  have HZ2 : Hid (∀ l w1, 0 ≤ l → l ≤ 1048576 → Calls Try.prog 26 #[VV k2 n2 t2, .int .i64 l] w1 fun e w' => e = .returned (.int .i64 (leftOf l t2)) ∧ Below w1.heap.size w1 w') := fun l w1 h0 h1 => szValue_any k2 n2 l t2 w1 h0 h1 ht2
  have HT : Hid (∀ w1, Calls Try.prog 27 #[VV k n t] w1 fun e w' => e = .returned (VV k n t) ∧ Below w1.heap.size w1 w') := fun w1 => toValue_any k n t w1
  have HT2 : Hid (∀ w1, Calls Try.prog 27 #[VV k2 n2 t2] w1 fun e w' => e = .returned (VV k2 n2 t2) ∧ Below w1.heap.size w1 w') := fun w1 => toValue_any k2 n2 t2 w1
  have HS : Hid (∀ w1, Calls Try.prog 20 #[.string s, VV k n t, VV k2 n2 t2] w1 fun e w' => e = .returned (ansV (binA s k n t k2 n2 t2)) ∧ Below w1.heap.size w1 w') := fun w1 => specBin_any s k n t k2 n2 t2 w1 hm hn hn2
  have HI : Hid (∀ w1, Calls Try.prog 19 #[.string s, VV k n t, VV k2 n2 t2] w1 fun e w' => e = .returned (ansV (binA s k n t k2 n2 t2)) ∧ Below w1.heap.size w1 w') := fun w1 => implBin_any s k n t k2 n2 t2 w1 hm ht ht2 hn hn2
  generalize binA s k n t k2 n2 t2 = X at *
  obtain ⟨⟨xk, xn, xt⟩, xc⟩ := X
  generalize leftOf 1048576 t = lf at *
  clear hn ht hn2 ht2
  unfold maxLen at hm
  by_cases hlong : 1048576 < s.size
  · have h' : (1048576 : Int) < (s.size : Int) := by omega
    go_enter Try.func9, Try.ntmps9
    go_wp2_with fail
    go_ret
    exact ⟨rfl, A0.out.2.2⟩
  go_enter Try.func9, Try.ntmps9
  go_wp2_with fail
  refine hz.mono ?_
  rintro e w1 ⟨rfl, b1⟩
  have A1 : Hid (Ar2 w k n t k2 n2 t2 w1) := Ar2.keep A0.out b1
  clear b1 A0 hz
  by_cases hlf : lf < 0
  · go_wp2_with fail
    go_ret
    exact ⟨rfl, A1.out.2.2⟩
  obtain ⟨u0, u1, u2⟩ := box_load A1.out.2.1 (Below.refl _ _)
  have hz := HZ2.out lf w1 (by omega) hbd.2
  clear HZ2 hbd
  generalize leftOf lf t2 = lf2 at *
  go_wp2_with fail
  refine hz.mono ?_
  rintro e w2 ⟨rfl, b2⟩
  have A2 : Hid (Ar2 w k n t k2 n2 t2 w2) := Ar2.keep A1.out b2
  clear u0 u1 u2 b2 A1 hz
  by_cases hlf2 : lf2 < 0
  · go_wp2_with fail
    go_ret
    exact ⟨rfl, A2.out.2.2⟩
  go_wp2_with fail
  refine regb10 w2 s w.heap.size (w.heap.size + 1) k n t k2 n2 t2 xk xn xt xc _ _ _ _ _ _ _ _ _ _ _ _ _ _ _ _ _ _ _ _ _ _ _ _ _ _ _ _ _ _ _ _ _ _ _ _ _ _ A2.out.1 A2.out.2.1 HT.out HT2.out HS.out ?_
  intro x0 x1 x2 x3 x4 x5 x6 x7 x8 Y w3 hY hY2 b3
  have A3 : Hid (Ar2 w k n t k2 n2 t2 w3) := Ar2.keep A2.out b3
  have R3 : Hid (BoxV w3 Y xk xn xt) := hY
  clear hY hY2 b3 A2 HS
  go_wp2_with fail
  refine regb11 w3 s w.heap.size (w.heap.size + 1) k n t k2 n2 t2 xk xn xt xc _ _ _ _ _ _ _ _ _ _ _ _ _ _ _ _ _ _ _ _ _ _ _ _ _ _ _ _ _ _ _ _ _ _ _ _ _ _ A3.out.1 A3.out.2.1 HT.out HT2.out HI.out ?_
  intro y0 y1 y2 y3 y4 y5 y6 y7 y8 Z w4 hZ hZ2 b4
  have A4 : Hid (Ar2 w k n t k2 n2 t2 w4) := Ar2.keep A3.out b4
  have R4 := keep_box R3.out b4
  obtain ⟨r0, r1, r2, _, _, _⟩ := box_facts R4
  obtain ⟨z0, z1, z2, _, _, _⟩ := box_facts hZ
  have E1 := eqValue_same xk xn xt w4
  clear b4 A3 HI HT HT2 R3 R4 hZ hZ2
  go_wp2_with fail
  refine E1.mono ?_
  rintro e w8 ⟨rfl, b8⟩
  have A8 : Hid (Ar2 w k n t k2 n2 t2 w8) := Ar2.keep A4.out b8
  clear b8 A4 E1 r0 r1 r2 z0 z1 z2
  go_wp2_with fail
  go_ret
  exact ⟨rfl, A8.out.2.2⟩
end Go.Proofs.Yteloioopkndcmaa
