/- The map of the binary signs (stage 12). -/
import Derived.Test.YteloioopkndcmaaBvH
namespace Go.Proofs.Yteloioopkndcmaa
open Go.RowKit

abbrev gOr : ByteArray := ⟨#[111, 114]⟩
abbrev gAnd : ByteArray := ⟨#[97, 110, 100]⟩
abbrev gEq : ByteArray := ⟨#[61]⟩
abbrev gNe : ByteArray := ⟨#[60, 62]⟩
abbrev gLt : ByteArray := ⟨#[60]⟩
abbrev gLe : ByteArray := ⟨#[60, 61]⟩
abbrev gGt : ByteArray := ⟨#[62]⟩
abbrev gGe : ByteArray := ⟨#[62, 61]⟩
abbrev gAdd : ByteArray := ⟨#[43]⟩
abbrev gSub : ByteArray := ⟨#[45]⟩
abbrev gMul : ByteArray := ⟨#[42]⟩
abbrev gDiv : ByteArray := ⟨#[47]⟩
abbrev gRem : ByteArray := ⟨#[37]⟩
/-- The binary signs, and what they make of two values. -/
def BTab : List (ByteArray × (V3 → V3 → V3 × Int)) := [(gRem, reckA remR remC), (gDiv, reckA divQ divC), (gMul, reckA mulR mulC), (gSub, reckA subR subC), (gAdd, reckA addR addC), (gGe, cmpA (fun c => decide (0 ≤ c))), (gGt, cmpA (fun c => decide (0 < c))), (gLe, cmpA (fun c => decide (c ≤ 0))), (gLt, cmpA (fun c => decide (c < 0))), (gNe, cmpA (fun c => c != 0)), (gEq, cmpA (fun c => c == 0)), (gAnd, decA 0), (gOr, decA 1)]
/-- Block b is a map of the signs of L alone, each with a function that works it out. -/
def SgI (u : World) (b n : Nat) (f : List UInt8 → Option Value) (L : List (ByteArray × (V3 → V3 → V3 × Int))) : Prop :=
  MapF u b n f ∧ (∀ p ∈ L, ∃ v, f p.1.toList = some v ∧ Clo b u v p.2) ∧ ∀ s : ByteArray, (∀ p ∈ L, s ≠ p.1) → f s.toList = none
theorem SgI.step {u u1 : World} {b n : Nat} {f : List UInt8 → Option Value} {L : List (ByteArray × (V3 → V3 → V3 × Int))} (h : SgI u b n f L) (hB : Below u.heap.size u u1) {v : Value} {F : V3 → V3 → V3 × Int} (hC : Clo b u1 v F) (s : ByteArray) (hs : s.size ≤ maxLen) (hn : n < maxLen) (hne : ∀ p ∈ L, p.1 ≠ s) :
    ∃ u2 f2, (Instr.mapUpdate 60 (.map (some b)) (.string s) v).run Try.prog u1 = .ok () u2 ∧ SgI u2 b (n + 1) f2 ((s, F) :: L) ∧ u1.grownBy u2 (some b) := by
  obtain ⟨M, hL, hN⟩ := h
  obtain ⟨u2, hrun, M2, hg⟩ := (M.below hB M.lt).put Try.underlying60 s hs hn v
  have k2 : Keeps b u1 u2 := Keeps.of_grown hg
  refine ⟨u2, _, hrun, ⟨M2, fun p hp => ?_, fun r hr => ?_⟩, hg⟩
  · rcases List.mem_cons.1 hp with rfl | hp
    · exact ⟨v, by unfold putF; rw [if_pos rfl], hC.keep k2⟩
    · obtain ⟨v', e, c⟩ := hL p hp
      exact ⟨v', by unfold putF; rw [if_neg (fun e => hne p hp (bytes_eq e))]; exact e, c.keep ((Keeps.of_below hB).trans k2)⟩
  · unfold putF
    rw [if_neg (fun e => hr (s, F) (by simp) (bytes_eq e))]
    exact hN r (fun p hp => hr p (by simp [hp]))
theorem bool_lit (x : Bool) (w : World) : Calls Try.prog 58 #[.bool x] w fun e w' => e = .returned (VV 1 (if x then 1 else 0) noT) ∧ Below w.heap.size w w' := implBool_any x w
theorem ne_of_list {s r : ByteArray} (h : s.data.toList ≠ r.data.toList) : s ≠ r := fun e => h (by rw [e])
set_option maxRecDepth 100000 in
set_option maxHeartbeats 4000000 in
theorem binarySigns_any (w : World) : Calls Try.prog 37 #[] w fun e w' => ∃ b f, e = .returned (.map (some b)) ∧ SgI w' b 13 f BTab ∧ Below w.heap.size w w' := by
  have hmm : (Instr.makeMap 60 none).run Try.prog w = .ok (.map (some w.heap.size)) (w.alloc (.map #[] 0)) := rfl
  have B0 : Hid (Below w.heap.size w (w.alloc (.map #[] 0))) := (Below.refl _ _).alloc (Nat.le_refl _) _
  have I0 : Hid (SgI (w.alloc (.map #[] 0)) w.heap.size 0 (fun _ => none) []) := ⟨MapF.made w, (fun p hp => (by cases hp)), (fun _ _ => rfl)⟩
  go_enter Try.func37, Try.ntmps37
  go_wp2_with fail
  refine (bool_lit true _).mono ?_
  rintro e p0 ⟨rfl, c0⟩
  have hp0 : w.heap.size < p0.heap.size := Nat.lt_of_lt_of_le I0.out.1.lt c0.size
  go_wp2_with fail
  refine (dec_clo 1 w.heap.size _ hp0).mono ?_
  rintro e q0 ⟨v0, rfl, d0, C0⟩
  obtain ⟨u1, f1, r1, I, G⟩ := SgI.step I0.out (c0.trans (d0.mono c0.size)) C0 gOr (by decide) (by decide) (by simp)
  have B1 : Hid (Below w.heap.size w u1) := grown_below ((B0.out.trans (c0.mono B0.out.size)).trans (d0.mono (Nat.le_trans B0.out.size c0.size))) (Nat.le_trans B0.out.size (Nat.le_trans c0.size d0.size)) (Nat.le_refl _) G
  have I1 : Hid (SgI u1 w.heap.size 1 f1 _) := I
  clear I G d0 C0 I0 B0 c0 hp0
  go_wp2_with fail
  refine (bool_lit false _).mono ?_
  rintro e p1 ⟨rfl, c1⟩
  have hp1 : w.heap.size < p1.heap.size := Nat.lt_of_lt_of_le I1.out.1.lt c1.size
  go_wp2_with fail
  refine (dec_clo 0 w.heap.size _ hp1).mono ?_
  rintro e q1 ⟨v1, rfl, d1, C1⟩
  obtain ⟨u2, f2, r2, I, G⟩ := SgI.step I1.out (c1.trans (d1.mono c1.size)) C1 gAnd (by decide) (by decide) (by simp)
  have B2 : Hid (Below w.heap.size w u2) := grown_below ((B1.out.trans (c1.mono B1.out.size)).trans (d1.mono (Nat.le_trans B1.out.size c1.size))) (Nat.le_trans B1.out.size (Nat.le_trans c1.size d1.size)) (Nat.le_refl _) G
  have I2 : Hid (SgI u2 w.heap.size 2 f2 _) := I
  clear I G d1 C1 I1 B1 c1 hp1
  go_wp2_with fail
  refine (comp_clo _ 60 w.heap.size ord60 _ I2.out.1.lt).mono ?_
  rintro e q2 ⟨v2, rfl, d2, C2⟩
  obtain ⟨u3, f3, r3, I, G⟩ := SgI.step I2.out d2 C2 gEq (by decide) (by decide) (by simp)
  have B3 : Hid (Below w.heap.size w u3) := grown_below (B2.out.trans (d2.mono B2.out.size)) (Nat.le_trans B2.out.size d2.size) (Nat.le_refl _) G
  have I3 : Hid (SgI u3 w.heap.size 3 f3 _) := I
  clear I G d2 C2 I2 B2 
  go_wp2_with fail
  refine (comp_clo _ 61 w.heap.size ord61 _ I3.out.1.lt).mono ?_
  rintro e q3 ⟨v3, rfl, d3, C3⟩
  obtain ⟨u4, f4, r4, I, G⟩ := SgI.step I3.out d3 C3 gNe (by decide) (by decide) (by simp)
  have B4 : Hid (Below w.heap.size w u4) := grown_below (B3.out.trans (d3.mono B3.out.size)) (Nat.le_trans B3.out.size d3.size) (Nat.le_refl _) G
  have I4 : Hid (SgI u4 w.heap.size 4 f4 _) := I
  clear I G d3 C3 I3 B3 
  go_wp2_with fail
  refine (comp_clo _ 62 w.heap.size ord62 _ I4.out.1.lt).mono ?_
  rintro e q4 ⟨v4, rfl, d4, C4⟩
  obtain ⟨u5, f5, r5, I, G⟩ := SgI.step I4.out d4 C4 gLt (by decide) (by decide) (by simp)
  have B5 : Hid (Below w.heap.size w u5) := grown_below (B4.out.trans (d4.mono B4.out.size)) (Nat.le_trans B4.out.size d4.size) (Nat.le_refl _) G
  have I5 : Hid (SgI u5 w.heap.size 5 f5 _) := I
  clear I G d4 C4 I4 B4 
  go_wp2_with fail
  refine (comp_clo _ 63 w.heap.size ord63 _ I5.out.1.lt).mono ?_
  rintro e q5 ⟨v5, rfl, d5, C5⟩
  obtain ⟨u6, f6, r6, I, G⟩ := SgI.step I5.out d5 C5 gLe (by decide) (by decide) (by simp)
  have B6 : Hid (Below w.heap.size w u6) := grown_below (B5.out.trans (d5.mono B5.out.size)) (Nat.le_trans B5.out.size d5.size) (Nat.le_refl _) G
  have I6 : Hid (SgI u6 w.heap.size 6 f6 _) := I
  clear I G d5 C5 I5 B5 
  go_wp2_with fail
  refine (comp_clo _ 64 w.heap.size ord64 _ I6.out.1.lt).mono ?_
  rintro e q6 ⟨v6, rfl, d6, C6⟩
  obtain ⟨u7, f7, r7, I, G⟩ := SgI.step I6.out d6 C6 gGt (by decide) (by decide) (by simp)
  have B7 : Hid (Below w.heap.size w u7) := grown_below (B6.out.trans (d6.mono B6.out.size)) (Nat.le_trans B6.out.size d6.size) (Nat.le_refl _) G
  have I7 : Hid (SgI u7 w.heap.size 7 f7 _) := I
  clear I G d6 C6 I6 B6 
  go_wp2_with fail
  refine (comp_clo _ 65 w.heap.size ord65 _ I7.out.1.lt).mono ?_
  rintro e q7 ⟨v7, rfl, d7, C7⟩
  obtain ⟨u8, f8, r8, I, G⟩ := SgI.step I7.out d7 C7 gGe (by decide) (by decide) (by simp)
  have B8 : Hid (Below w.heap.size w u8) := grown_below (B7.out.trans (d7.mono B7.out.size)) (Nat.le_trans B7.out.size d7.size) (Nat.le_refl _) G
  have I8 : Hid (SgI u8 w.heap.size 8 f8 _) := I
  clear I G d7 C7 I7 B7 
  go_wp2_with fail
  refine (reck_clo addR addC 13 w.heap.size ints13 _ I8.out.1.lt).mono ?_
  rintro e q8 ⟨v8, rfl, d8, C8⟩
  obtain ⟨u9, f9, r9, I, G⟩ := SgI.step I8.out d8 C8 gAdd (by decide) (by decide) (by simp)
  have B9 : Hid (Below w.heap.size w u9) := grown_below (B8.out.trans (d8.mono B8.out.size)) (Nat.le_trans B8.out.size d8.size) (Nat.le_refl _) G
  have I9 : Hid (SgI u9 w.heap.size 9 f9 _) := I
  clear I G d8 C8 I8 B8 
  go_wp2_with fail
  refine (reck_clo subR subC 67 w.heap.size ints67 _ I9.out.1.lt).mono ?_
  rintro e q9 ⟨v9, rfl, d9, C9⟩
  obtain ⟨u10, f10, r10, I, G⟩ := SgI.step I9.out d9 C9 gSub (by decide) (by decide) (by simp)
  have B10 : Hid (Below w.heap.size w u10) := grown_below (B9.out.trans (d9.mono B9.out.size)) (Nat.le_trans B9.out.size d9.size) (Nat.le_refl _) G
  have I10 : Hid (SgI u10 w.heap.size 10 f10 _) := I
  clear I G d9 C9 I9 B9 
  go_wp2_with fail
  refine (reck_clo mulR mulC 15 w.heap.size ints15 _ I10.out.1.lt).mono ?_
  rintro e q10 ⟨v10, rfl, d10, C10⟩
  obtain ⟨u11, f11, r11, I, G⟩ := SgI.step I10.out d10 C10 gMul (by decide) (by decide) (by simp)
  have B11 : Hid (Below w.heap.size w u11) := grown_below (B10.out.trans (d10.mono B10.out.size)) (Nat.le_trans B10.out.size d10.size) (Nat.le_refl _) G
  have I11 : Hid (SgI u11 w.heap.size 11 f11 _) := I
  clear I G d10 C10 I10 B10 
  go_wp2_with fail
  refine (reck_clo divQ divC 68 w.heap.size ints68 _ I11.out.1.lt).mono ?_
  rintro e q11 ⟨v11, rfl, d11, C11⟩
  obtain ⟨u12, f12, r12, I, G⟩ := SgI.step I11.out d11 C11 gDiv (by decide) (by decide) (by simp)
  have B12 : Hid (Below w.heap.size w u12) := grown_below (B11.out.trans (d11.mono B11.out.size)) (Nat.le_trans B11.out.size d11.size) (Nat.le_refl _) G
  have I12 : Hid (SgI u12 w.heap.size 12 f12 _) := I
  clear I G d11 C11 I11 B11 
  go_wp2_with fail
  refine (reck_clo remR remC 69 w.heap.size ints69 _ I12.out.1.lt).mono ?_
  rintro e q12 ⟨v12, rfl, d12, C12⟩
  obtain ⟨u13, f13, r13, I, G⟩ := SgI.step I12.out d12 C12 gRem (by decide) (by decide) (by simp)
  have B13 : Hid (Below w.heap.size w u13) := grown_below (B12.out.trans (d12.mono B12.out.size)) (Nat.le_trans B12.out.size d12.size) (Nat.le_refl _) G
  have I13 : Hid (SgI u13 w.heap.size 13 f13 _) := I
  clear I G d12 C12 I12 B12 
  go_wp2_with fail
  go_ret
  exact ⟨_, _, rfl, I13.out, B13.out⟩
end Go.Proofs.Yteloioopkndcmaa
