/- What impl.ReadValue answers. -/
import Derived.Test.YtipddjgoohnalaaRvI
namespace Go.Proofs.Ytipddjgoohnalaa
open Go.RowKit

/-- The code and the value that a text is read as. -/
def rvV (s : ByteArray) : Int × V3 :=
  if 65536 < s.size then (2, 0, 0, ⟨#[]⟩) else match litV s with | none => (3, 0, 0, ⟨#[]⟩) | some v => if okV v.1 v.2.1 v.2.2 = true then (0, v) else (3, 0, 0, ⟨#[]⟩)
abbrev RvR (s : ByteArray) : Value := .tuple #[VV (rvV s).2.1 (rvV s).2.2.1 (rvV s).2.2.2, .int .i64 (rvV s).1]
theorem set3_below {B b : Nat} {w w' : World} {x y z : Value} (h : Below B w w') (hb : B ≤ b) : Below B w (((w'.setCell ⟨b, 0, none⟩ x).setCell ⟨b, 1, none⟩ y).setCell ⟨b, 2, none⟩ z) :=
  ((h.setCell (p := ⟨b, 0, none⟩) hb _).setCell (p := ⟨b, 1, none⟩) hb _).setCell (p := ⟨b, 2, none⟩) hb _

set_option maxRecDepth 100000 in
set_option maxHeartbeats 4000000 in
theorem implReadValue_any (s : ByteArray) (w : World) (hs : s.size ≤ 1048576) :
    Calls Try.prog 46 #[.string s] w fun e w' => e = .returned (RvR s) ∧ Below w.heap.size w w' := by
  by_cases hL : (65536 : Int) < (s.size : Int)
  · have H : Hid (rvV s = (2, 0, 0, ⟨#[]⟩)) := if_pos (by omega)
    go_enter Try.func46, Try.ntmps46
    go_wp2
    exact bodyPost_ret (v := .tuple #[VV 0 0 ⟨#[]⟩, .int .i64 2]) (by go_simp; simp [results, Try.f46, go_sem]) rfl ⟨by unfold RvR; rw [H.out], (Below.refl _ _).alloc (Nat.le_refl _) _⟩
  have hs6 : s.size ≤ 65536 := by omega
  have HR : Hid (rvV s = match litV s with | none => (3, 0, 0, ⟨#[]⟩) | some v => if okV v.1 v.2.1 v.2.2 = true then (0, v) else (3, 0, 0, ⟨#[]⟩)) := if_neg (by omega)
  have B0 : Below w.heap.size w (w.alloc (.cells #[.int .i64 0, .int .i64 0, .string ⟨#[]⟩] 24)) := (Below.refl _ _).alloc (Nat.le_refl _) _
  have K0 : (w.alloc (.cells #[.int .i64 0, .int .i64 0, .string ⟨#[]⟩] 24)).heap[w.heap.size]? = some (.cells #[.int .i64 0, .int .i64 0, .string ⟨#[]⟩] 24 (0, 0)) := by show (w.heap.push _)[w.heap.size]? = _; simp
  have hsW : w.heap.size < (w.alloc (.cells #[.int .i64 0, .int .i64 0, .string ⟨#[]⟩] 24)).heap.size := by simp
  obtain ⟨W0, hW0⟩ : ∃ W0, w.alloc (.cells #[.int .i64 0, .int .i64 0, .string ⟨#[]⟩] 24) = W0 := ⟨_, rfl⟩
  rw [hW0] at B0 K0 hsW
  have hl := readLiteral_any s W0 hs6
  go_enter Try.func46, Try.ntmps46
  go_wp2_with fail
  refine hl.mono ?_
  rintro e w1 ⟨k, n, t, rfl, hx, hb1⟩
  have HX : Hid (∀ x, litV s = some x → x = (k, n, t)) := hx
  have hx1 := (hb1.block _ hsW).trans K0
  have hs1 : w.heap.size < w1.heap.size := Nat.lt_of_lt_of_le hsW hb1.size
  have B1 := B0.trans (hb1.mono B0.size)
  have A1 : Below w1.heap.size w1 (w1.alloc (.cells #[.int .i64 k, .int .i64 n, .string t] 24)) := (Below.refl _ _).alloc (Nat.le_refl _) _
  have B2 := B1.trans (A1.mono B1.size)
  have hx2 := (A1.block _ hs1).trans hx1
  have hv2 : (w1.alloc (.cells #[.int .i64 k, .int .i64 n, .string t] 24)).heap[w1.heap.size]? = some (.cells #[.int .i64 k, .int .i64 n, .string t] 24 (0, 0)) := by show (w1.heap.push _)[w1.heap.size]? = _; simp
  have hs2 : w1.heap.size < (w1.alloc (.cells #[.int .i64 k, .int .i64 n, .string t] 24)).heap.size := by simp
  obtain ⟨W2, hW2⟩ : ∃ W2, w1.alloc (.cells #[.int .i64 k, .int .i64 n, .string t] 24) = W2 := ⟨_, rfl⟩
  rw [hW2] at B2 hx2 hv2 hs2
  have hs2' : w.heap.size < W2.heap.size := Nat.lt_trans hs1 hs2
  clear hl hx hb1 hx1 A1 B1 K0 hsW hW0 B0
  obtain ⟨ok, hok⟩ : ∃ ok, (litV s).isSome = ok := ⟨_, rfl⟩
  rw [hok]
  have c0 : W2.cell? ⟨w.heap.size, 0, none⟩ = some (.int .i64 0) := by simp [World.cell?, hx2]
  have c1 : W2.cell? ⟨w.heap.size, 1, none⟩ = some (.int .i64 0) := by simp [World.cell?, hx2]
  have c2 : W2.cell? ⟨w.heap.size, 2, none⟩ = some (.string ⟨#[]⟩) := by simp [World.cell?, hx2]
  have cf : ∀ o, W2.frozen? ⟨w.heap.size, o, none⟩ = false := fun o => by simp [World.frozen?, hx2]
  have d0 : W2.cell? ⟨w1.heap.size, 0, none⟩ = some (.int .i64 k) := by simp [World.cell?, hv2]
  have d1 : W2.cell? ⟨w1.heap.size, 1, none⟩ = some (.int .i64 n) := by simp [World.cell?, hv2]
  have d2 : W2.cell? ⟨w1.heap.size, 2, none⟩ = some (.string t) := by simp [World.cell?, hv2]
  cases ok with
  | false =>
    have H : Hid (rvV s = (3, 0, 0, ⟨#[]⟩)) := by
      show _ = _
      rw [HR.out]
      cases hlit : litV s with
      | none => rfl
      | some x => rw [hlit] at hok; cases hok
    clear HX hok hx2 hv2
    go_wp2
    exact bodyPost_ret (v := .tuple #[VV 0 0 ⟨#[]⟩, .int .i64 3]) (by go_simp; simp [results, Try.f46, go_sem, c0, c1, c2]) rfl ⟨by unfold RvR; rw [H.out], set3_below B2 (Nat.le_refl _)⟩
  | true =>
    have HL : Hid (litV s = some (k, n, t)) := by
      show _ = _
      cases hlit : litV s with
      | none => rw [hlit] at hok; cases hok
      | some x => rw [HX.out x hlit]
    clear HX hok
    go_wp2_with fail
    refine (implValueOK_any k n t W2).mono ?_
    rintro e w3 ⟨rfl, hb3⟩
    have hx3 := (hb3.block _ hs2').trans hx2
    have hv3 := (hb3.block _ hs2).trans hv2
    have B3 := B2.trans (hb3.mono B2.size)
    clear c0 c1 c2 cf d0 d1 d2 hx2 hv2 hb3
    have c0 : w3.cell? ⟨w.heap.size, 0, none⟩ = some (.int .i64 0) := by simp [World.cell?, hx3]
    have c1 : w3.cell? ⟨w.heap.size, 1, none⟩ = some (.int .i64 0) := by simp [World.cell?, hx3]
    have c2 : w3.cell? ⟨w.heap.size, 2, none⟩ = some (.string ⟨#[]⟩) := by simp [World.cell?, hx3]
    have cf : ∀ o, w3.frozen? ⟨w.heap.size, o, none⟩ = false := fun o => by simp [World.frozen?, hx3]
    have d0 : w3.cell? ⟨w1.heap.size, 0, none⟩ = some (.int .i64 k) := by simp [World.cell?, hv3]
    have d1 : w3.cell? ⟨w1.heap.size, 1, none⟩ = some (.int .i64 n) := by simp [World.cell?, hv3]
    have d2 : w3.cell? ⟨w1.heap.size, 2, none⟩ = some (.string t) := by simp [World.cell?, hv3]
    cases hok : okV k n t with
    | false =>
      have H : Hid (rvV s = (3, 0, 0, ⟨#[]⟩)) := by
        show _ = _
        rw [HR.out, HL.out]
        simp only [hok]
        rfl
      clear hok hx3 hv3
      go_wp2
      exact bodyPost_ret (v := .tuple #[VV 0 0 ⟨#[]⟩, .int .i64 3]) (by go_simp; simp [results, Try.f46, go_sem, c0, c1, c2]) rfl ⟨by unfold RvR; rw [H.out], set3_below B3 (Nat.le_refl _)⟩
    | true =>
      have H : Hid (rvV s = (0, k, n, t)) := by
        show _ = _
        rw [HR.out, HL.out]
        simp only [hok]
        rfl
      clear hok hx3 hv3
      go_wp2
      exact bodyPost_ret (v := .tuple #[VV k n t, .int .i64 0]) (by go_simp; simp [results, Try.f46, go_sem, c0, c1, c2]) rfl ⟨by unfold RvR; rw [H.out], set3_below B3 (Nat.le_refl _)⟩
end Go.Proofs.Ytipddjgoohnalaa
