/- Towards the law FnAggs: the specification's l12Agg of a sum, and its AggValue (stage 12). -/
import Derived.Test.YthdilgggjkekaaaAgB
namespace Go.Proofs.Ythdilgggjkekaaa
open Go.RowKit

def sumF (y x : Int) : Int := y + x
theorem AgS.set1 {w w1 : World} {y : Int} (h : AgS w w1 (some y)) (x : Int) : AgS w (w1.setCell ⟨w.heap.size + 1, 1, none⟩ (.int .i64 x)) (some x) :=
  ⟨h.1.setCell (by simp) _, (Below.heap_setCell _ _ _ _ (by simp)).trans h.2.1, by have q := slab_set (o := 1) h.2.2 (.int .i64 x); exact q⟩
theorem vals_mem {os : List (Option Int)} {j : Nat} (h : j < os.length) {x : Int} (e : os[j] = some x) : x ∈ vals os := by
  unfold vals
  rw [List.mem_filterMap]
  exact ⟨some x, by rw [← e]; exact List.getElem_mem _, rfl⟩
set_option maxRecDepth 100000 in
set_option maxHeartbeats 8000000 in
theorem l12AggSum (os : List (Option Int)) (a : Option Addr) (cap : Nat) (w : World) (hrow : RowV w a (os.map ov)) (hlen : os.length ≤ 4096) (hbd : ∀ x ∈ vals os, -1000000 ≤ x ∧ x ≤ 1000000) :
    Calls Try.prog 14 #[.string gSum, .slice a os.length cap] w fun e w' => e = .returned (ansV (ov (bestF sumF (vals os)), 0)) ∧ Below w.heap.size w w' := by
  have HR : Hid (RowV w a (os.map ov)) := hrow
  have HBD : Hid (∀ x ∈ vals os, -1000000 ≤ x ∧ x ≤ 1000000) := hbd
  clear hrow hbd
  obtain ⟨len, hL⟩ : ∃ m, os.length = m := ⟨_, rfl⟩
  have HL : Hid (os.length = len) := hL
  rw [hL] at hlen ⊢
  clear hL
  have B0 : Hid (Below w.heap.size w ((w.alloc (.cells #[.int .i64 0, .int .i64 0, .string noT] 27)).alloc (.cells #[.int .i64 0, .int .i64 0, .string noT] 27))) := below2 w _ _
  have X0 : Hid (BoxV ((w.alloc (.cells #[.int .i64 0, .int .i64 0, .string noT] 27)).alloc (.cells #[.int .i64 0, .int .i64 0, .string noT] 27)) w.heap.size 0 0 noT ∧ BoxV ((w.alloc (.cells #[.int .i64 0, .int .i64 0, .string noT] 27)).alloc (.cells #[.int .i64 0, .int .i64 0, .string noT] 27)) (w.heap.size + 1) 0 0 noT) := ⟨blk1' w _ _, blk2' w _ _⟩
  go_enter Try.func14, Try.ntmps14
  go_wp2
  go_loopw [6, 8] (fun c i wr => ∃ j : Nat, j ≤ len ∧ i = .int .i64 j ∧ (∃ cn : Nat, cn ≤ j ∧ c = .int .i64 cn) ∧ Hid (AgS w wr (bestF sumF (vals (os.take j))) ∧ ∀ y, bestF sumF (vals (os.take j)) = some y → -(1000000 * (j : Int)) ≤ y ∧ y ≤ 1000000 * (j : Int))) (fun _ i _ => len - (intOf i).toNat)
  case atStart => exact ⟨0, by omega, rfl, ⟨0, by omega, rfl⟩, ⟨⟨B0.out, X0.out.1, by simpa [vals, bestF, ov] using X0.out.2⟩, fun y hy => by simp [vals, bestF] at hy⟩⟩
  case round =>
    obtain ⟨j, hj, rfl, ⟨cn, hcn, rfl⟩, HW0⟩ := hrel
    have HW : Hid (AgS w wr (bestF sumF (vals (os.take j)))) := HW0.out.1
    have HY : Hid (∀ y, bestF sumF (vals (os.take j)) = some y → -(1000000 * (j : Int)) ≤ y ∧ y ≤ 1000000 * (j : Int)) := HW0.out.2
    clear HW0
    by_cases hjl : j < len
    · have hjo : j < os.length := by rw [HL.out]; exact hjl
      obtain ⟨b, off, rfl, hb, ⟨c0, c1, c2⟩, hs⟩ := (HR.out.below HW.out.1) j (by simpa using hjo)
      rw [nth_ov os j hjo] at c0 c1 c2
      have HV := vals_take os j hjo
      have l0 : w.heap.size + 1 < wr.heap.size := lt_blk HW.out.2.2
      cases he : os[j] with
      | none =>
        rw [he] at c0 c1 c2 HV
        simp only [ov] at c0 c1 c2
        have W2 : Hid (AgS w (wr.alloc (.cells #[.int .i64 0, .int .i64 0, .string noT] 27)) (bestF sumF (vals (os.take (j + 1)))) ∧ ∀ y, bestF sumF (vals (os.take (j + 1))) = some y → -(1000000 * ((j + 1 : Nat) : Int)) ≤ y ∧ y ≤ 1000000 * ((j + 1 : Nat) : Int)) := by
          show _ ∧ _
          rw [HV]
          simp only [List.append_nil]
          exact ⟨HW.out.keep ((Below.refl _ _).alloc (Nat.le_refl _) _), fun y hy => by have := HY.out y hy; omega⟩
        clear HV HW HY
        go_wp2
        go_roundw
        case rel => exact ⟨j + 1, by omega, by go_num, ⟨cn, by omega, rfl⟩, W2⟩
        case measure => simp [intOf]; omega
      | some x =>
        have hxb := HBD.out x (vals_mem hjo he)
        rw [he] at c0 c1 c2 HV
        simp only [ov] at c0 c1 c2
        have W1 : AgS w (wr.alloc (.cells #[.int .i64 2, .int .i64 x, .string noT] 27)) (bestF sumF (vals (os.take j))) := HW.out.keep ((Below.refl _ _).alloc (Nat.le_refl _) _)
        have HB : Hid (bestF sumF (vals (os.take (j + 1))) = some (match bestF sumF (vals (os.take j)) with | none => x | some y => sumF y x)) := by
          show _ = _
          rw [HV]
          exact bestF_snoc _ _ _
        have X1 : AgS w wr (bestF sumF (vals (os.take j))) := HW.out
        clear HV HW
        generalize bestF sumF (vals (os.take j)) = bo at *
        cases bo with
        | none =>
          obtain ⟨v0, v1, v2, y0, y1, y2⟩ := box_facts X1.2.2
          simp only [ov] at v0 v1 v2 y0 y1 y2
          have W2 : AgS w (((wr.setCell ⟨w.heap.size + 1, 0, none⟩ (.int .i64 2)).setCell ⟨w.heap.size + 1, 1, none⟩ (.int .i64 x)).setCell ⟨w.heap.size + 1, 2, none⟩ (.string noT)) (bestF sumF (vals (os.take (j + 1)))) := by
            rw [HB.out]
            exact X1.set x
          have W3 : Hid (AgS w ((((wr.setCell ⟨w.heap.size + 1, 0, none⟩ (.int .i64 2)).setCell ⟨w.heap.size + 1, 1, none⟩ (.int .i64 x)).setCell ⟨w.heap.size + 1, 2, none⟩ (.string noT)).alloc (.cells #[.int .i64 2, .int .i64 x, .string noT] 27)) (bestF sumF (vals (os.take (j + 1)))) ∧ ∀ y, bestF sumF (vals (os.take (j + 1))) = some y → -(1000000 * ((j + 1 : Nat) : Int)) ≤ y ∧ y ≤ 1000000 * ((j + 1 : Nat) : Int)) :=
            ⟨W2.keep ((Below.refl _ _).alloc (Nat.le_refl _) _), fun y hy => by
              rw [HB.out] at hy
              simp at hy
              subst hy
              omega⟩
          clear X1 W1 W2 HB HY hxb
          go_wp2
          go_roundw
          case rel => exact ⟨j + 1, by omega, by go_num, ⟨cn + 1, by omega, by go_num⟩, W3⟩
          case measure => simp [intOf]; omega
        | some y =>
          have hyb := HY.out y rfl
          obtain ⟨v0, v1, v2, y0, y1, y2⟩ := box_facts X1.2.2
          simp only [ov] at v0 v1 v2 y0 y1 y2
          have hin : In64 (y + x) := by unfold In64; omega
          have hcmp := l12Add_any y x (wr.alloc (.cells #[.int .i64 2, .int .i64 x, .string noT] 27)) (by unfold In64; omega) (by unfold In64; omega)
          rw [decide_eq_true hin] at hcmp
          have hw : IntKind.i64.wrap (y + x) = y + x := by rw [wrap64]; unfold In64 at hin; omega
          rw [hw] at hcmp
          have W2 : AgS w (wr.setCell ⟨w.heap.size + 1, 1, none⟩ (.int .i64 (y + x))) (bestF sumF (vals (os.take (j + 1)))) := by
            rw [HB.out]
            exact X1.set1 (y + x)
          have W3 : Hid (AgS w ((wr.setCell ⟨w.heap.size + 1, 1, none⟩ (.int .i64 (y + x))).alloc (.cells #[.int .i64 2, .int .i64 x, .string noT] 27)) (bestF sumF (vals (os.take (j + 1)))) ∧ ∀ z, bestF sumF (vals (os.take (j + 1))) = some z → -(1000000 * ((j + 1 : Nat) : Int)) ≤ z ∧ z ≤ 1000000 * ((j + 1 : Nat) : Int)) :=
            ⟨W2.keep ((Below.refl _ _).alloc (Nat.le_refl _) _), fun z hz => by
              rw [HB.out] at hz
              simp [sumF] at hz
              subst hz
              omega⟩
          clear X1 W1 W2 HB HY hxb hyb hin hw
          generalize y + x = sm at *
          go_wp2_with fail
          refine hcmp.mono ?_
          rintro e w2 ⟨rfl, hq⟩
          obtain rfl := hq.symm
          clear hcmp
          go_wp2
          go_roundw
          case rel => exact ⟨j + 1, by omega, by go_num, ⟨cn + 1, by omega, by go_num⟩, W3⟩
          case measure => simp [intOf]; omega
    · obtain rfl : j = len := by omega
      have hT : os.take j = os := by rw [← HL.out, List.take_length]
      rw [hT] at HW
      obtain ⟨v0, v1, v2, _, _, _⟩ := box_facts HW.out.2.2
      obtain ⟨u0, u1, u2, y0, y1, y2⟩ := box_facts HW.out.2.1
      obtain ⟨V, hV⟩ : ∃ V, ov (bestF sumF (vals os)) = V := ⟨_, rfl⟩
      rw [hV] at v0 v1 v2
      obtain ⟨rk, rn, rt⟩ := V
      have HV : Hid (ov (bestF sumF (vals os)) = (rk, rn, rt)) := hV
      simp only at v0 v1 v2
      clear hV hT HY
      go_wp2
      obtain ⟨r0, r1, r2, _, _, _⟩ := box_facts (box_set HW.out.2.1 rk rn rt)
      exact bodyPost_ret (v := VC rk rn rt 0) (by simp [results, Try.results14, go_sem, r0, r1, r2]) rfl ⟨by rw [HV.out], below_set3 HW.out.1 (Nat.le_refl _) _ _ _⟩
end Go.Proofs.Ythdilgggjkekaaa
