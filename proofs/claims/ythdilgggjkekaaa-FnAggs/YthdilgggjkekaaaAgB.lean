/- Towards the law FnAggs: the specification's l12Agg of min and max (stage 12). -/
import Derived.Test.YthdilgggjkekaaaAgA
namespace Go.Proofs.Ythdilgggjkekaaa
open Go.RowKit

/-- Two results under way: the answer's block, the best so far. -/
def AgS (w wr : World) (bo : Option Int) : Prop := Below w.heap.size w wr ∧ BoxV wr w.heap.size 0 0 noT ∧ BoxV wr (w.heap.size + 1) (ov bo).1 (ov bo).2.1 (ov bo).2.2
theorem AgS.keep {w w1 w2 : World} {bo : Option Int} (h : AgS w w1 bo) (hb : Below w1.heap.size w1 w2) : AgS w w2 bo :=
  ⟨h.1.trans (hb.mono h.1.size), (hb.block _ (lt_blk h.2.1)).trans h.2.1, (hb.block _ (lt_blk h.2.2)).trans h.2.2⟩
theorem AgS.set {w w1 : World} {bo : Option Int} (h : AgS w w1 bo) (x : Int) : AgS w (((w1.setCell ⟨w.heap.size + 1, 0, none⟩ (.int .i64 2)).setCell ⟨w.heap.size + 1, 1, none⟩ (.int .i64 x)).setCell ⟨w.heap.size + 1, 2, none⟩ (.string noT)) (some x) :=
  ⟨below_set3 h.1 (by omega) _ _ _, (Below.heap_setCell _ _ _ _ (by simp)).trans ((Below.heap_setCell _ _ _ _ (by simp)).trans ((Below.heap_setCell _ _ _ _ (by simp)).trans h.2.1)), box_set h.2.2 2 x noT⟩
set_option maxRecDepth 100000 in
set_option maxHeartbeats 8000000 in
theorem l12AggMin (os : List (Option Int)) (a : Option Addr) (cap : Nat) (w : World) (hrow : RowV w a (os.map ov)) (hlen : os.length ≤ 4096) (hbd : ∀ x ∈ vals os, -1000000 ≤ x ∧ x ≤ 1000000) :
    Calls Try.prog 14 #[.string gMin, .slice a os.length cap] w fun e w' => e = .returned (ansV (ov (bestF minF (vals os)), 0)) ∧ Below w.heap.size w w' := by
  have HR : Hid (RowV w a (os.map ov)) := hrow
  have HBD : Hid (∀ x ∈ vals os, -1000000 ≤ x ∧ x ≤ 1000000) := hbd
  clear hrow hbd
  obtain ⟨len, hL⟩ : ∃ m, os.length = m := ⟨_, rfl⟩
  have HL : Hid (os.length = len) := hL
  rw [hL] at hlen ⊢
  clear hL
  have B0 : Hid (Below w.heap.size w ((w.alloc (.cells #[.int .i64 0, .int .i64 0, .string noT] 27)).alloc (.cells #[.int .i64 0, .int .i64 0, .string noT] 27))) := below2 w _ _
  have X0 : Hid (BoxV ((w.alloc (.cells #[.int .i64 0, .int .i64 0, .string noT] 27)).alloc (.cells #[.int .i64 0, .int .i64 0, .string noT] 27)) w.heap.size 0 0 noT ∧ BoxV ((w.alloc (.cells #[.int .i64 0, .int .i64 0, .string noT] 27)).alloc (.cells #[.int .i64 0, .int .i64 0, .string noT] 27)) (w.heap.size + 1) 0 0 noT) := ⟨blk1' w _ _, blk2' w _ _⟩
  go_enter Try.func14, Try.ntmps14
  go_wp2
  go_loopw [6, 8] (fun c i wr => ∃ j : Nat, j ≤ len ∧ i = .int .i64 j ∧ (∃ cn : Nat, cn ≤ j ∧ c = .int .i64 cn) ∧ Hid (AgS w wr (bestF minF (vals (os.take j))))) (fun _ i _ => len - (intOf i).toNat)
  case atStart => exact ⟨0, by omega, rfl, ⟨0, by omega, rfl⟩, ⟨B0.out, X0.out.1, by simpa [vals, bestF, ov] using X0.out.2⟩⟩
  case round =>
    obtain ⟨j, hj, rfl, ⟨cn, hcn, rfl⟩, HW⟩ := hrel
    by_cases hjl : j < len
    · have hjo : j < os.length := by rw [HL.out]; exact hjl
      obtain ⟨b, off, rfl, hb, ⟨c0, c1, c2⟩, hs⟩ := (HR.out.below HW.out.1) j (by simpa using hjo)
      rw [nth_ov os j hjo] at c0 c1 c2
      have HV := vals_take os j hjo
      have l0 : w.heap.size + 1 < wr.heap.size := lt_blk HW.out.2.2
      cases he : os[j] with
      | none =>
        rw [he] at c0 c1 c2 HV
        simp only [ov] at c0 c1 c2
        have W2 : Hid (AgS w (wr.alloc (.cells #[.int .i64 0, .int .i64 0, .string noT] 27)) (bestF minF (vals (os.take (j + 1))))) := by
          show AgS _ _ _
          rw [HV]
          simp only [List.append_nil]
          exact HW.out.keep ((Below.refl _ _).alloc (Nat.le_refl _) _)
        clear HV HW
        go_wp2
        go_roundw
        case rel => exact ⟨j + 1, by omega, by go_num, ⟨cn, by omega, rfl⟩, W2⟩
        case measure => simp [intOf]; omega
      | some x =>
        rw [he] at c0 c1 c2 HV
        simp only [ov] at c0 c1 c2
        have W1 : AgS w (wr.alloc (.cells #[.int .i64 2, .int .i64 x, .string noT] 27)) (bestF minF (vals (os.take j))) := HW.out.keep ((Below.refl _ _).alloc (Nat.le_refl _) _)
        have HB : Hid (bestF minF (vals (os.take (j + 1))) = some (match bestF minF (vals (os.take j)) with | none => x | some y => minF y x)) := by
          show _ = _
          rw [HV]
          exact bestF_snoc _ _ _
        have X1 : AgS w wr (bestF minF (vals (os.take j))) := HW.out
        clear HV HW
        generalize bestF minF (vals (os.take j)) = bo at *
        cases bo with
        | none =>
          obtain ⟨v0, v1, v2, y0, y1, y2⟩ := box_facts X1.2.2
          simp only [ov] at v0 v1 v2 y0 y1 y2
          have W2 : Hid (AgS w (((wr.setCell ⟨w.heap.size + 1, 0, none⟩ (.int .i64 2)).setCell ⟨w.heap.size + 1, 1, none⟩ (.int .i64 x)).setCell ⟨w.heap.size + 1, 2, none⟩ (.string noT)) (bestF minF (vals (os.take (j + 1))))) := by
            show AgS _ _ _
            rw [HB.out]
            exact X1.set x
          have W3 : Hid (AgS w ((((wr.setCell ⟨w.heap.size + 1, 0, none⟩ (.int .i64 2)).setCell ⟨w.heap.size + 1, 1, none⟩ (.int .i64 x)).setCell ⟨w.heap.size + 1, 2, none⟩ (.string noT)).alloc (.cells #[.int .i64 2, .int .i64 x, .string noT] 27)) (bestF minF (vals (os.take (j + 1))))) := W2.out.keep ((Below.refl _ _).alloc (Nat.le_refl _) _)
          have HX1 : Hid (AgS w wr none) := X1
          have HW1 : Hid (AgS w (wr.alloc (.cells #[.int .i64 2, .int .i64 x, .string noT] 27)) none) := W1
          clear X1 W1 W2
          clear HB HX1 HW1
          go_wp2
          go_roundw
          case rel => exact ⟨j + 1, by omega, by go_num, ⟨cn + 1, by omega, by go_num⟩, W3⟩
          case measure => simp [intOf]; omega
        | some y =>
          obtain ⟨v0, v1, v2, y0, y1, y2⟩ := box_facts X1.2.2
          simp only [ov] at v0 v1 v2 y0 y1 y2
          have hcmp := l01Compare_any 2 x noT 2 y noT (wr.alloc (.cells #[.int .i64 2, .int .i64 x, .string noT] 27))
          have hlt := cmp_lt x y
          generalize cmpV 2 x noT 2 y noT = cv at *
          have HW1 : Hid (AgS w (wr.alloc (.cells #[.int .i64 2, .int .i64 x, .string noT] 27)) (some y)) := W1
          clear X1 W1 y0 y1 y2
          go_wp2_with fail
          refine hcmp.mono ?_
          rintro e w2 ⟨rfl, b2⟩
          have X2 : AgS w w2 (some y) := HW1.out.keep b2
          have e0 : w2.cell? ⟨wr.heap.size, 0, none⟩ = some (.int .i64 2) := (b2.cell (p := ⟨wr.heap.size, 0, none⟩) (by simp)).trans (by simp)
          have e1 : w2.cell? ⟨wr.heap.size, 1, none⟩ = some (.int .i64 x) := (b2.cell (p := ⟨wr.heap.size, 1, none⟩) (by simp)).trans (by simp)
          have e2 : w2.cell? ⟨wr.heap.size, 2, none⟩ = some (.string noT) := (b2.cell (p := ⟨wr.heap.size, 2, none⟩) (by simp)).trans (by simp)
          clear hcmp v0 v1 v2 HW1 b2 c0 c1 c2 l0
          obtain ⟨v0, v1, v2, y0, y1, y2⟩ := box_facts X2.2.2
          simp only [ov] at v0 v1 v2
          by_cases hxy : x < y
          · have hc : cv < 0 := by simpa [hxy] using hlt
            have W2 : Hid (AgS w (((w2.setCell ⟨w.heap.size + 1, 0, none⟩ (.int .i64 2)).setCell ⟨w.heap.size + 1, 1, none⟩ (.int .i64 x)).setCell ⟨w.heap.size + 1, 2, none⟩ (.string noT)) (bestF minF (vals (os.take (j + 1))))) := by
              show AgS _ _ _
              rw [HB.out]
              have : minF y x = x := if_pos hxy
              simp only [this]
              exact X2.set x
            clear HB X2 hlt
            go_wp2
            go_roundw
            case rel => exact ⟨j + 1, by omega, by go_num, ⟨cn + 1, by omega, by go_num⟩, W2⟩
            case measure => simp [intOf]; omega
          · have hc : ¬ cv < 0 := by simpa [hxy] using hlt
            have W2 : Hid (AgS w w2 (bestF minF (vals (os.take (j + 1))))) := by
              show AgS _ _ _
              rw [HB.out]
              have : minF y x = y := if_neg hxy
              simp only [this]
              exact X2
            clear HB X2 hlt
            go_wp2
            go_roundw
            case rel => exact ⟨j + 1, by omega, by go_num, ⟨cn + 1, by omega, by go_num⟩, W2⟩
            case measure => simp [intOf]; omega
    · obtain rfl : j = len := by omega
      have hT : os.take j = os := by rw [← HL.out, List.take_length]
      rw [hT] at HW
      obtain ⟨v0, v1, v2, _, _, _⟩ := box_facts HW.out.2.2
      obtain ⟨u0, u1, u2, y0, y1, y2⟩ := box_facts HW.out.2.1
      obtain ⟨V, hV⟩ : ∃ V, ov (bestF minF (vals os)) = V := ⟨_, rfl⟩
      rw [hV] at v0 v1 v2
      obtain ⟨rk, rn, rt⟩ := V
      have HV : Hid (ov (bestF minF (vals os)) = (rk, rn, rt)) := hV
      simp only at v0 v1 v2
      clear hV hT
      go_wp2
      obtain ⟨r0, r1, r2, _, _, _⟩ := box_facts (box_set HW.out.2.1 rk rn rt)
      exact bodyPost_ret (v := VC rk rn rt 0) (by simp [results, Try.results14, go_sem, r0, r1, r2]) rfl ⟨by rw [HV.out], below_set3 HW.out.1 (Nat.le_refl _) _ _ _⟩
set_option maxRecDepth 100000 in
set_option maxHeartbeats 8000000 in
theorem l12AggMax (os : List (Option Int)) (a : Option Addr) (cap : Nat) (w : World) (hrow : RowV w a (os.map ov)) (hlen : os.length ≤ 4096) (hbd : ∀ x ∈ vals os, -1000000 ≤ x ∧ x ≤ 1000000) :
    Calls Try.prog 14 #[.string gMax, .slice a os.length cap] w fun e w' => e = .returned (ansV (ov (bestF maxF (vals os)), 0)) ∧ Below w.heap.size w w' := by
  have HR : Hid (RowV w a (os.map ov)) := hrow
  have HBD : Hid (∀ x ∈ vals os, -1000000 ≤ x ∧ x ≤ 1000000) := hbd
  clear hrow hbd
  obtain ⟨len, hL⟩ : ∃ m, os.length = m := ⟨_, rfl⟩
  have HL : Hid (os.length = len) := hL
  rw [hL] at hlen ⊢
  clear hL
  have B0 : Hid (Below w.heap.size w ((w.alloc (.cells #[.int .i64 0, .int .i64 0, .string noT] 27)).alloc (.cells #[.int .i64 0, .int .i64 0, .string noT] 27))) := below2 w _ _
  have X0 : Hid (BoxV ((w.alloc (.cells #[.int .i64 0, .int .i64 0, .string noT] 27)).alloc (.cells #[.int .i64 0, .int .i64 0, .string noT] 27)) w.heap.size 0 0 noT ∧ BoxV ((w.alloc (.cells #[.int .i64 0, .int .i64 0, .string noT] 27)).alloc (.cells #[.int .i64 0, .int .i64 0, .string noT] 27)) (w.heap.size + 1) 0 0 noT) := ⟨blk1' w _ _, blk2' w _ _⟩
  go_enter Try.func14, Try.ntmps14
  go_wp2
  go_loopw [6, 8] (fun c i wr => ∃ j : Nat, j ≤ len ∧ i = .int .i64 j ∧ (∃ cn : Nat, cn ≤ j ∧ c = .int .i64 cn) ∧ Hid (AgS w wr (bestF maxF (vals (os.take j))))) (fun _ i _ => len - (intOf i).toNat)
  case atStart => exact ⟨0, by omega, rfl, ⟨0, by omega, rfl⟩, ⟨B0.out, X0.out.1, by simpa [vals, bestF, ov] using X0.out.2⟩⟩
  case round =>
    obtain ⟨j, hj, rfl, ⟨cn, hcn, rfl⟩, HW⟩ := hrel
    by_cases hjl : j < len
    · have hjo : j < os.length := by rw [HL.out]; exact hjl
      obtain ⟨b, off, rfl, hb, ⟨c0, c1, c2⟩, hs⟩ := (HR.out.below HW.out.1) j (by simpa using hjo)
      rw [nth_ov os j hjo] at c0 c1 c2
      have HV := vals_take os j hjo
      have l0 : w.heap.size + 1 < wr.heap.size := lt_blk HW.out.2.2
      cases he : os[j] with
      | none =>
        rw [he] at c0 c1 c2 HV
        simp only [ov] at c0 c1 c2
        have W2 : Hid (AgS w (wr.alloc (.cells #[.int .i64 0, .int .i64 0, .string noT] 27)) (bestF maxF (vals (os.take (j + 1))))) := by
          show AgS _ _ _
          rw [HV]
          simp only [List.append_nil]
          exact HW.out.keep ((Below.refl _ _).alloc (Nat.le_refl _) _)
        clear HV HW
        go_wp2
        go_roundw
        case rel => exact ⟨j + 1, by omega, by go_num, ⟨cn, by omega, rfl⟩, W2⟩
        case measure => simp [intOf]; omega
      | some x =>
        rw [he] at c0 c1 c2 HV
        simp only [ov] at c0 c1 c2
        have W1 : AgS w (wr.alloc (.cells #[.int .i64 2, .int .i64 x, .string noT] 27)) (bestF maxF (vals (os.take j))) := HW.out.keep ((Below.refl _ _).alloc (Nat.le_refl _) _)
        have HB : Hid (bestF maxF (vals (os.take (j + 1))) = some (match bestF maxF (vals (os.take j)) with | none => x | some y => maxF y x)) := by
          show _ = _
          rw [HV]
          exact bestF_snoc _ _ _
        have X1 : AgS w wr (bestF maxF (vals (os.take j))) := HW.out
        clear HV HW
        generalize bestF maxF (vals (os.take j)) = bo at *
        cases bo with
        | none =>
          obtain ⟨v0, v1, v2, y0, y1, y2⟩ := box_facts X1.2.2
          simp only [ov] at v0 v1 v2 y0 y1 y2
          have W2 : Hid (AgS w (((wr.setCell ⟨w.heap.size + 1, 0, none⟩ (.int .i64 2)).setCell ⟨w.heap.size + 1, 1, none⟩ (.int .i64 x)).setCell ⟨w.heap.size + 1, 2, none⟩ (.string noT)) (bestF maxF (vals (os.take (j + 1))))) := by
            show AgS _ _ _
            rw [HB.out]
            exact X1.set x
          have W3 : Hid (AgS w ((((wr.setCell ⟨w.heap.size + 1, 0, none⟩ (.int .i64 2)).setCell ⟨w.heap.size + 1, 1, none⟩ (.int .i64 x)).setCell ⟨w.heap.size + 1, 2, none⟩ (.string noT)).alloc (.cells #[.int .i64 2, .int .i64 x, .string noT] 27)) (bestF maxF (vals (os.take (j + 1))))) := W2.out.keep ((Below.refl _ _).alloc (Nat.le_refl _) _)
          have HX1 : Hid (AgS w wr none) := X1
          have HW1 : Hid (AgS w (wr.alloc (.cells #[.int .i64 2, .int .i64 x, .string noT] 27)) none) := W1
          clear X1 W1 W2
          clear HB HX1 HW1
          go_wp2
          go_roundw
          case rel => exact ⟨j + 1, by omega, by go_num, ⟨cn + 1, by omega, by go_num⟩, W3⟩
          case measure => simp [intOf]; omega
        | some y =>
          obtain ⟨v0, v1, v2, y0, y1, y2⟩ := box_facts X1.2.2
          simp only [ov] at v0 v1 v2 y0 y1 y2
          have hcmp := l01Compare_any 2 x noT 2 y noT (wr.alloc (.cells #[.int .i64 2, .int .i64 x, .string noT] 27))
          have hlt := cmp_gt x y
          generalize cmpV 2 x noT 2 y noT = cv at *
          have HW1 : Hid (AgS w (wr.alloc (.cells #[.int .i64 2, .int .i64 x, .string noT] 27)) (some y)) := W1
          clear X1 W1 y0 y1 y2
          go_wp2_with fail
          refine hcmp.mono ?_
          rintro e w2 ⟨rfl, b2⟩
          have X2 : AgS w w2 (some y) := HW1.out.keep b2
          have e0 : w2.cell? ⟨wr.heap.size, 0, none⟩ = some (.int .i64 2) := (b2.cell (p := ⟨wr.heap.size, 0, none⟩) (by simp)).trans (by simp)
          have e1 : w2.cell? ⟨wr.heap.size, 1, none⟩ = some (.int .i64 x) := (b2.cell (p := ⟨wr.heap.size, 1, none⟩) (by simp)).trans (by simp)
          have e2 : w2.cell? ⟨wr.heap.size, 2, none⟩ = some (.string noT) := (b2.cell (p := ⟨wr.heap.size, 2, none⟩) (by simp)).trans (by simp)
          clear hcmp v0 v1 v2 HW1 b2 c0 c1 c2 l0
          obtain ⟨v0, v1, v2, y0, y1, y2⟩ := box_facts X2.2.2
          simp only [ov] at v0 v1 v2
          by_cases hxy : y < x
          · have hc : 0 < cv := by simpa [hxy] using hlt
            have W2 : Hid (AgS w (((w2.setCell ⟨w.heap.size + 1, 0, none⟩ (.int .i64 2)).setCell ⟨w.heap.size + 1, 1, none⟩ (.int .i64 x)).setCell ⟨w.heap.size + 1, 2, none⟩ (.string noT)) (bestF maxF (vals (os.take (j + 1))))) := by
              show AgS _ _ _
              rw [HB.out]
              have : maxF y x = x := if_pos hxy
              simp only [this]
              exact X2.set x
            clear HB X2 hlt
            go_wp2
            go_roundw
            case rel => exact ⟨j + 1, by omega, by go_num, ⟨cn + 1, by omega, by go_num⟩, W2⟩
            case measure => simp [intOf]; omega
          · have hc : ¬ 0 < cv := by simpa [hxy] using hlt
            have W2 : Hid (AgS w w2 (bestF maxF (vals (os.take (j + 1))))) := by
              show AgS _ _ _
              rw [HB.out]
              have : maxF y x = y := if_neg hxy
              simp only [this]
              exact X2
            clear HB X2 hlt
            go_wp2
            go_roundw
            case rel => exact ⟨j + 1, by omega, by go_num, ⟨cn + 1, by omega, by go_num⟩, W2⟩
            case measure => simp [intOf]; omega
    · obtain rfl : j = len := by omega
      have hT : os.take j = os := by rw [← HL.out, List.take_length]
      rw [hT] at HW
      obtain ⟨v0, v1, v2, _, _, _⟩ := box_facts HW.out.2.2
      obtain ⟨u0, u1, u2, y0, y1, y2⟩ := box_facts HW.out.2.1
      obtain ⟨V, hV⟩ : ∃ V, ov (bestF maxF (vals os)) = V := ⟨_, rfl⟩
      rw [hV] at v0 v1 v2
      obtain ⟨rk, rn, rt⟩ := V
      have HV : Hid (ov (bestF maxF (vals os)) = (rk, rn, rt)) := hV
      simp only at v0 v1 v2
      clear hV hT
      go_wp2
      obtain ⟨r0, r1, r2, _, _, _⟩ := box_facts (box_set HW.out.2.1 rk rn rt)
      exact bodyPost_ret (v := VC rk rn rt 0) (by simp [results, Try.results14, go_sem, r0, r1, r2]) rfl ⟨by rw [HV.out], below_set3 HW.out.1 (Nat.le_refl _) _ _ _⟩
end Go.Proofs.Ythdilgggjkekaaa
