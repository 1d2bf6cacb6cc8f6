/- Towards the law FnAggs: aggregates of ints and null, the specification's l12Agg (stage 12). -/
import Derived.Test.YthdilgggjkekaaaBvG
import Derived.Test.YthdilgggjkekaaaArB
namespace Go.Proofs.Ythdilgggjkekaaa
open Go.RowKit

abbrev gCount : ByteArray := ⟨#[99, 111, 117, 110, 116]⟩
abbrev gSum : ByteArray := ⟨#[115, 117, 109]⟩
abbrev gMin : ByteArray := ⟨#[109, 105, 110]⟩
abbrev gMax : ByteArray := ⟨#[109, 97, 120]⟩
/-- An int, or null, as a value. -/
def ov : Option Int → V3
  | none => (0, 0, noT)
  | some x => (2, x, noT)
/-- The ints of a list, without null. -/
def vals (os : List (Option Int)) : List Int := os.filterMap id
/-- What is gathered of ints by f, from the first on. -/
def bestF (f : Int → Int → Int) (l : List Int) : Option Int := l.foldl (fun b x => some (match b with | none => x | some y => f y x)) none
theorem bestF_snoc (f : Int → Int → Int) (l : List Int) (x : Int) : bestF f (l ++ [x]) = some (match bestF f l with | none => x | some y => f y x) := by
  unfold bestF
  rw [List.foldl_append]
  rfl
theorem vals_take (os : List (Option Int)) (j : Nat) (h : j < os.length) : vals (os.take (j + 1)) = vals (os.take j) ++ (match os[j] with | none => [] | some x => [x]) := by
  unfold vals
  rw [List.take_add_one, List.filterMap_append]
  cases he : os[j] <;> simp [h, he]
theorem nth_ov (os : List (Option Int)) (j : Nat) (h : j < os.length) : nthV (os.map ov) j = ov os[j] := by
  rw [nthV_get (by simpa using h)]
  simp
def minF (y x : Int) : Int := if x < y then x else y
def maxF (y x : Int) : Int := if y < x then x else y
theorem cmp_int (x y : Int) : cmpV 2 x noT 2 y noT = cmpI x y := by
  unfold cmpV
  have h1 : cmpI 2 2 = 0 := by decide
  have h2 : cmpS noT noT = 0 := by unfold cmpS; simp [Op.bytesLess, ByteArray.toList_eq]
  rw [h1, h2]
  by_cases h : cmpI x y = 0 <;> simp [h]
theorem cmp_lt (x y : Int) : decide (cmpV 2 x noT 2 y noT < 0) = decide (x < y) := by
  rw [cmp_int]
  unfold cmpI
  by_cases h : x < y
  · simp [h]
  · rw [if_neg h]
    by_cases h2 : y < x <;> simp [h, h2]
theorem cmp_gt (x y : Int) : decide (0 < cmpV 2 x noT 2 y noT) = decide (y < x) := by
  rw [cmp_int]
  unfold cmpI
  by_cases h : x < y
  · have : ¬ y < x := by omega
    simp [h, this]
  · rw [if_neg h]
    by_cases h2 : y < x <;> simp [h2]
set_option maxRecDepth 100000 in
set_option maxHeartbeats 8000000 in
theorem l12AggCount (os : List (Option Int)) (a : Option Addr) (cap : Nat) (w : World) (hrow : RowV w a (os.map ov)) (hlen : os.length ≤ 4096) (hbd : ∀ x ∈ vals os, -1000000 ≤ x ∧ x ≤ 1000000) :
    Calls Try.prog 14 #[.string gCount, .slice a os.length cap] w fun e w' => e = .returned (ansV ((2, ((vals os).length : Int), noT), 0)) ∧ Below w.heap.size w w' := by
  have HR : Hid (RowV w a (os.map ov)) := hrow
  have HBD : Hid (∀ x ∈ vals os, -1000000 ≤ x ∧ x ≤ 1000000) := hbd
  clear hrow hbd
  obtain ⟨len, hL⟩ : ∃ m, os.length = m := ⟨_, rfl⟩
  have HL : Hid (os.length = len) := hL
  rw [hL] at hlen ⊢
  clear hL
  have B0 : Hid (Below w.heap.size w ((w.alloc (.cells #[.int .i64 0, .int .i64 0, .string noT] 27)).alloc (.cells #[.int .i64 0, .int .i64 0, .string noT] 27))) := below2 w _ _
  have X0 : Hid (BoxV ((w.alloc (.cells #[.int .i64 0, .int .i64 0, .string noT] 27)).alloc (.cells #[.int .i64 0, .int .i64 0, .string noT] 27)) w.heap.size 0 0 noT ∧ BoxV ((w.alloc (.cells #[.int .i64 0, .int .i64 0, .string noT] 27)).alloc (.cells #[.int .i64 0, .int .i64 0, .string noT] 27)) (w.heap.size + 1) 0 0 noT) := ⟨blk1' w _ _, blk2' w _ _⟩
  go_enter Try.func14, Try.ntmps14
  go_wp2
  go_loopw [6, 8] (fun c i wr => ∃ j : Nat, j ≤ len ∧ i = .int .i64 j ∧ (∃ cn : Nat, c = .int .i64 cn ∧ cn = (vals (os.take j)).length) ∧ Hid (Below w.heap.size w wr ∧ BoxV wr w.heap.size 0 0 noT)) (fun _ i _ => len - (intOf i).toNat)
  case atStart => exact ⟨0, by omega, rfl, ⟨0, rfl, by simp [vals]⟩, ⟨B0.out, X0.out.1⟩⟩
  case round =>
    obtain ⟨j, hj, rfl, ⟨cn, rfl, hcn⟩, HW⟩ := hrel
    have HCN : Hid (cn = (vals (os.take j)).length) := hcn
    clear hcn
    have hc4 : cn ≤ 4096 := by
      have h1 := HCN.out
      have h2 : (vals (os.take j)).length ≤ (os.take j).length := List.length_filterMap_le _ _
      simp at h2
      omega
    by_cases hjl : j < len
    · have hjo : j < os.length := by rw [HL.out]; exact hjl
      obtain ⟨b, off, rfl, hb, ⟨c0, c1, c2⟩, hs⟩ := (HR.out.below HW.out.1) j (by simpa using hjo)
      rw [nth_ov os j hjo] at c0 c1 c2
      have HV := vals_take os j hjo
      cases he : os[j] with
      | none =>
        rw [he] at c0 c1 c2 HV
        simp only [ov] at c0 c1 c2
        have HV' : Hid (cn = (vals (os.take (j + 1))).length) := by show _ = _; rw [HV, HCN.out]; simp
        have W2 : Hid (Below w.heap.size w (wr.alloc (.cells #[.int .i64 0, .int .i64 0, .string noT] 27)) ∧ BoxV (wr.alloc (.cells #[.int .i64 0, .int .i64 0, .string noT] 27)) w.heap.size 0 0 noT) := ⟨HW.out.1.alloc HW.out.1.size _, (Below.heap_alloc _ _ _ (lt_blk HW.out.2)).trans HW.out.2⟩
        clear HV HCN HW
        go_wp2
        go_roundw
        case rel => exact ⟨j + 1, by omega, by go_num, ⟨cn, rfl, HV'.out⟩, W2⟩
        case measure => simp [intOf]; omega
      | some x =>
        rw [he] at c0 c1 c2 HV
        simp only [ov] at c0 c1 c2
        have HV' : Hid (cn + 1 = (vals (os.take (j + 1))).length) := by show _ = _; rw [HV, HCN.out]; simp
        have W2 : Hid (Below w.heap.size w (wr.alloc (.cells #[.int .i64 2, .int .i64 x, .string noT] 27)) ∧ BoxV (wr.alloc (.cells #[.int .i64 2, .int .i64 x, .string noT] 27)) w.heap.size 0 0 noT) := ⟨HW.out.1.alloc HW.out.1.size _, (Below.heap_alloc _ _ _ (lt_blk HW.out.2)).trans HW.out.2⟩
        clear HV HCN HW
        go_wp2
        go_roundw
        case rel => exact ⟨j + 1, by omega, by go_num, ⟨cn + 1, by go_num, HV'.out⟩, W2⟩
        case measure => simp [intOf]; omega
    · obtain rfl : j = len := by omega
      have HE : Hid (cn = (vals os).length) := by
        show _ = _
        rw [HCN.out, ← HL.out, List.take_length]
      have hI := specInt_any cn wr
      clear HCN
      go_wp2_with fail
      refine hI.mono ?_
      rintro e w2 ⟨rfl, b2⟩
      have W2 : Hid (Below w.heap.size w w2 ∧ BoxV w2 w.heap.size 0 0 noT) := ⟨HW.out.1.trans (b2.mono HW.out.1.size), (b2.block _ (lt_blk HW.out.2)).trans HW.out.2⟩
      obtain ⟨v0, v1, v2, y0, y1, y2⟩ := box_facts W2.out.2
      clear hI b2 HW
      go_wp2_with fail
      obtain ⟨r0, r1, r2, _, _, _⟩ := box_facts (box_set W2.out.2 2 cn noT)
      exact bodyPost_ret (v := VC 2 cn noT 0) (by simp [results, Try.results14, go_sem, r0, r1, r2]) rfl ⟨by rw [HE.out], below_set3 W2.out.1 (Nat.le_refl _) _ _ _⟩
end Go.Proofs.Ythdilgggjkekaaa
