/- Sums, products and quotients: the specification's, and the laws on them (stage 12). -/
import Derived.Test.YteloioopkndcmaaArA
namespace Go.Proofs.Yteloioopkndcmaa
open Go.RowKit

theorem add_wrap {a b : Int} (h : In64 (a + b)) : IntKind.i64.wrap (a + b) = addR a b ∧ 0 = addC a b := by
  unfold addR addC
  rw [if_pos h, if_pos h]
  refine ⟨?_, rfl⟩
  rw [wrap64]
  unfold In64 at h
  omega
set_option maxRecDepth 100000 in
theorem specAdd_any (a b : Int) (w : World) (ha : In64 a) (hb : In64 b) :
    Calls Try.prog 14 #[.int .i64 a, .int .i64 b] w fun e w' => e = .returned (NC (addR a b) (addC a b)) ∧ w' = w := by
  have HC := l12Add_any a b w ha hb
  clear ha hb
  by_cases h : In64 (a + b)
  · have HX : Hid (IntKind.i64.wrap (a + b) = addR a b ∧ 0 = addC a b) := add_wrap h
    rw [decide_eq_true h] at HC
    generalize IntKind.i64.wrap (a + b) = s at *
    go_enter Try.func14, Try.ntmps14
    go_wp2_with fail
    refine HC.mono ?_
    rintro e w1 ⟨rfl, hq⟩
    obtain rfl := hq.symm
    clear HC
    go_wp2
    go_ret2
    exact ⟨nc_eq ⟨HX.out.1.symm, HX.out.2.symm⟩, rfl⟩
  · have HX : Hid (addR a b = 0 ∧ addC a b = 4) := ⟨if_neg h, if_neg h⟩
    rw [decide_eq_false h] at HC
    generalize IntKind.i64.wrap (a + b) = s at *
    go_enter Try.func14, Try.ntmps14
    go_wp2_with fail
    refine HC.mono ?_
    rintro e w1 ⟨rfl, hq⟩
    obtain rfl := hq.symm
    clear HC
    go_wp2
    go_ret2
    exact ⟨nc_eq HX.out, rfl⟩
set_option maxRecDepth 100000 in
theorem specMul_any (a b : Int) (w : World) (ha : In64 a) :
    Calls Try.prog 16 #[.int .i64 a, .int .i64 b] w fun e w' => e = .returned (NC (mulR a b) (mulC a b)) ∧ Below w.heap.size w w' := by
  have HC := l12Mul_any a b w ha
  clear ha
  by_cases h : mulX a b
  · have HX : Hid (0 = mulC a b) := (if_pos h).symm
    rw [decide_eq_true h] at HC
    go_enter Try.func16, Try.ntmps16
    go_wp2_with fail
    refine HC.mono ?_
    rintro e w1 ⟨rfl, b1⟩
    clear HC
    go_wp2
    go_ret2
    exact ⟨nc_eq ⟨rfl, HX.out.symm⟩, b1⟩
  · have HX : Hid (mulR a b = 0 ∧ mulC a b = 4) := ⟨if_neg h, if_neg h⟩
    rw [decide_eq_false h] at HC
    go_enter Try.func16, Try.ntmps16
    go_wp2_with fail
    refine HC.mono ?_
    rintro e w1 ⟨rfl, b1⟩
    clear HC
    go_wp2
    go_ret2
    exact ⟨nc_eq HX.out, b1⟩

set_option maxRecDepth 100000 in
theorem lawAdd (a b : Int) (w : World) (ha : In64 a) (hb : In64 b) :
    Calls Try.prog 6 #[.int .i64 a, .int .i64 b] w fun e w' => e = .returned (.bool true) ∧ Below w.heap.size w w' := by
  have HS := specAdd_any a b w ha hb
  have HI := implAdd_any a b w ha hb 
  clear ha hb
  go_enter Try.func6, Try.ntmps6
  go_wp2_with fail
  refine HS.mono ?_
  rintro e w1 ⟨rfl, hq⟩
  obtain rfl := hq.symm
  go_wp2_with fail
  refine HI.mono ?_
  rintro e w1 ⟨rfl, hq⟩
  obtain rfl := hq.symm
  clear HS HI
  go_wp2
  go_ret
  exact ⟨rfl, Below.refl _ _⟩

set_option maxRecDepth 100000 in
theorem lawMul (a b : Int) (w : World) (ha : In64 a) (hb : In64 b) :
    Calls Try.prog 7 #[.int .i64 a, .int .i64 b] w fun e w' => e = .returned (.bool true) ∧ Below w.heap.size w w' := by
  have HS := specMul_any a b w ha
  have HI : Hid (∀ w1, Calls Try.prog 15 #[.int .i64 a, .int .i64 b] w1 fun e w' => e = .returned (NC (mulR a b) (mulC a b)) ∧ Below w1.heap.size w1 w') := fun w1 => implMul_any a b w1 ha hb
  clear ha hb
  go_enter Try.func7, Try.ntmps7
  go_wp2_with fail
  refine HS.mono ?_
  rintro e w1 ⟨rfl, b1⟩
  have HJ := HI.out w1
  go_wp2_with fail
  refine HJ.mono ?_
  rintro e w2 ⟨rfl, b2⟩
  have B := b1.trans (b2.mono b1.size)
  clear HS HI HJ b1 b2
  go_wp2
  go_ret
  exact ⟨rfl, B⟩

set_option maxRecDepth 100000 in
theorem lawDiv (a b : Int) (w : World) (ha : In64 a) :
    Calls Try.prog 8 #[.int .i64 a, .int .i64 b] w fun e w' => e = .returned (.bool true) ∧ Below w.heap.size w w' := by
  have HS := specDiv_any a b w ha
  have HI : Hid (∀ w1, Calls Try.prog 17 #[.int .i64 a, .int .i64 b] w1 fun e w' => e = .returned (NNC (divQ a b) (divM a b) (divC a b)) ∧ Below w1.heap.size w1 w') := fun w1 => implDiv_any a b w1 ha
  clear ha
  go_enter Try.func8, Try.ntmps8
  go_wp2_with fail
  refine HS.mono ?_
  rintro e w1 ⟨rfl, b1⟩
  have HJ := HI.out w1
  go_wp2_with fail
  refine HJ.mono ?_
  rintro e w2 ⟨rfl, b2⟩
  have B := b1.trans (b2.mono b1.size)
  clear HS HI HJ b1 b2
  go_wp2
  go_ret
  exact ⟨rfl, B⟩
end Go.Proofs.Yteloioopkndcmaa
