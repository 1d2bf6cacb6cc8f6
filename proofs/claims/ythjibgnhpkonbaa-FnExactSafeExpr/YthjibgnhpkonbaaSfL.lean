/- The law on SafeExpr, walked (stage 14). -/
import Derived.Test.YthjibgnhpkonbaaSfC
import Derived.Test.YthjibgnhpkonbaaTrL
namespace Go.Proofs.Ythjibgnhpkonbaa
open Go.RowKit

set_option maxRecDepth 100000 in
set_option maxHeartbeats 4000000 in
theorem lawSafe (x : ND) (ka : Option Addr) (kc : Nat) (ks : Fo) (w : World) (hrow : RowT 0 w ka 0 ks) (hl : ks.len ≤ maxLen) (ht : TextsN maxLen x) :
    Calls Try.prog 3 #[ValT x (.slice ka ks.len kc)] w fun r w' => r = .returned (.bool true) ∧ Below w.heap.size w w' := by
  have H : Hid (RowT 0 w ka 0 ks) := hrow
  have M : Hid (ks.len ≤ maxLen ∧ TextsN maxLen x) := ⟨hl, ht⟩
  clear hrow hl ht
  have B0 : Below w.heap.size w (w.alloc (.cells #[.int .i64 x.k, .int .i64 x.n, .string x.nm, .string x.of, .int .i64 x.vk, .int .i64 x.vn, .string x.vt, .slice ka ks.len kc] 26)) := (Below.refl _ _).alloc (Nat.le_refl _) _
  have X0 : Hid (BoxN w.heap.size x (.slice ka ks.len kc) (w.alloc (.cells #[.int .i64 x.k, .int .i64 x.n, .string x.nm, .string x.of, .int .i64 x.vk, .int .i64 x.vn, .string x.vt, .slice ka ks.len kc] 26))) := BoxN.new 26
  go_enter Try.func3, Try.ntmps3
  go_wp2_with fail
  refine (szT_any x ks (szS_any ks) ka kc 1048576 _ (H.out.below B0) M.out.1 M.out.2 (by omega) (by omega)).mono ?_
  rintro r w1 ⟨q, rfl, q0, q2, b1⟩
  have B1 := B0.trans (b1.mono B0.size)
  have X1 := X0.out.below b1
  clear B0 X0 b1
  by_cases hx : q < 0
  · clear q2 X1
    go_wp2
    go_ret
    exact ⟨rfl, B1⟩
  have LS : Hid (ks.size ≤ 1048576 ∧ ks.len ≤ 1048576 ∧ SmallF ks) := by
    obtain ⟨h1, _, h3⟩ := q2 (by omega)
    have := ks.len_le
    exact ⟨by omega, by omega, h3⟩
  clear q2
  have Y1 : Hid (BoxN w.heap.size x (.slice ka ks.len kc) w1) := X1
  obtain ⟨⟨y0, y1, y2, y3, y4, y5, y6, y7⟩, _⟩ := X1
  go_wp2_with fail
  refine (toT_any x ks (toS_any ks) ka kc w1 (H.out.below B1) LS.out.2.1 LS.out.2.2 LS.out.1).mono ?_
  rintro r w2 ⟨h1, rfl, _, S1, b2⟩
  have B2 := B1.trans (b2.mono B1.size)
  have Y2 : Hid (BoxN w.heap.size x (.slice ka ks.len kc) w2) := Y1.out.below b2
  have KS : Hid (RowT 0 w2 (some ⟨h1, 0, none⟩) 0 ks) := S1.weak (Nat.zero_le _)
  clear S1 y0 y1 y2 y3 y4 y5 y6 y7 B1 b2 Y1
  go_wp2_with fail
  refine (specSafe_any x ks _ _ w2 KS.out LS.out.1 M.out.2).mono ?_
  rintro r w3 ⟨rfl, b3⟩
  have B3 := B2.trans (b3.mono B2.size)
  have X3 := Y2.out.below b3
  have Y3 : Hid (BoxN w.heap.size x (.slice ka ks.len kc) w3) := X3
  obtain ⟨⟨y0, y1, y2, y3, y4, y5, y6, y7⟩, _⟩ := X3
  clear KS B2 b3 Y2
  go_wp2_with fail
  refine (toT_any x ks (toS_any ks) ka kc w3 (H.out.below B3) LS.out.2.1 LS.out.2.2 LS.out.1).mono ?_
  rintro r w4 ⟨g1, rfl, _, S1, b4⟩
  have B4 := B3.trans (b4.mono B3.size)
  have A4 : Below w4.heap.size w4 (w4.alloc (.cells #[.int .i64 x.k, .int .i64 x.n, .string x.nm, .string x.of, .int .i64 x.vk, .int .i64 x.vn, .string x.vt, fullS g1 ks.len] 33)) := (Below.refl _ _).alloc (Nat.le_refl _) _
  have B5 := B4.trans (A4.mono B4.size)
  have Y5 : Hid (BoxN w.heap.size x (.slice ka ks.len kc) (w4.alloc (.cells #[.int .i64 x.k, .int .i64 x.n, .string x.nm, .string x.of, .int .i64 x.vk, .int .i64 x.vn, .string x.vt, fullS g1 ks.len] 33))) := (Y3.out.below b4).below A4
  have Z5 : Hid (BoxN w4.heap.size x (fullS g1 ks.len) (w4.alloc (.cells #[.int .i64 x.k, .int .i64 x.n, .string x.nm, .string x.of, .int .i64 x.vk, .int .i64 x.vn, .string x.vt, fullS g1 ks.len] 33))) := BoxN.new 33
  have KS : Hid (RowT 0 (w4.alloc (.cells #[.int .i64 x.k, .int .i64 x.n, .string x.nm, .string x.of, .int .i64 x.vk, .int .i64 x.vn, .string x.vt, fullS g1 ks.len] 33)) (some ⟨g1, 0, none⟩) 0 ks) := (S1.weak (Nat.zero_le _)).below A4
  clear S1 y0 y1 y2 y3 y4 y5 y6 y7 B3 b4 Y3 A4 B4
  go_wp2_with fail
  refine (implSafe_any x ks _ _ _ KS.out LS.out.1 M.out.2).mono ?_
  rintro r w6 ⟨rfl, b6⟩
  have B6 := B5.trans (b6.mono B5.size)
  have hL : TwoT w w.heap.size w4.heap.size x ka kc g1 ks w6.drew :=
    (show TwoT w w.heap.size w4.heap.size x ka kc g1 ks w6 from ⟨Y5.out.below b6, Z5.out.below b6, H.out.below B6, KS.out.below b6, B6⟩).keep (Below.refl _ _).drew
  clear Y5 Z5 KS b6 B5 B6
  generalize sAns x ks = ans
  generalize sCode x ks = cod
  go_wp2_with fail
  go_region_held3 (TwoT w w.heap.size w4.heap.size x ka kc g1 ks) (first | exact hL | exact TwoT.keep (by assumption) hb)
    (first | (go_at_call 7; refine (toT_any x ks (toS_any ks) ka kc _ (show TwoT w w.heap.size w4.heap.size x ka kc g1 ks _ by assumption).2.2.1 LS.out.2.1 LS.out.2.2 LS.out.1).mono ?_; rintro r wA ⟨k1, rfl, _, S1, hb⟩)
           | (go_at_call 9; refine (eqT_same x ks (eqS_any ks LS.out.1) _ _ _ _ _ (show TwoT w w.heap.size w4.heap.size x ka kc g1 ks _ by assumption).2.2.2.1 (S1.weak (Nat.zero_le _)) LS.out.2.1).mono ?_; rintro r wA ⟨rfl, hb⟩))
  rename_i hLL
  have hE := hLL.2.2.2.2
  clear hL hLL
  go_wp2
  go_ret
  exact ⟨rfl, hE⟩
end Go.Proofs.Ythjibgnhpkonbaa
