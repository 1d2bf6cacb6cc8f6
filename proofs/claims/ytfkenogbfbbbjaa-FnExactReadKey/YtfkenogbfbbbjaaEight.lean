/- The eight bytes of an int, as the specification makes them: those that impl writes. -/
import Derived.Test.YtfkenogbfbbbjaaRowBytesI
namespace Go.Proofs.Ytfkenogbfbbbjaa
open Go.RowKit

theorem uX_mod (n : Int) : uX n = (n + 9223372036854775808) % 18446744073709551616 := by
  unfold uX
  have hw : IntKind.u64.wrap n = n % 18446744073709551616 := by simp [IntKind.wrap, IntKind.signed, IntKind.bits]
  rw [hw]
  have h0 : 0 ≤ n % 18446744073709551616 := by omega
  have h3 : n % 18446744073709551616 < 18446744073709551616 := by omega
  rw [u64_xor _ _ h0 h3 (by omega) (by omega)]
  have h4 : (9223372036854775808 : Int).toNat = 2 ^ 63 := by decide
  rw [h4, xor_high _ (by have : (2 : Nat) ^ 64 = 18446744073709551616 := by decide
                         omega)]
  have h63 : (2 : Nat) ^ 63 = 9223372036854775808 := by decide
  rw [h63]
  split <;> omega

theorem own_push {B : Nat} {u : World} (hB : B ≤ u.heap.size) (c : Value) : (u.alloc (.cells #[c] 5)).ownsRow B 5 1 (.slice (some ⟨u.heap.size, 0, none⟩) 1 1) 1 [c] :=
  ⟨rfl, .inr ⟨u.heap.size, 1, #[c], rfl, hB, by show (u.heap.push _)[u.heap.size]? = _; simp, Nat.le_refl _, by decide, rfl, rfl⟩⟩

theorem xor128_nat : ∀ a : Fin 256, (a.val ^^^ 128) = (a.val + 128) % 256 := by decide +kernel
theorem xor128 (a : Int) (h0 : 0 ≤ a) (h1 : a < 256) : bits .xor .u8 a 128 = (a + 128) % 256 := by
  rw [u8_xor a 128 h0 h1 (by omega) (by omega)]
  have h := xor128_nat ⟨a.toNat, by omega⟩
  simp only at h
  have e : (128 : Int).toNat = 128 := rfl
  rw [e, h]
  omega
theorem encI_eq (n : Int) : encI n = [.int .u8 (bits .xor .u8 (n / 72057594037927936 % 256) 128), .int .u8 (n / 281474976710656 % 256), .int .u8 (n / 1099511627776 % 256), .int .u8 (n / 4294967296 % 256), .int .u8 (n / 16777216 % 256), .int .u8 (n / 65536 % 256), .int .u8 (n / 256 % 256), .int .u8 (n % 256)] := by
  unfold encI
  rw [uX_mod, xor128 _ (by omega) (by omega)]
  have e7 : (n + 9223372036854775808) % 18446744073709551616 / 72057594037927936 % 256 = (n / 72057594037927936 % 256 + 128) % 256 := by omega
  have e6 : (n + 9223372036854775808) % 18446744073709551616 / 281474976710656 % 256 = n / 281474976710656 % 256 := by omega
  have e5 : (n + 9223372036854775808) % 18446744073709551616 / 1099511627776 % 256 = n / 1099511627776 % 256 := by omega
  have e4 : (n + 9223372036854775808) % 18446744073709551616 / 4294967296 % 256 = n / 4294967296 % 256 := by omega
  have e3 : (n + 9223372036854775808) % 18446744073709551616 / 16777216 % 256 = n / 16777216 % 256 := by omega
  have e2 : (n + 9223372036854775808) % 18446744073709551616 / 65536 % 256 = n / 65536 % 256 := by omega
  have e1 : (n + 9223372036854775808) % 18446744073709551616 / 256 % 256 = n / 256 % 256 := by omega
  have e0 : (n + 9223372036854775808) % 18446744073709551616 % 256 = n % 256 := by omega
  rw [e7, e6, e5, e4, e3, e2, e1, e0]
/-- A row that the call owns, with its first cell. -/
theorem own_first {u : World} {B : Nat} {v : Value} {n : Nat} {x : Value} {xs : List Value} (h : u.ownsRow B 5 1 v n (x :: xs)) :
    ∃ g cap, v = .slice (some ⟨g, 0, none⟩) n cap ∧ B ≤ g ∧ g < u.heap.size ∧ u.cell? ⟨g, 0, none⟩ = some x ∧ u.frozen? ⟨g, 0, none⟩ = false ∧ ∀ y : Value, (u.setCell ⟨g, 0, none⟩ y).ownsRow B 5 1 v n (y :: xs) := by
  obtain ⟨hl, h⟩ := h
  rcases h with ⟨rfl, rfl⟩ | ⟨g, cap, cur, rfl, hb, hh, hn, hn2, hcs, htk⟩
  · simp at hl
  · have hlt : g < u.heap.size := by
      rcases Nat.lt_or_ge g u.heap.size with h | h
      · exact h
      · rw [Array.getElem?_eq_none h] at hh; cases hh
    simp only [List.length_cons, Nat.mul_one] at hl hcs
    have h0 : cur[0]? = some x := by
      have : (cur.toList.take (n * 1))[0]? = some x := by rw [htk]; rfl
      rw [List.getElem?_take, if_pos (by omega), Array.getElem?_toList] at this
      exact this
    refine ⟨g, cap, rfl, hb, hlt, (slab_cell hh).trans h0, slab_free hh, fun y => ⟨by simpa using hl, .inr ⟨g, cap, _, rfl, hb, slab_set hh y, hn, hn2, by simpa using hcs, ?_⟩⟩⟩
    have hc : cur.toList = x :: cur.toList.tail := by
      cases hcl : cur.toList with
      | nil => rw [← Array.getElem?_toList, hcl] at h0; cases h0
      | cons a l => rw [← Array.getElem?_toList, hcl] at h0; cases h0; rfl
    rw [Array.toList_setIfInBounds]
    rw [hc] at htk ⊢
    have hn1 : n * 1 = (n * 1 - 1) + 1 := by omega
    rw [hn1, List.take_succ_cons] at htk
    rw [hn1, List.set_cons_zero, List.take_succ_cons]
    injection htk with _ h2
    rw [h2]

set_option maxRecDepth 100000 in
set_option maxHeartbeats 4000000 in
theorem l01Eight_any (n : Int) (w : World) :
    Calls Try.prog 87 #[.int .i64 n] w fun e w' => ∃ v, e = .returned v ∧ w'.ownsRow w.heap.size 5 1 v 8 (encI n) ∧ Below w.heap.size w w' := by
  obtain ⟨i0, hi, hz0, hz1, hz2⟩ := info_parts info5
  go_enter Try.func87, Try.ntmps87
  go_wp2
  have o0 : Hid ((w.alloc (.cells #[] 5)).ownsRow w.heap.size 5 1 (.slice (some ⟨w.heap.size, 0, none⟩) 0 0) 0 []) := own_empty (Nat.le_refl _)
  have b0 : Below w.heap.size w (w.alloc (.cells #[] 5)) := (Below.refl _ _).alloc (Nat.le_refl _) _
  generalize w.alloc (.cells #[] 5) = x0 at *
  generalize (Value.slice (some ⟨w.heap.size, 0, none⟩) 0 0) = v0 at *
  refine wp_loop_rounds 9 ?_

  rw [rounds_succ]
  have a0 : (x0.alloc (.cells #[.int .u8 (n / 72057594037927936 % 256)] 5)).ownsRow w.heap.size 5 1 v0 0 [] := own_below o0.out ((Below.refl _ _).alloc (Nat.le_refl _) _)
  have c0 : Below w.heap.size w (x0.alloc (.cells #[.int .u8 (n / 72057594037927936 % 256)] 5)) := b0.alloc b0.size _
  go_wp2_with (at_builtin; go_loud (refine wpList_append_own _ rfl (.tmp 10) (.tmp 17) 22 rfl w.heap.size 5 i0 (.int .u8 0) 1 1 Try.underlying22 hi hz0 hz1 hz2 rfl (by decide) _ 0 _ rfl a0 ⟨x0.heap.size, 0, none⟩ 1 1 [.int .u8 (n / 72057594037927936 % 256)] rfl rfl ?c1 ?c2 ?c3 ?c4 ?c5 ?_))
  case c1 => exact cell_one_new _ _ _
  case c2 => intro u' hu'; simp at hu'; subst hu'; rfl
  case c3 => unfold maxLen; omega
  case c4 => omega
  case c5 => exact c0.size
  intro v1 x1 e1 g1 _
  have b1 := grown_below c0 c0.size a0 g1
  have o1 : Hid (x1.ownsRow w.heap.size 5 1 v1 1 [Value.int .u8 (n / 72057594037927936 % 256)]) := e1
  clear e1 g1 a0 c0 b0 o0
  go_wp2
  rw [rounds_succ]
  have a1 : (x1.alloc (.cells #[.int .u8 (n / 281474976710656 % 256)] 5)).ownsRow w.heap.size 5 1 v1 1 [Value.int .u8 (n / 72057594037927936 % 256)] := own_below o1.out ((Below.refl _ _).alloc (Nat.le_refl _) _)
  have c1 : Below w.heap.size w (x1.alloc (.cells #[.int .u8 (n / 281474976710656 % 256)] 5)) := b1.alloc b1.size _
  go_wp2_with (at_builtin; go_loud (refine wpList_append_own _ rfl (.tmp 10) (.tmp 17) 22 rfl w.heap.size 5 i0 (.int .u8 0) 1 1 Try.underlying22 hi hz0 hz1 hz2 rfl (by decide) _ 1 _ rfl a1 ⟨x1.heap.size, 0, none⟩ 1 1 [.int .u8 (n / 281474976710656 % 256)] rfl rfl ?c1 ?c2 ?c3 ?c4 ?c5 ?_))
  case c1 => exact cell_one_new _ _ _
  case c2 => intro u' hu'; simp at hu'; subst hu'; rfl
  case c3 => unfold maxLen; omega
  case c4 => omega
  case c5 => exact c1.size
  intro v2 x2 e2 g2 _
  have b2 := grown_below c1 c1.size a1 g2
  have o2 : Hid (x2.ownsRow w.heap.size 5 1 v2 2 [Value.int .u8 (n / 72057594037927936 % 256), Value.int .u8 (n / 281474976710656 % 256)]) := e2
  clear e2 g2 a1 c1 b1 o1
  go_wp2
  rw [rounds_succ]
  have a2 : (x2.alloc (.cells #[.int .u8 (n / 1099511627776 % 256)] 5)).ownsRow w.heap.size 5 1 v2 2 [Value.int .u8 (n / 72057594037927936 % 256), Value.int .u8 (n / 281474976710656 % 256)] := own_below o2.out ((Below.refl _ _).alloc (Nat.le_refl _) _)
  have c2 : Below w.heap.size w (x2.alloc (.cells #[.int .u8 (n / 1099511627776 % 256)] 5)) := b2.alloc b2.size _
  go_wp2_with (at_builtin; go_loud (refine wpList_append_own _ rfl (.tmp 10) (.tmp 17) 22 rfl w.heap.size 5 i0 (.int .u8 0) 1 1 Try.underlying22 hi hz0 hz1 hz2 rfl (by decide) _ 2 _ rfl a2 ⟨x2.heap.size, 0, none⟩ 1 1 [.int .u8 (n / 1099511627776 % 256)] rfl rfl ?c1 ?c2 ?c3 ?c4 ?c5 ?_))
  case c1 => exact cell_one_new _ _ _
  case c2 => intro u' hu'; simp at hu'; subst hu'; rfl
  case c3 => unfold maxLen; omega
  case c4 => omega
  case c5 => exact c2.size
  intro v3 x3 e3 g3 _
  have b3 := grown_below c2 c2.size a2 g3
  have o3 : Hid (x3.ownsRow w.heap.size 5 1 v3 3 [Value.int .u8 (n / 72057594037927936 % 256), Value.int .u8 (n / 281474976710656 % 256), Value.int .u8 (n / 1099511627776 % 256)]) := e3
  clear e3 g3 a2 c2 b2 o2
  go_wp2
  rw [rounds_succ]
  have a3 : (x3.alloc (.cells #[.int .u8 (n / 4294967296 % 256)] 5)).ownsRow w.heap.size 5 1 v3 3 [Value.int .u8 (n / 72057594037927936 % 256), Value.int .u8 (n / 281474976710656 % 256), Value.int .u8 (n / 1099511627776 % 256)] := own_below o3.out ((Below.refl _ _).alloc (Nat.le_refl _) _)
  have c3 : Below w.heap.size w (x3.alloc (.cells #[.int .u8 (n / 4294967296 % 256)] 5)) := b3.alloc b3.size _
  go_wp2_with (at_builtin; go_loud (refine wpList_append_own _ rfl (.tmp 10) (.tmp 17) 22 rfl w.heap.size 5 i0 (.int .u8 0) 1 1 Try.underlying22 hi hz0 hz1 hz2 rfl (by decide) _ 3 _ rfl a3 ⟨x3.heap.size, 0, none⟩ 1 1 [.int .u8 (n / 4294967296 % 256)] rfl rfl ?c1 ?c2 ?c3 ?c4 ?c5 ?_))
  case c1 => exact cell_one_new _ _ _
  case c2 => intro u' hu'; simp at hu'; subst hu'; rfl
  case c3 => unfold maxLen; omega
  case c4 => omega
  case c5 => exact c3.size
  intro v4 x4 e4 g4 _
  have b4 := grown_below c3 c3.size a3 g4
  have o4 : Hid (x4.ownsRow w.heap.size 5 1 v4 4 [Value.int .u8 (n / 72057594037927936 % 256), Value.int .u8 (n / 281474976710656 % 256), Value.int .u8 (n / 1099511627776 % 256), Value.int .u8 (n / 4294967296 % 256)]) := e4
  clear e4 g4 a3 c3 b3 o3
  go_wp2
  rw [rounds_succ]
  have a4 : (x4.alloc (.cells #[.int .u8 (n / 16777216 % 256)] 5)).ownsRow w.heap.size 5 1 v4 4 [Value.int .u8 (n / 72057594037927936 % 256), Value.int .u8 (n / 281474976710656 % 256), Value.int .u8 (n / 1099511627776 % 256), Value.int .u8 (n / 4294967296 % 256)] := own_below o4.out ((Below.refl _ _).alloc (Nat.le_refl _) _)
  have c4 : Below w.heap.size w (x4.alloc (.cells #[.int .u8 (n / 16777216 % 256)] 5)) := b4.alloc b4.size _
  go_wp2_with (at_builtin; go_loud (refine wpList_append_own _ rfl (.tmp 10) (.tmp 17) 22 rfl w.heap.size 5 i0 (.int .u8 0) 1 1 Try.underlying22 hi hz0 hz1 hz2 rfl (by decide) _ 4 _ rfl a4 ⟨x4.heap.size, 0, none⟩ 1 1 [.int .u8 (n / 16777216 % 256)] rfl rfl ?c1 ?c2 ?c3 ?c4 ?c5 ?_))
  case c1 => exact cell_one_new _ _ _
  case c2 => intro u' hu'; simp at hu'; subst hu'; rfl
  case c3 => unfold maxLen; omega
  case c4 => omega
  case c5 => exact c4.size
  intro v5 x5 e5 g5 _
  have b5 := grown_below c4 c4.size a4 g5
  have o5 : Hid (x5.ownsRow w.heap.size 5 1 v5 5 [Value.int .u8 (n / 72057594037927936 % 256), Value.int .u8 (n / 281474976710656 % 256), Value.int .u8 (n / 1099511627776 % 256), Value.int .u8 (n / 4294967296 % 256), Value.int .u8 (n / 16777216 % 256)]) := e5
  clear e5 g5 a4 c4 b4 o4
  go_wp2
  rw [rounds_succ]
  have a5 : (x5.alloc (.cells #[.int .u8 (n / 65536 % 256)] 5)).ownsRow w.heap.size 5 1 v5 5 [Value.int .u8 (n / 72057594037927936 % 256), Value.int .u8 (n / 281474976710656 % 256), Value.int .u8 (n / 1099511627776 % 256), Value.int .u8 (n / 4294967296 % 256), Value.int .u8 (n / 16777216 % 256)] := own_below o5.out ((Below.refl _ _).alloc (Nat.le_refl _) _)
  have c5 : Below w.heap.size w (x5.alloc (.cells #[.int .u8 (n / 65536 % 256)] 5)) := b5.alloc b5.size _
  go_wp2_with (at_builtin; go_loud (refine wpList_append_own _ rfl (.tmp 10) (.tmp 17) 22 rfl w.heap.size 5 i0 (.int .u8 0) 1 1 Try.underlying22 hi hz0 hz1 hz2 rfl (by decide) _ 5 _ rfl a5 ⟨x5.heap.size, 0, none⟩ 1 1 [.int .u8 (n / 65536 % 256)] rfl rfl ?c1 ?c2 ?c3 ?c4 ?c5 ?_))
  case c1 => exact cell_one_new _ _ _
  case c2 => intro u' hu'; simp at hu'; subst hu'; rfl
  case c3 => unfold maxLen; omega
  case c4 => omega
  case c5 => exact c5.size
  intro v6 x6 e6 g6 _
  have b6 := grown_below c5 c5.size a5 g6
  have o6 : Hid (x6.ownsRow w.heap.size 5 1 v6 6 [Value.int .u8 (n / 72057594037927936 % 256), Value.int .u8 (n / 281474976710656 % 256), Value.int .u8 (n / 1099511627776 % 256), Value.int .u8 (n / 4294967296 % 256), Value.int .u8 (n / 16777216 % 256), Value.int .u8 (n / 65536 % 256)]) := e6
  clear e6 g6 a5 c5 b5 o5
  go_wp2
  rw [rounds_succ]
  have a6 : (x6.alloc (.cells #[.int .u8 (n / 256 % 256)] 5)).ownsRow w.heap.size 5 1 v6 6 [Value.int .u8 (n / 72057594037927936 % 256), Value.int .u8 (n / 281474976710656 % 256), Value.int .u8 (n / 1099511627776 % 256), Value.int .u8 (n / 4294967296 % 256), Value.int .u8 (n / 16777216 % 256), Value.int .u8 (n / 65536 % 256)] := own_below o6.out ((Below.refl _ _).alloc (Nat.le_refl _) _)
  have c6 : Below w.heap.size w (x6.alloc (.cells #[.int .u8 (n / 256 % 256)] 5)) := b6.alloc b6.size _
  go_wp2_with (at_builtin; go_loud (refine wpList_append_own _ rfl (.tmp 10) (.tmp 17) 22 rfl w.heap.size 5 i0 (.int .u8 0) 1 1 Try.underlying22 hi hz0 hz1 hz2 rfl (by decide) _ 6 _ rfl a6 ⟨x6.heap.size, 0, none⟩ 1 1 [.int .u8 (n / 256 % 256)] rfl rfl ?c1 ?c2 ?c3 ?c4 ?c5 ?_))
  case c1 => exact cell_one_new _ _ _
  case c2 => intro u' hu'; simp at hu'; subst hu'; rfl
  case c3 => unfold maxLen; omega
  case c4 => omega
  case c5 => exact c6.size
  intro v7 x7 e7 g7 _
  have b7 := grown_below c6 c6.size a6 g7
  have o7 : Hid (x7.ownsRow w.heap.size 5 1 v7 7 [Value.int .u8 (n / 72057594037927936 % 256), Value.int .u8 (n / 281474976710656 % 256), Value.int .u8 (n / 1099511627776 % 256), Value.int .u8 (n / 4294967296 % 256), Value.int .u8 (n / 16777216 % 256), Value.int .u8 (n / 65536 % 256), Value.int .u8 (n / 256 % 256)]) := e7
  clear e7 g7 a6 c6 b6 o6
  go_wp2
  rw [rounds_succ]
  have a7 : (x7.alloc (.cells #[.int .u8 (n % 256)] 5)).ownsRow w.heap.size 5 1 v7 7 [Value.int .u8 (n / 72057594037927936 % 256), Value.int .u8 (n / 281474976710656 % 256), Value.int .u8 (n / 1099511627776 % 256), Value.int .u8 (n / 4294967296 % 256), Value.int .u8 (n / 16777216 % 256), Value.int .u8 (n / 65536 % 256), Value.int .u8 (n / 256 % 256)] := own_below o7.out ((Below.refl _ _).alloc (Nat.le_refl _) _)
  have c7 : Below w.heap.size w (x7.alloc (.cells #[.int .u8 (n % 256)] 5)) := b7.alloc b7.size _
  go_wp2_with (at_builtin; go_loud (refine wpList_append_own _ rfl (.tmp 10) (.tmp 17) 22 rfl w.heap.size 5 i0 (.int .u8 0) 1 1 Try.underlying22 hi hz0 hz1 hz2 rfl (by decide) _ 7 _ rfl a7 ⟨x7.heap.size, 0, none⟩ 1 1 [.int .u8 (n % 256)] rfl rfl ?c1 ?c2 ?c3 ?c4 ?c5 ?_))
  case c1 => exact cell_one_new _ _ _
  case c2 => intro u' hu'; simp at hu'; subst hu'; rfl
  case c3 => unfold maxLen; omega
  case c4 => omega
  case c5 => exact c7.size
  intro v8 x8 e8 g8 _
  have b8 := grown_below c7 c7.size a7 g8
  have o8 : Hid (x8.ownsRow w.heap.size 5 1 v8 8 [Value.int .u8 (n / 72057594037927936 % 256), Value.int .u8 (n / 281474976710656 % 256), Value.int .u8 (n / 1099511627776 % 256), Value.int .u8 (n / 4294967296 % 256), Value.int .u8 (n / 16777216 % 256), Value.int .u8 (n / 65536 % 256), Value.int .u8 (n / 256 % 256), Value.int .u8 (n % 256)]) := e8
  clear e8 g8 a7 c7 b7 o7
  go_wp2
  rw [rounds_succ]
  obtain ⟨g, cap, rfl, hBg, hlt, hc, hf, hset⟩ := own_first o8.out
  have HS : Hid (∀ y : Value, _) := hset
  clear hset o8
  go_wp2
  go_ret
  refine ⟨_, rfl, ?_, b8.setCell hBg _⟩
  rw [encI_eq]
  exact HS.out _
end Go.Proofs.Ytfkenogbfbbbjaa
