/- FnOrder over two lists of at most 2 to the 20 bytes each. -/
import Derived.Test.YtipddjgoohnalaaBytes
namespace Go.Proofs.Ytipddjgoohnalaa
open Go.ChangeShapes Go.WideShapes Go.ChangeAt Go.RowKit Go.Joins

set_option maxRecDepth 100000 in
set_option maxHeartbeats 4000000 in
theorem lawOrder_small (a0 : Option Addr) (len0 cap0 : Nat) (z0 : List Int) (a1 : Option Addr) (len1 cap1 : Nat) (z1 : List Int) (w : World) (w0 : IsRow w a0 len0 cap0 z0) (w1 : IsRow w a1 len1 cap1 z1) (hl0 : len0 ≤ 1048576) (hl1 : len1 ≤ 1048576) :
    Calls Try.prog 3 #[.slice a0 len0 cap0, .slice a1 len1 cap1] w fun e w' => e = .returned (.bool true) ∧ Below w.heap.size w w' := by
  obtain ⟨i0, hi, hz0, hz1, hz2⟩ := info_parts info5
  have HW0 : Hid (IsRow w a0 len0 cap0 z0) := w0
  have HW1 : Hid (IsRow w a1 len1 cap1 z1) := w1
  clear w0 w1
  go_enter Try.func3, Try.ntmps3
  go_wp2_with fail
  refine (valueOf_any HW0.out.code (by omega)).mono ?_
  rintro e u1 ⟨ka, na, ta, rfl, oka, hta, hb1⟩
  have hB1 : Below w.heap.size w (u1.alloc (.cells #[.int .i64 ka, .int .i64 na, .string ta] 24)) := hb1.alloc hb1.size _
  have HA : Hid (okV ka na ta = true) := oka
  clear oka hta
  go_wp2_with fail
  refine (valueOf_any (HW1.out.code.below hB1 (fun x e hl => HW1.out.code.lt hl x e)) (by omega)).mono ?_
  rintro e u2 ⟨kb, nb, tb, rfl, okb, htb, hb2⟩
  have HB : Hid (okV kb nb tb = true) := okb
  have hBU : Below w.heap.size w (u2.alloc (.cells #[.int .i64 kb, .int .i64 nb, .string tb] 24)) := (hB1.trans (hb2.mono hB1.size)).alloc (hB1.trans (hb2.mono hB1.size)).size _
  have bU : Hid (Box u1.heap.size ka na ta (u2.alloc (.cells #[.int .i64 kb, .int .i64 nb, .string tb] 24)) ∧ Box u2.heap.size kb nb tb (u2.alloc (.cells #[.int .i64 kb, .int .i64 nb, .string tb] 24))) := ⟨(Box.keep Box.new hb2).keep ((Below.refl _ _).alloc (Nat.le_refl _) _), Box.new⟩
  have hsU : (u2.alloc (.cells #[.int .i64 kb, .int .i64 nb, .string tb] 24)).heap.size = u2.heap.size + 1 := by simp
  have hle : w.heap.size ≤ u2.heap.size + 1 := by have := hBU.size; omega
  have h3 : Below (u2.heap.size + 1) (u2.alloc (.cells #[.int .i64 kb, .int .i64 nb, .string tb] 24)) ((u2.alloc (.cells #[.int .i64 kb, .int .i64 nb, .string tb] 24)).alloc (.cells #[] 5)) := (Below.refl _ _).alloc (by omega) _
  have hs3 : u2.heap.size + 1 ≤ ((u2.alloc (.cells #[.int .i64 kb, .int .i64 nb, .string tb] 24)).alloc (.cells #[] 5)).heap.size := by simp
  have hown1 := own_empty (u := u2.alloc (.cells #[.int .i64 kb, .int .i64 nb, .string tb] 24)) (B := u2.heap.size + 1) (by omega)
  rw [hsU] at hown1
  obtain ⟨hnil1, hl1', hn1, ho1⟩ := HW1.out.news' (hBU.trans (h3.mono hle))
  have HN1 : Hid (a1 = none → len1 = 0 ∧ cap1 = 0 ∧ byteVals z1 len1 = []) := hnil1
  have Hn1 : Hid (∀ p, a1 = some p → ∀ j u, (byteVals z1 len1)[j]? = some u → ((u2.alloc (.cells #[.int .i64 kb, .int .i64 nb, .string tb] 24)).alloc (.cells #[] 5)).cell? (p.add j) = some u) := hn1
  have HS : Hid ((u2.alloc (.cells #[.int .i64 kb, .int .i64 nb, .string tb] 24)).heap.size = u2.heap.size + 1) := hsU
  clear okb htb hb1 hb2 hn1 hB1 hsU hnil1
  go_wp2_with (at_builtin; refine wpList_append_row rfl (.tmp 30) (.tmp 31) 22 rfl (u2.heap.size + 1) 5 i0 (.int .u8 0) 1 Try.underlying22 hi hz0 hz1 hz2 rfl _ 0 [] rfl hown1 a1 len1 cap1 (byteVals z1 len1) rfl HN1.out hl1' Hn1.out ho1 ?c63 ?cby ?cbs ?_)
  case c63 => unfold maxLen; omega
  case cby => omega
  case cbs => exact hs3
  intro v1 u3 hown2 hgr1
  have h4 : Below (u2.heap.size + 1) (u2.alloc (.cells #[.int .i64 kb, .int .i64 nb, .string tb] 24)) u3 := below_grown h3 hs3 hown1 hgr1
  have hs4 : u2.heap.size + 1 ≤ u3.heap.size := Nat.le_trans hs3 hgr1.size
  have hownB : u3.ownsRow (u2.heap.size + 1) 5 1 v1 len1 (byteVals z1 len1) := by simpa using hown2
  obtain ⟨hnil0, hl0', hn0, ho0⟩ := HW0.out.news' (hBU.trans (h4.mono hle))
  have HN0 : Hid (a0 = none → len0 = 0 ∧ cap0 = 0 ∧ byteVals z0 len0 = []) := hnil0
  have Hn0 : Hid (∀ p, a0 = some p → ∀ j u, (byteVals z0 len0)[j]? = some u → u3.cell? (p.add j) = some u) := hn0
  clear hn0 hown1 hown2 hgr1 h3 hs3 hl1' ho1 Hn1 hnil0 HN1
  go_wp2_with (at_builtin; refine wpList_append_row rfl (.tmp 32) (.tmp 33) 22 rfl (u2.heap.size + 1) 5 i0 (.int .u8 0) 1 Try.underlying22 hi hz0 hz1 hz2 rfl _ len1 (byteVals z1 len1) rfl hownB a0 len0 cap0 (byteVals z0 len0) rfl HN0.out hl0' Hn0.out ho0 ?d63 ?dby ?dbs ?_)
  case d63 => unfold maxLen; omega
  case dby => omega
  case dbs => exact hs4
  intro v2 u4 hown3 hgr2
  have h5 : Below (u2.heap.size + 1) (u2.alloc (.cells #[.int .i64 kb, .int .i64 nb, .string tb] 24)) u4 := below_grown h4 hs4 hownB hgr2
  obtain ⟨a2, c2, hv, hcode⟩ := own_code hown3 (fun x hx => by rcases List.mem_append.1 hx with h | h; exact HW1.out.vals x h; exact HW0.out.vals x h)
  subst hv
  have HC : Hid (Code u4 a2 (len1 + len0)) := hcode
  clear hcode hown3 hgr2 h4 hs4 hl0' ho0 Hn0 hownB HN0
  go_wp2_with fail
  refine (valueOf_any HC.out (by omega)).mono ?_
  rintro e u5 ⟨kc, nc, tc, rfl, okc, htc, hb5⟩
  have HD : Hid (okV kc nc tc = true) := okc
  have h6 : Below (u2.heap.size + 1) (u2.alloc (.cells #[.int .i64 kb, .int .i64 nb, .string tb] 24)) (u5.alloc (.cells #[.int .i64 kc, .int .i64 nc, .string tc] 24)) := (below_step h5 (Nat.le_of_eq HS.out.symm) hb5).alloc (Nat.le_trans (Nat.le_of_eq HS.out.symm) (below_step h5 (Nat.le_of_eq HS.out.symm) hb5).size) _
  have h6' : Below (u2.alloc (.cells #[.int .i64 kb, .int .i64 nb, .string tb] 24)).heap.size (u2.alloc (.cells #[.int .i64 kb, .int .i64 nb, .string tb] 24)) (u5.alloc (.cells #[.int .i64 kc, .int .i64 nc, .string tc] 24)) := by rw [HS.out]; exact h6
  have hBW : Below w.heap.size w (u5.alloc (.cells #[.int .i64 kc, .int .i64 nc, .string tc] 24)) := hBU.trans (h6.mono hle)
  obtain ⟨bA, bB⟩ : Box u1.heap.size ka na ta (u5.alloc (.cells #[.int .i64 kc, .int .i64 nc, .string tc] 24)) ∧ Box u2.heap.size kb nb tb (u5.alloc (.cells #[.int .i64 kc, .int .i64 nc, .string tc] 24)) := ⟨bU.out.1.keep h6', bU.out.2.keep h6'⟩
  have bC : Box u5.heap.size kc nc tc (u5.alloc (.cells #[.int .i64 kc, .int .i64 nc, .string tc] 24)) := Box.new
  clear okc htc hb5 h5 h6 h6' hBU bU HC HS hle HW0 HW1
  obtain ⟨x, hx⟩ : ∃ x, cmpV ka na ta kb nb tb = x := ⟨_, rfl⟩
  obtain ⟨y, hy⟩ : ∃ y, cmpV kb nb tb ka na ta = y := ⟨_, rfl⟩
  obtain ⟨z, hz⟩ : ∃ z, cmpV kb nb tb kc nc tc = z := ⟨_, rfl⟩
  obtain ⟨q, hq⟩ : ∃ q, cmpV ka na ta kc nc tc = q := ⟨_, rfl⟩
  have Hx : Hid (cmpV ka na ta kb nb tb = x) := hx
  have Hy : Hid (cmpV kb nb tb ka na ta = y) := hy
  have Hz : Hid (cmpV kb nb tb kc nc tc = z) := hz
  have Hq : Hid (cmpV ka na ta kc nc tc = q) := hq
  clear hx hy hz hq
  have bBx : -1 ≤ y ∧ y ≤ 1 := by rw [← Hy.out]; exact cmpV_bd _ _ _ _ _ _
  have hneg : x ≤ -y ∧ -y ≤ x := by have := cmpV_neg ka na ta kb nb tb; rw [Hx.out, Hy.out] at this; omega
  have HZ : Hid (y = 0 ↔ ka = kb ∧ na = nb ∧ ta.toList = tb.toList) := by
    have h := cmpV_zero ka na ta kb nb tb
    rw [Hx.out] at h
    exact ⟨fun e => h.1 (by omega), fun e => by have := h.2 e; omega⟩
  have HT : Hid (x ≤ 0 → z ≤ 0 → q ≤ 0) := by
    intro h1 h2
    rw [← Hx.out] at h1
    rw [← Hz.out] at h2
    rw [← Hq.out]
    exact cmpV_trans _ _ _ _ _ _ _ _ _ h1 h2
  go_wp2_with fail
  refine (implCompare_ok x _ HA.out HB.out Hx.out).mono ?_
  rintro e u6 ⟨rfl, hb6⟩
  replace bA := bA.keep hb6
  replace bB := bB.keep hb6
  replace bC := bC.keep hb6
  have hBW6 := hBW.trans (hb6.mono hBW.size)
  clear hb6 hBW
  go_wp2_with fail
  refine (implCompare_ok y _ HB.out HA.out Hy.out).mono ?_
  rintro e u7 ⟨rfl, hb7⟩
  replace bA := bA.keep hb7
  replace bB := bB.keep hb7
  replace bC := bC.keep hb7
  have hBW7 := hBW6.trans (hb7.mono hBW6.size)
  clear hb7 hBW6
  go_wp2_with fail
  refine (implCompare_ok z _ HB.out HD.out Hz.out).mono ?_
  rintro e u8 ⟨rfl, hb8⟩
  replace bA := bA.keep hb8
  replace bB := bB.keep hb8
  replace bC := bC.keep hb8
  have hBW8 := hBW7.trans (hb8.mono hBW7.size)
  clear hb8 hBW7
  go_wp2_with fail
  refine (implCompare_ok q _ HA.out HD.out Hq.out).mono ?_
  rintro e u9 ⟨rfl, hb9⟩
  replace bA := bA.keep hb9
  replace bB := bB.keep hb9
  have hBW9 := hBW8.trans (hb9.mono hBW8.size)
  clear hb9 hBW8 bC
  go_wp2_with fail
  refine (specCompare_ok x _ HA.out HB.out Hx.out).mono ?_
  rintro e u10 ⟨rfl, hb10⟩
  replace bA := bA.keep hb10
  replace bB := bB.keep hb10
  have hBW10 := hBW9.trans (hb10.mono hBW9.size)
  clear hb10 hBW9
  go_wp2
  all_goals first
    | (go_ret; exact ⟨rfl, hBW10⟩)
    | (go_ret; exact ⟨ret_bool' (decide_eq_true (HT.out (by omega) (by assumption))), hBW10⟩)
    | exact (order_bad1 HZ.out (by assumption) (by assumption) (by assumption) (by assumption)).elim
    | exact (order_bad2 HZ.out (by assumption) (by assumption)).elim
    | exact (order_bad3 HZ.out (by assumption) (by assumption)).elim
    | exact (order_bad4 HZ.out (by assumption) (by assumption)).elim

end Go.Proofs.Ytipddjgoohnalaa
