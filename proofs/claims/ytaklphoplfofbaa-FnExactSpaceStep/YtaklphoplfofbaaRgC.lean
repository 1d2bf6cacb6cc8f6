/- Region 7 of the law on SpaceStep (stage 4). -/
import Derived.Test.YtaklphoplfofbaaRgA
namespace Go.Proofs.Ytaklphoplfofbaa
open Go.RowKit

/-- What stands behind each set of the operations of region 7. -/
def I7 (w : World) (b ab : Nat) (t e kk n : Int) (g1 g2 g3 : Nat) (ss : List Int) (ps : List P2) (qs : List Int) (T D : Int) (R : SR) (s0 s1 s2 s4 s5 s6 s7 s8 s19 s20 s21 s22 s23 s24 s25 s26 s27 s28 s29 s30 s31 s32 s33 s34 : Value) (lst : Array Bool) (a : Act) (w' : World) : Prop :=
  ∃ l0 l1 l2 l3 l4 l5 l6 l7 l8 l9 l10 l11 l12 x36 x37 x38 x39 x35 x40 x41 x42 x10 x11 x12 u1 u2 u3 u4, lst = #[l0, l1, l2, l3, l4, l5, l6, l7, l8, l9, l10, l11, l12] ∧ a = ⟨#[s0, s1, s2, .pointer (some ⟨ab, 0, none⟩), s4, s5, s6, s7, s8, .pointer (some ⟨b, 0, none⟩), x10, x11, x12, undef, undef, undef, undef, undef, undef, s19, s20, s21, s22, s23, s24, s25, s26, s27, s28, s29, s30, s31, s32, s33, s34, x35, x36, x37, x38, x39, x40, x41, x42, undef, undef, undef, undef, undef, undef, undef, undef, undef, undef, undef, undef, undef, undef, undef, undef, undef, undef, undef, undef, undef, undef, undef, undef, undef, undef, undef, undef, undef, undef, undef, undef, undef, undef, undef, undef, undef, undef, undef, undef, undef, undef, undef, undef, undef, undef, undef, undef, undef, undef, undef, undef, undef, undef, undef, undef, undef, undef, undef, undef, undef, undef, undef, undef, undef, undef, undef, undef, undef, undef, undef, undef, undef, undef, undef, undef, undef, undef, undef, undef, undef, undef, undef, undef, undef, undef, undef, undef, undef, undef, undef, undef, undef, undef, undef, undef, undef, undef], []⟩ ∧ (l0 = true → x36 = .agg #[.int .i64 t, .int .i64 e, .slice (some ⟨g1, 0, none⟩) ss.length ss.length, .slice (some ⟨g2, 0, none⟩) ps.length ps.length, .slice (some ⟨g3, 0, none⟩) qs.length qs.length]) ∧ (l1 = true → x37 = .agg #[.int .i64 kk, .int .i64 n]) ∧ (l2 = true → x38 = .agg #[.int .i64 kk, .int .i64 n]) ∧ (l3 = true → (l2 = true) ∧ x39 = .tuple #[SV T R.e u1 u2 u3, .agg #[.int .i64 R.c, u4], .int .i64 D] ∧ O4 true w' w.heap.size u1 u2 u3 u4 R) ∧ (l4 = true → l3 = true ∧ x35 = .tuple #[SV T R.e u1 u2 u3, .agg #[.int .i64 R.c, u4], .int .i64 D]) ∧ (l5 = true → l3 = true ∧ x40 = SV T R.e u1 u2 u3) ∧ (l6 = true → l3 = true ∧ x41 = .agg #[.int .i64 R.c, u4]) ∧ (l7 = true → x42 = .int .i64 D) ∧ (l8 = true → ∃ Y, x10 = .pointer (some ⟨Y, 0, none⟩) ∧ w.heap.size ≤ Y ∧ w'.heap[Y]? = some (.cells (if l10 then #[.int .i64 T, .int .i64 R.e, u1, u2, u3] else #[.int .i64 0, .int .i64 0, .slice none 0 0, .slice none 0 0, .slice none 0 0]) 29 (0, 0))) ∧ (l9 = true → ∃ Y, x11 = .pointer (some ⟨Y, 0, none⟩) ∧ w.heap.size ≤ Y ∧ w'.heap[Y]? = some (.cells (if l11 then #[.int .i64 R.c, u4] else #[.int .i64 0, .slice none 0 0]) 37 (0, 0))) ∧ (l10 = true → l8 = true ∧ l5 = true) ∧ (l11 = true → l9 = true ∧ l6 = true) ∧ (l12 = true → x12 = .int .i64 D) ∧ Below w.heap.size w w'

set_option maxRecDepth 100000 in
set_option maxHeartbeats 16000000 in
theorem reg7 {Q : Exit → Act → World → Prop} (w : World) (b ab : Nat) (t e kk n : Int) (g1 g2 g3 : Nat) (ss : List Int) (ps : List P2) (qs : List Int) (T D : Int) (R : SR) (s0 s1 s2 s4 s5 s6 s7 s8 s19 s20 s21 s22 s23 s24 s25 s26 s27 s28 s29 s30 s31 s32 s33 s34 : Value)
    (xb : BoxS b t e (.slice (some ⟨g1, 0, none⟩) ss.length ss.length) (.slice (some ⟨g2, 0, none⟩) ps.length ps.length) (.slice (some ⟨g3, 0, none⟩) qs.length qs.length) w) (xa : w.cell? ⟨ab, 0, none⟩ = some (.int .i64 kk) ∧ w.cell? ⟨ab, 1, none⟩ = some (.int .i64 n) ∧ ab < w.heap.size) (hr : RowsIn (some ⟨g1, 0, none⟩) (some ⟨g2, 0, none⟩) (some ⟨g3, 0, none⟩) ss ps qs w)
    
    (hc : ∀ w', RowsIn (some ⟨g1, 0, none⟩) (some ⟨g2, 0, none⟩) (some ⟨g3, 0, none⟩) ss ps qs w' → Calls Try.prog 31 #[SV t e (.slice (some ⟨g1, 0, none⟩) ss.length ss.length) (.slice (some ⟨g2, 0, none⟩) ps.length ps.length) (.slice (some ⟨g3, 0, none⟩) qs.length qs.length), .agg #[.int .i64 kk, .int .i64 n]] w' (RetS true w' T R D))
    (hQ : ∀ x36 x37 x38 x39 x35 x40 x41 x42 Y Z u1 u2 u3 u4 w', w'.heap[Y]? = some (.cells #[.int .i64 T, .int .i64 R.e, u1, u2, u3] 29 (0, 0)) → w'.heap[Z]? = some (.cells #[.int .i64 R.c, u4] 37 (0, 0)) → w.heap.size ≤ Y → w.heap.size ≤ Z → O4 true w' w.heap.size u1 u2 u3 u4 R → Below w.heap.size w w' → Q .normal ⟨#[s0, s1, s2, .pointer (some ⟨ab, 0, none⟩), s4, s5, s6, s7, s8, .pointer (some ⟨b, 0, none⟩), .pointer (some ⟨Y, 0, none⟩), .pointer (some ⟨Z, 0, none⟩), .int .i64 D, undef, undef, undef, undef, undef, undef, s19, s20, s21, s22, s23, s24, s25, s26, s27, s28, s29, s30, s31, s32, s33, s34, x35, x36, x37, x38, x39, x40, x41, x42, undef, undef, undef, undef, undef, undef, undef, undef, undef, undef, undef, undef, undef, undef, undef, undef, undef, undef, undef, undef, undef, undef, undef, undef, undef, undef, undef, undef, undef, undef, undef, undef, undef, undef, undef, undef, undef, undef, undef, undef, undef, undef, undef, undef, undef, undef, undef, undef, undef, undef, undef, undef, undef, undef, undef, undef, undef, undef, undef, undef, undef, undef, undef, undef, undef, undef, undef, undef, undef, undef, undef, undef, undef, undef, undef, undef, undef, undef, undef, undef, undef, undef, undef, undef, undef, undef, undef, undef, undef, undef, undef, undef, undef, undef, undef, undef, undef, undef], []⟩ w') :
    (Code.region 7 #[{ dst := some 36, op := Go.Op.load 29 (Go.Operand.tmp 9), type := 29, pos := "exact.go:5968", after := #[], guard := none }, { dst := some 37, op := Go.Op.load 56 (Go.Operand.tmp 3), type := 56, pos := "exact.go:5968", after := #[], guard := none }, { dst := some 38, op := Go.Op.call { callee := Go.Callee.value (Go.Operand.func 30), args := #[Go.Operand.tmp 37], argTypes := #[56] }, type := 39, pos := "exact.go:5968", after := #[{ on := 1, ground := Go.Ground.data }], guard := none }, { dst := some 39, op := Go.Op.call { callee := Go.Callee.value (Go.Operand.func 31), args := #[Go.Operand.tmp 36, Go.Operand.tmp 38], argTypes := #[29, 39] }, type := 57, pos := "exact.go:5968", after := #[{ on := 0, ground := Go.Ground.data }, { on := 2, ground := Go.Ground.data }, { on := 2, ground := Go.Ground.chain }], guard := none }, { dst := some 35, op := Go.Op.move (Go.Operand.tmp 39), type := 57, pos := "exact.go:5968", after := #[{ on := 3, ground := Go.Ground.data }], guard := none }, { dst := some 40, op := Go.Op.extract (Go.Operand.tmp 35) 0, type := 29, pos := "exact.go:5968", after := #[{ on := 4, ground := Go.Ground.data }], guard := none }, { dst := some 41, op := Go.Op.extract (Go.Operand.tmp 35) 1, type := 37, pos := "exact.go:5968", after := #[{ on := 4, ground := Go.Ground.data }, { on := 10, ground := Go.Ground.gcOnly Go.Departure.lateStores }], guard := none }, { dst := some 42, op := Go.Op.extract (Go.Operand.tmp 35) 2, type := 3, pos := "exact.go:5968", after := #[{ on := 4, ground := Go.Ground.data }, { on := 11, ground := Go.Ground.gcOnly Go.Departure.lateStores }], guard := none }, { dst := some 10, op := Go.Op.alloc 29, type := 0, pos := "exact.go:5968", after := #[], guard := none }, { dst := some 11, op := Go.Op.alloc 37, type := 0, pos := "exact.go:5968", after := #[], guard := none }, { dst := none, op := Go.Op.store 29 (Go.Operand.tmp 10) (Go.Operand.tmp 40), type := 0, pos := "exact.go:5968", after := #[{ on := 8, ground := Go.Ground.data }, { on := 5, ground := Go.Ground.data }, { on := 3, ground := Go.Ground.chain }, { on := 0, ground := Go.Ground.phase }, { on := 1, ground := Go.Ground.phase }, { on := 2, ground := Go.Ground.phase }, { on := 3, ground := Go.Ground.phase }, { on := 4, ground := Go.Ground.phase }, { on := 5, ground := Go.Ground.phase }, { on := 6, ground := Go.Ground.textOnly Go.Departure.lateStores }, { on := 7, ground := Go.Ground.textOnly Go.Departure.lateStores }, { on := 8, ground := Go.Ground.phase }, { on := 9, ground := Go.Ground.phase }], guard := none }, { dst := none, op := Go.Op.store 37 (Go.Operand.tmp 11) (Go.Operand.tmp 41), type := 0, pos := "exact.go:5968", after := #[{ on := 9, ground := Go.Ground.data }, { on := 6, ground := Go.Ground.data }, { on := 10, ground := Go.Ground.chain }, { on := 0, ground := Go.Ground.phase }, { on := 1, ground := Go.Ground.phase }, { on := 2, ground := Go.Ground.phase }, { on := 3, ground := Go.Ground.phase }, { on := 4, ground := Go.Ground.phase }, { on := 5, ground := Go.Ground.phase }, { on := 6, ground := Go.Ground.phase }, { on := 7, ground := Go.Ground.textOnly Go.Departure.lateStores }, { on := 8, ground := Go.Ground.phase }, { on := 9, ground := Go.Ground.phase }, { on := 10, ground := Go.Ground.phase }], guard := none }, { dst := some 12, op := Go.Op.assign (Go.Operand.tmp 42), type := 3, pos := "exact.go:5968", after := #[{ on := 7, ground := Go.Ground.data }, { on := 11, ground := Go.Ground.chain }, { on := 0, ground := Go.Ground.phase }, { on := 1, ground := Go.Ground.phase }, { on := 2, ground := Go.Ground.phase }, { on := 3, ground := Go.Ground.phase }, { on := 4, ground := Go.Ground.phase }, { on := 5, ground := Go.Ground.phase }, { on := 6, ground := Go.Ground.phase }, { on := 7, ground := Go.Ground.phase }, { on := 8, ground := Go.Ground.phase }, { on := 9, ground := Go.Ground.phase }, { on := 10, ground := Go.Ground.phase }, { on := 11, ground := Go.Ground.phase }], guard := none }] true).wp Try.prog Q ⟨#[s0, s1, s2, .pointer (some ⟨ab, 0, none⟩), s4, s5, s6, s7, s8, .pointer (some ⟨b, 0, none⟩), undef, undef, undef, undef, undef, undef, undef, undef, undef, s19, s20, s21, s22, s23, s24, s25, s26, s27, s28, s29, s30, s31, s32, s33, s34, undef, undef, undef, undef, undef, undef, undef, undef, undef, undef, undef, undef, undef, undef, undef, undef, undef, undef, undef, undef, undef, undef, undef, undef, undef, undef, undef, undef, undef, undef, undef, undef, undef, undef, undef, undef, undef, undef, undef, undef, undef, undef, undef, undef, undef, undef, undef, undef, undef, undef, undef, undef, undef, undef, undef, undef, undef, undef, undef, undef, undef, undef, undef, undef, undef, undef, undef, undef, undef, undef, undef, undef, undef, undef, undef, undef, undef, undef, undef, undef, undef, undef, undef, undef, undef, undef, undef, undef, undef, undef, undef, undef, undef, undef, undef, undef, undef, undef, undef, undef, undef, undef, undef, undef, undef, undef], []⟩ w := by
  have XB : Hid (BoxS b t e (.slice (some ⟨g1, 0, none⟩) ss.length ss.length) (.slice (some ⟨g2, 0, none⟩) ps.length ps.length) (.slice (some ⟨g3, 0, none⟩) qs.length qs.length) w) := xb
  have XA : Hid (w.cell? ⟨ab, 0, none⟩ = some (.int .i64 kk) ∧ w.cell? ⟨ab, 1, none⟩ = some (.int .i64 n) ∧ ab < w.heap.size) := xa
  have HR : Hid (RowsIn (some ⟨g1, 0, none⟩) (some ⟨g2, 0, none⟩) (some ⟨g3, 0, none⟩) ss ps qs w) := hr

  clear xb xa hr
  refine wp_region_inv (by kernel_rfl) (I7 w b ab t e kk n g1 g2 g3 ss ps qs T D R s0 s1 s2 s4 s5 s6 s7 s8 s19 s20 s21 s22 s23 s24 s25 s26 s27 s28 s29 s30 s31 s32 s33 s34) ?h0 ?hstep ?hend
  case h0 =>
    refine ⟨false, false, false, false, false, false, false, false, false, false, false, false, false, undef, undef, undef, undef, undef, undef, undef, undef, undef, undef, undef, undef, undef, undef, undef, rfl, rfl, ?_, ?_, ?_, ?_, ?_, ?_, ?_, ?_, ?_, ?_, ?_, ?_, ?_, ?_⟩
    all_goals first | (intro h; cases h) | exact below_draw
  case hstep =>
    clear hQ
    rintro lst a w' i hsz ⟨l0, l1, l2, l3, l4, l5, l6, l7, l8, l9, l10, l11, l12, x36, x37, x38, x39, x35, x40, x41, x42, x10, x11, x12, u1, u2, u3, u4, rfl, rfl, m0, m2, m3, k4, m5, m6, m7, m8, k9, k10, q11, q12, m13, hb⟩ hi
    have hlt : i < 13 := ready_lt hi
    have hnew := ready_new hi
    rcases (show i = 0 ∨ i = 1 ∨ i = 2 ∨ i = 3 ∨ i = 4 ∨ i = 5 ∨ i = 6 ∨ i = 7 ∨ i = 8 ∨ i = 9 ∨ i = 10 ∨ i = 11 ∨ i = 12 by omega) with rfl | rfl | rfl | rfl | rfl | rfl | rfl | rfl | rfl | rfl | rfl | rfl | rfl
    all_goals (refine wpOp_step (by rfl) (fun K hK => ?_))
    all_goals (have hd := ready_deps hi rfl)
    all_goals (simp [Region.binds] at hd hnew)
    · subst hnew
      have cb0 : w'.cell? ⟨b, 0, none⟩ = some (.int .i64 t) := ((hb.cell (p := ⟨b, 0, none⟩) XB.out.2.2.2.2.2).trans XB.out.1)
      have cb1 : w'.cell? ⟨b, 1, none⟩ = some (.int .i64 e) := ((hb.cell (p := ⟨b, 1, none⟩) XB.out.2.2.2.2.2).trans XB.out.2.1)
      have cb2 : w'.cell? ⟨b, 2, none⟩ = some (.slice (some ⟨g1, 0, none⟩) ss.length ss.length) := ((hb.cell (p := ⟨b, 2, none⟩) XB.out.2.2.2.2.2).trans XB.out.2.2.1)
      have cb3 : w'.cell? ⟨b, 3, none⟩ = some (.slice (some ⟨g2, 0, none⟩) ps.length ps.length) := ((hb.cell (p := ⟨b, 3, none⟩) XB.out.2.2.2.2.2).trans XB.out.2.2.2.1)
      have cb4 : w'.cell? ⟨b, 4, none⟩ = some (.slice (some ⟨g3, 0, none⟩) qs.length qs.length) := ((hb.cell (p := ⟨b, 4, none⟩) XB.out.2.2.2.2.2).trans XB.out.2.2.2.2.1)
      go_simp
      exact hK _ _ ⟨_, _, _, _, _, _, _, _, _, _, _, _, _, _, _, _, _, _, _, _, _, _, _, _, u1, u2, u3, u4, rfl, rfl, (fun _ => rfl), (by first | exact m2 | exact (fun _ => rfl)), (by first | exact m3 | exact (fun _ => rfl)), (by first | exact k4 | exact (fun h => ⟨(k4 h).1, rfl, (k4 h).2.2⟩)), (by first | exact m5 | exact (fun h => ⟨(m5 h).1, rfl⟩)), (by first | exact m6 | exact (fun h => ⟨(m6 h).1, rfl⟩)), (by first | exact m7 | exact (fun h => ⟨(m7 h).1, rfl⟩)), (by first | exact m8 | exact (fun _ => rfl)), k9, k10, q11, q12, (by first | exact m13 | exact (fun _ => rfl)), hb⟩
    · subst hnew
      have ca0 : w'.cell? ⟨ab, 0, none⟩ = some (.int .i64 kk) := ((hb.cell (p := ⟨ab, 0, none⟩) XA.out.2.2).trans XA.out.1)
      have ca1 : w'.cell? ⟨ab, 1, none⟩ = some (.int .i64 n) := ((hb.cell (p := ⟨ab, 1, none⟩) XA.out.2.2).trans XA.out.2.1)
      go_simp
      exact hK _ _ ⟨_, _, _, _, _, _, _, _, _, _, _, _, _, _, _, _, _, _, _, _, _, _, _, _, u1, u2, u3, u4, rfl, rfl, (by first | exact m0 | exact (fun _ => rfl)), (fun _ => rfl), (by first | exact m3 | exact (fun _ => rfl)), (by first | exact k4 | exact (fun h => ⟨(k4 h).1, rfl, (k4 h).2.2⟩)), (by first | exact m5 | exact (fun h => ⟨(m5 h).1, rfl⟩)), (by first | exact m6 | exact (fun h => ⟨(m6 h).1, rfl⟩)), (by first | exact m7 | exact (fun h => ⟨(m7 h).1, rfl⟩)), (by first | exact m8 | exact (fun _ => rfl)), k9, k10, q11, q12, (by first | exact m13 | exact (fun _ => rfl)), hb⟩
    · have hl0 : l1 = true := (by simp [hd])
      obtain rfl : l3 = false := (by cases h : l3; rfl; exact absurd (k4 h).1 (by simp [hnew]))
      subst hnew
      obtain rfl := m2 hl0
      go_simp
      go_at_call 30
      refine (toAct_any kk n w').mono ?_
      rintro r w'' ⟨rfl, b2⟩
      exact hK _ _ ⟨_, _, _, _, _, _, _, _, _, _, _, _, _, _, _, _, _, _, _, _, _, _, _, _, u1, u2, u3, u4, rfl, rfl, (by first | exact m0 | exact (fun _ => rfl)), (by first | exact m2 | exact (fun _ => rfl)), (fun _ => rfl), (fun h => absurd (k4 h).1 (by simp)), (by first | exact m5 | exact (fun h => ⟨(m5 h).1, rfl⟩)), (by first | exact m6 | exact (fun h => ⟨(m6 h).1, rfl⟩)), (by first | exact m7 | exact (fun h => ⟨(m7 h).1, rfl⟩)), (by first | exact m8 | exact (fun _ => rfl)), (fun h => (by obtain ⟨Y, eY, hY, hh⟩ := k9 h; exact ⟨Y, eY, hY, (Below.block b2 Y (slab_lt hh)).trans hh⟩)), (fun h => (by obtain ⟨Y, eY, hY, hh⟩ := k10 h; exact ⟨Y, eY, hY, (Below.block b2 Y (slab_lt hh)).trans hh⟩)), q11, q12, (by first | exact m13 | exact (fun _ => rfl)), (hb.trans (Below.mono b2 hb.size))⟩
    · have hl3 : l2 = true := (by simp [hd])
      have hl1 : l0 = true := (by simp [hd])
      subst hnew
      obtain rfl := m0 hl1
      obtain rfl := m3 hl3
      obtain rfl : l10 = false := (by cases h : l10; rfl; exact absurd (m6 (q11 h).2).1 (by simp))
      obtain rfl : l11 = false := (by cases h : l11; rfl; exact absurd (m7 (q12 h).2).1 (by simp))
      go_simp
      go_at_call 31
      refine (hc w' (HR.out.below hb)).mono ?_
      rintro r w'' ⟨y1, y2, y3, y4, rfl, o1, o2, o3, o4, sp, b2⟩
      exact hK _ _ ⟨_, _, _, _, _, _, _, _, _, _, _, _, _, _, _, _, _, _, _, _, _, _, _, _, y1, y2, y3, y4, rfl, rfl, (by first | exact m0 | exact (fun _ => rfl)), (by first | exact m2 | exact (fun _ => rfl)), (by first | exact m3 | exact (fun _ => rfl)), (fun _ => ⟨hl3, rfl, own_mono o1 hb.size, own_mono o2 hb.size, own_mono o3 hb.size, own_mono o4 hb.size, sp⟩), (fun h => absurd (m5 h).1 (by simp)), (fun h => absurd (m6 h).1 (by simp)), (fun h => absurd (m7 h).1 (by simp)), (by first | exact m8 | exact (fun _ => rfl)), (fun h => (by obtain ⟨Y, eY, hY, hh⟩ := k9 h; exact ⟨Y, eY, hY, (Below.block b2 Y (slab_lt hh)).trans hh⟩)), (fun h => (by obtain ⟨Y, eY, hY, hh⟩ := k10 h; exact ⟨Y, eY, hY, (Below.block b2 Y (slab_lt hh)).trans hh⟩)), (fun h => absurd (m6 (q11 h).2).1 (by simp)), (fun h => absurd (m7 (q12 h).2).1 (by simp)), (by first | exact m13 | exact (fun _ => rfl)), (hb.trans (Below.mono b2 hb.size))⟩
    · have hl4 : l3 = true := (by simp [hd])
      subst hnew
      obtain ⟨_, rfl, _⟩ := k4 hl4
      go_simp
      exact hK _ _ ⟨_, _, _, _, _, _, _, _, _, _, _, _, _, _, _, _, _, _, _, _, _, _, _, _, u1, u2, u3, u4, rfl, rfl, (by first | exact m0 | exact (fun _ => rfl)), (by first | exact m2 | exact (fun _ => rfl)), (by first | exact m3 | exact (fun _ => rfl)), (by first | exact k4 | exact (fun h => ⟨(k4 h).1, rfl, (k4 h).2.2⟩)), (fun _ => ⟨hl4, rfl⟩), (by first | exact m6 | exact (fun h => ⟨(m6 h).1, rfl⟩)), (by first | exact m7 | exact (fun h => ⟨(m7 h).1, rfl⟩)), (by first | exact m8 | exact (fun _ => rfl)), k9, k10, q11, q12, (by first | exact m13 | exact (fun _ => rfl)), hb⟩
    · have hl5 : l4 = true := (by simp [hd])
      subst hnew
      obtain ⟨h4, rfl⟩ := m5 hl5
      go_simp
      exact hK _ _ ⟨_, _, _, _, _, _, _, _, _, _, _, _, _, _, _, _, _, _, _, _, _, _, _, _, u1, u2, u3, u4, rfl, rfl, (by first | exact m0 | exact (fun _ => rfl)), (by first | exact m2 | exact (fun _ => rfl)), (by first | exact m3 | exact (fun _ => rfl)), (by first | exact k4 | exact (fun h => ⟨(k4 h).1, rfl, (k4 h).2.2⟩)), (by first | exact m5 | exact (fun _ => ⟨h4, rfl⟩)), (fun _ => ⟨h4, rfl⟩), (by first | exact m7 | exact (fun h => ⟨(m7 h).1, rfl⟩)), (by first | exact m8 | exact (fun _ => rfl)), k9, k10, (fun h => ⟨(q11 h).1, rfl⟩), q12, (by first | exact m13 | exact (fun _ => rfl)), hb⟩
    · have hl5 : l4 = true := (by simp [hd])
      subst hnew
      obtain ⟨h4, rfl⟩ := m5 hl5
      go_simp
      exact hK _ _ ⟨_, _, _, _, _, _, _, _, _, _, _, _, _, _, _, _, _, _, _, _, _, _, _, _, u1, u2, u3, u4, rfl, rfl, (by first | exact m0 | exact (fun _ => rfl)), (by first | exact m2 | exact (fun _ => rfl)), (by first | exact m3 | exact (fun _ => rfl)), (by first | exact k4 | exact (fun h => ⟨(k4 h).1, rfl, (k4 h).2.2⟩)), (by first | exact m5 | exact (fun _ => ⟨h4, rfl⟩)), (by first | exact m6 | exact (fun h => ⟨(m6 h).1, rfl⟩)), (fun _ => ⟨h4, rfl⟩), (by first | exact m8 | exact (fun _ => rfl)), k9, k10, q11, (fun h => ⟨(q12 h).1, rfl⟩), (by first | exact m13 | exact (fun _ => rfl)), hb⟩
    · have hl5 : l4 = true := (by simp [hd])
      subst hnew
      obtain ⟨h4, rfl⟩ := m5 hl5
      go_simp
      exact hK _ _ ⟨_, _, _, _, _, _, _, _, _, _, _, _, _, _, _, _, _, _, _, _, _, _, _, _, u1, u2, u3, u4, rfl, rfl, (by first | exact m0 | exact (fun _ => rfl)), (by first | exact m2 | exact (fun _ => rfl)), (by first | exact m3 | exact (fun _ => rfl)), (by first | exact k4 | exact (fun h => ⟨(k4 h).1, rfl, (k4 h).2.2⟩)), (by first | exact m5 | exact (fun _ => ⟨h4, rfl⟩)), (by first | exact m6 | exact (fun h => ⟨(m6 h).1, rfl⟩)), (by first | exact m7 | exact (fun h => ⟨(m7 h).1, rfl⟩)), (fun _ => rfl), k9, k10, q11, q12, (by first | exact m13 | exact (fun _ => rfl)), hb⟩
    · obtain rfl : l10 = false := (by cases h : l10; rfl; exact absurd (q11 h).1 (by simp [hnew]))
      subst hnew
      go_simp
      exact hK _ _ ⟨_, _, _, _, _, _, _, _, _, _, _, _, _, _, _, _, _, _, _, _, _, _, _, _, u1, u2, u3, u4, rfl, rfl, (by first | exact m0 | exact (fun _ => rfl)), (by first | exact m2 | exact (fun _ => rfl)), (by first | exact m3 | exact (fun _ => rfl)), (fun h => ⟨(k4 h).1, (by first | exact (k4 h).2.1 | rfl), (k4 h).2.2.keep fun j _ hl => Below.block ((Below.refl _ _).alloc (Nat.le_refl _) _) j hl⟩), (by first | exact m5 | exact (fun h => ⟨(m5 h).1, rfl⟩)), (by first | exact m6 | exact (fun h => ⟨(m6 h).1, rfl⟩)), (by first | exact m7 | exact (fun h => ⟨(m7 h).1, rfl⟩)), (by first | exact m8 | exact (fun _ => rfl)), (fun _ => ⟨_, rfl, hb.size, heap_new' _ _ _ rfl⟩), (fun h => (by obtain ⟨Y, eY, hY, hh⟩ := k10 h; exact ⟨Y, eY, hY, (Below.block ((Below.refl _ _).alloc (Nat.le_refl _) _) Y (slab_lt hh)).trans hh⟩)), (fun h => (by cases h)), q12, (by first | exact m13 | exact (fun _ => rfl)), (hb.alloc hb.size _)⟩
    · obtain rfl : l11 = false := (by cases h : l11; rfl; exact absurd (q12 h).1 (by simp [hnew]))
      subst hnew
      go_simp
      exact hK _ _ ⟨_, _, _, _, _, _, _, _, _, _, _, _, _, _, _, _, _, _, _, _, _, _, _, _, u1, u2, u3, u4, rfl, rfl, (by first | exact m0 | exact (fun _ => rfl)), (by first | exact m2 | exact (fun _ => rfl)), (by first | exact m3 | exact (fun _ => rfl)), (fun h => ⟨(k4 h).1, (by first | exact (k4 h).2.1 | rfl), (k4 h).2.2.keep fun j _ hl => Below.block ((Below.refl _ _).alloc (Nat.le_refl _) _) j hl⟩), (by first | exact m5 | exact (fun h => ⟨(m5 h).1, rfl⟩)), (by first | exact m6 | exact (fun h => ⟨(m6 h).1, rfl⟩)), (by first | exact m7 | exact (fun h => ⟨(m7 h).1, rfl⟩)), (by first | exact m8 | exact (fun _ => rfl)), (fun h => (by obtain ⟨Y, eY, hY, hh⟩ := k9 h; exact ⟨Y, eY, hY, (Below.block ((Below.refl _ _).alloc (Nat.le_refl _) _) Y (slab_lt hh)).trans hh⟩)), (fun _ => ⟨_, rfl, hb.size, heap_new' _ _ _ rfl⟩), q11, (fun h => (by cases h)), (by first | exact m13 | exact (fun _ => rfl)), (hb.alloc hb.size _)⟩
    · have h8 : l8 = true := (by simp [hd])
      have h6 : l5 = true := (by simp [hd])
      obtain ⟨h4, rfl⟩ := m6 h6
      subst hnew
      obtain ⟨Y, rfl, hYn, hY0⟩ := k9 h8
      have hU := (k4 h4).2.2
      obtain ⟨b1, n1, d1, rfl⟩ := own_shq hU.1
      obtain ⟨b2, n2, d2, rfl⟩ := own_shq hU.2.1
      obtain ⟨b3, n3, d3, rfl⟩ := own_shq hU.2.2.1
      obtain ⟨b4, n4, d4, rfl⟩ := own_shq hU.2.2.2.1
      replace hY0 : w'.heap[Y]? = some (.cells #[.int .i64 0, .int .i64 0, .slice none 0 0, .slice none 0 0, .slice none 0 0] 29 (0, 0)) := hY0
      have cy0 : w'.cell? ⟨Y, 0, none⟩ = some (.int .i64 0) := (by simp [World.cell?, hY0])
      have cy1 : w'.cell? ⟨Y, 1, none⟩ = some (.int .i64 0) := (by simp [World.cell?, hY0])
      have cy2 : w'.cell? ⟨Y, 2, none⟩ = some (.slice none 0 0) := (by simp [World.cell?, hY0])
      have cy3 : w'.cell? ⟨Y, 3, none⟩ = some (.slice none 0 0) := (by simp [World.cell?, hY0])
      have cy4 : w'.cell? ⟨Y, 4, none⟩ = some (.slice none 0 0) := (by simp [World.cell?, hY0])
      have fy : ∀ o, w'.frozen? ⟨Y, o, none⟩ = false := fun o => (by simp [World.frozen?, hY0])
      go_simp
      exact hK _ _ ⟨_, _, _, _, _, _, _, _, _, _, _, _, _, _, _, _, _, _, _, _, _, _, _, _, _, _, _, _, rfl, rfl, (by first | exact m0 | exact (fun _ => rfl) | exact (fun _ => ⟨h4, rfl⟩)), (by first | exact m2 | exact (fun _ => rfl) | exact (fun _ => ⟨h4, rfl⟩)), (by first | exact m3 | exact (fun _ => rfl) | exact (fun _ => ⟨h4, rfl⟩)), (fun h => ⟨(k4 h).1, (by first | exact (k4 h).2.1 | rfl), O4.keepT (k4 h).2.2 fun j hh => five_other _ _ _ _ _ _ _ (by intro hq; subst hq; rcases hh with ⟨cs, hh⟩ | ⟨cs, hh⟩ <;> (rw [hY0] at hh; cases hh))⟩), (by first | exact m5 | exact (fun _ => rfl) | exact (fun _ => ⟨h4, rfl⟩)), (by first | exact m6 | exact (fun _ => rfl) | exact (fun _ => ⟨h4, rfl⟩)), (by first | exact m7 | exact (fun _ => rfl) | exact (fun _ => ⟨h4, rfl⟩)), (by first | exact m8 | exact (fun _ => rfl) | exact (fun _ => ⟨h4, rfl⟩)), (fun _ => ⟨_, rfl, hYn, (five_at hY0)⟩), (fun h => (by obtain ⟨Y', eY, hY, hh⟩ := k10 h; exact ⟨Y', eY, hY, (five_other _ _ _ _ _ _ _ (by intro hq; subst hq; rw [hY0] at hh; injection hh with hh; injection hh with _ h2; exact absurd h2 (by decide))).trans hh⟩)), (fun _ => ⟨h8, h6⟩), q12, (by first | exact m13 | exact (fun _ => rfl) | exact (fun _ => ⟨h4, rfl⟩)), (five_below hb hYn _ _ _ _ _)⟩
    · have h8 : l9 = true := (by simp [hd])
      have h6 : l6 = true := (by simp [hd])
      obtain ⟨h4, rfl⟩ := m7 h6
      subst hnew
      obtain ⟨Y, rfl, hYn, hY0⟩ := k10 h8
      have hU := (k4 h4).2.2
      obtain ⟨b1, n1, d1, rfl⟩ := own_shq hU.1
      obtain ⟨b2, n2, d2, rfl⟩ := own_shq hU.2.1
      obtain ⟨b3, n3, d3, rfl⟩ := own_shq hU.2.2.1
      obtain ⟨b4, n4, d4, rfl⟩ := own_shq hU.2.2.2.1
      replace hY0 : w'.heap[Y]? = some (.cells #[.int .i64 0, .slice none 0 0] 37 (0, 0)) := hY0
      have cy0 : w'.cell? ⟨Y, 0, none⟩ = some (.int .i64 0) := (by simp [World.cell?, hY0])
      have cy1 : w'.cell? ⟨Y, 1, none⟩ = some (.slice none 0 0) := (by simp [World.cell?, hY0])
      have fy : ∀ o, w'.frozen? ⟨Y, o, none⟩ = false := fun o => (by simp [World.frozen?, hY0])
      go_simp
      exact hK _ _ ⟨_, _, _, _, _, _, _, _, _, _, _, _, _, _, _, _, _, _, _, _, _, _, _, _, _, _, _, _, rfl, rfl, (by first | exact m0 | exact (fun _ => rfl) | exact (fun _ => ⟨h4, rfl⟩)), (by first | exact m2 | exact (fun _ => rfl) | exact (fun _ => ⟨h4, rfl⟩)), (by first | exact m3 | exact (fun _ => rfl) | exact (fun _ => ⟨h4, rfl⟩)), (fun h => ⟨(k4 h).1, (by first | exact (k4 h).2.1 | rfl), O4.keepT (k4 h).2.2 fun j hh => two_other _ _ _ _ (by intro hq; subst hq; rcases hh with ⟨cs, hh⟩ | ⟨cs, hh⟩ <;> (rw [hY0] at hh; cases hh))⟩), (by first | exact m5 | exact (fun _ => rfl) | exact (fun _ => ⟨h4, rfl⟩)), (by first | exact m6 | exact (fun _ => rfl) | exact (fun _ => ⟨h4, rfl⟩)), (by first | exact m7 | exact (fun _ => rfl) | exact (fun _ => ⟨h4, rfl⟩)), (by first | exact m8 | exact (fun _ => rfl) | exact (fun _ => ⟨h4, rfl⟩)), (fun h => (by obtain ⟨Y', eY, hY, hh⟩ := k9 h; exact ⟨Y', eY, hY, (two_other _ _ _ _ (by intro hq; subst hq; rw [hY0] at hh; injection hh with hh; injection hh with _ h2; exact absurd h2 (by decide))).trans hh⟩)), (fun _ => ⟨_, rfl, hYn, (two_at hY0)⟩), q11, (fun _ => ⟨h8, h6⟩), (by first | exact m13 | exact (fun _ => rfl) | exact (fun _ => ⟨h4, rfl⟩)), (two_below hb hYn _ _)⟩
    · have hl8 : l7 = true := (by simp [hd])
      subst hnew
      obtain rfl := m8 hl8
      go_simp
      exact hK _ _ ⟨_, _, _, _, _, _, _, _, _, _, _, _, _, _, _, _, _, _, _, _, _, _, _, _, u1, u2, u3, u4, rfl, rfl, (by first | exact m0 | exact (fun _ => rfl)), (by first | exact m2 | exact (fun _ => rfl)), (by first | exact m3 | exact (fun _ => rfl)), (by first | exact k4 | exact (fun h => ⟨(k4 h).1, rfl, (k4 h).2.2⟩)), (by first | exact m5 | exact (fun h => ⟨(m5 h).1, rfl⟩)), (by first | exact m6 | exact (fun h => ⟨(m6 h).1, rfl⟩)), (by first | exact m7 | exact (fun h => ⟨(m7 h).1, rfl⟩)), (by first | exact m8 | exact (fun _ => rfl)), k9, k10, q11, q12, (fun _ => rfl), hb⟩
  case hend =>
    rintro lst a w' hsz ⟨l0, l1, l2, l3, l4, l5, l6, l7, l8, l9, l10, l11, l12, x36, x37, x38, x39, x35, x40, x41, x42, x10, x11, x12, u1, u2, u3, u4, rfl, rfl, m0, m2, m3, k4, m5, m6, m7, m8, k9, k10, q11, q12, m13, hb⟩ hrd
    have hall := ready_done (by kernel_rfl) hsz hrd
    have e0 : l10 = true := hall 10 (by decide)
    have e1 : l11 = true := hall 11 (by decide)
    have e4 : l3 = true := hall 3 (by decide)
    have e5 : l12 = true := hall 12 (by decide)
    subst e0 e1 e4
    obtain ⟨Y, rfl, hY, hh7⟩ := k9 (hall 8 (by decide))
    obtain ⟨Z, rfl, hZ, hh8⟩ := k10 (hall 9 (by decide))
    obtain rfl := m13 e5
    rw [if_pos rfl] at hh7 hh8
    exact hQ _ _ _ _ _ _ _ _ Y Z u1 u2 u3 u4 w' hh7 hh8 hY hZ (k4 rfl).2.2 hb
end Go.Proofs.Ytaklphoplfofbaa
