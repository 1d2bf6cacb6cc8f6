/- spec's SpaceRun (stage 4). -/
import Derived.Test.YtaklphoplfofbaaRgA
import Derived.Test.YtaklphoplfofbaaStY
import Derived.Test.YtaklphoplfofbaaRnX
namespace Go.Proofs.Ytaklphoplfofbaa
open Go.RowKit

/-- What stands behind each set of the operations of the region. -/
def I12 (w : World) (B Y b off len c k : Nat) (T : Nat) (e kk nn : Int) (v1 v2 v3 : Value) (R : SR) (s0 s2 s3 s4 s5 s6 s8 s9 s13 s14 s15 s16 s17 s18 s19 s20 s21 s22 s23 s24 s25 s26 s27 s28 s29 s30 s31 s32 s33 s34 s35 s36 s37 s38 s39 s49 s50 s51 s52 s53 s54 s55 s56 : Value) (lst : Array Bool) (a : Act) (w' : World) : Prop :=
  ∃ l0 l1 l2 l3 l4 l5 l6 l7 l8 l9 l10 l11 l12 x41 x42 x43 x44 x45 x46 x40 x47 x48 x11 x12 u1 u2 u3 u4, lst = #[l0, l1, l2, l3, l4, l5, l6, l7, l8, l9, l10, l11, l12] ∧ a = ⟨#[s0, .slice (some ⟨b, off, none⟩) len c, s2, s3, s4, s5, s6, .pointer (some ⟨Y, 0, none⟩), s8, s9, .int .i64 k, x11, x12, s13, s14, s15, s16, s17, s18, s19, s20, s21, s22, s23, s24, s25, s26, s27, s28, s29, s30, s31, s32, s33, s34, s35, s36, s37, s38, s39, x40, x41, x42, x43, x44, x45, x46, x47, x48, s49, s50, s51, s52, s53, s54, s55, s56], []⟩ ∧ (l0 = true → x41 = .agg #[.int .i64 T, .int .i64 e, v1, v2, v3]) ∧ (l1 = true → x42 = .slice (some ⟨b, off, none⟩) len c) ∧ (l2 = true → x43 = .int .i64 k) ∧ (l3 = true → x44 = .pointer (some ⟨b, off + k * 2, none⟩)) ∧ (l4 = true → x45 = .agg #[.int .i64 kk, .int .i64 nn]) ∧ (l5 = true → x46 = .tuple #[SV T R.e u1 u2 u3, .agg #[.int .i64 R.c, u4]] ∧ O4 false w' B u1 u2 u3 u4 R) ∧ (l6 = true → l5 = true ∧ x40 = .tuple #[SV T R.e u1 u2 u3, .agg #[.int .i64 R.c, u4]]) ∧ (l7 = true → l5 = true ∧ x47 = SV T R.e u1 u2 u3) ∧ (l8 = true → l5 = true ∧ x48 = .agg #[.int .i64 R.c, u4]) ∧ (l9 = true → ∃ Y1, x11 = .pointer (some ⟨Y1, 0, none⟩) ∧ w.heap.size ≤ Y1 ∧ w'.heap[Y1]? = some (.cells (if l11 then #[.int .i64 T, .int .i64 R.e, u1, u2, u3] else #[.int .i64 0, .int .i64 0, .slice none 0 0, .slice none 0 0, .slice none 0 0]) 29 (0, 0))) ∧ (l10 = true → ∃ Y1, x12 = .pointer (some ⟨Y1, 0, none⟩) ∧ w.heap.size ≤ Y1 ∧ w'.heap[Y1]? = some (.cells (if l12 then #[.int .i64 R.c, u4] else #[.int .i64 0, .slice none 0 0]) 37 (0, 0))) ∧ (l11 = true → l9 = true ∧ l7 = true) ∧ (l12 = true → l10 = true ∧ l8 = true) ∧ Below w.heap.size w w'

set_option maxRecDepth 100000 in
set_option maxHeartbeats 16000000 in
theorem reg12 {Q : Exit → Act → World → Prop} (w : World) (B Y b off len c k : Nat) (T : Nat) (e kk nn : Int) (v1 v2 v3 : Value) (R : SR) (ss : List Int) (ps : List P2) (qs : List Int) (s0 s2 s3 s4 s5 s6 s8 s9 s13 s14 s15 s16 s17 s18 s19 s20 s21 s22 s23 s24 s25 s26 s27 s28 s29 s30 s31 s32 s33 s34 s35 s36 s37 s38 s39 s49 s50 s51 s52 s53 s54 s55 s56 o41 o42 o43 o44 o45 o46 o40 o47 o48 o11 o12 : Value)
    (xy : w.heap[Y]? = some (.cells #[.int .i64 T, .int .i64 e, v1, v2, v3] 29 (0, 0))) (xa : w.cell? ⟨b, off + k * 2, none⟩ = some (.int .i64 kk) ∧ w.cell? ⟨b, off + k * 2 + 1, none⟩ = some (.int .i64 nn) ∧ b < w.heap.size)
    (ho : OwnI w B v1 ss ∧ OwnP w B v2 ps ∧ OwnI w B v3 qs) (hB : B ≤ w.heap.size) (hk : k < len) (ok : OkSp T e ss ps qs) (hR : R = stp T e ss ps qs kk nn)
    (hQ : ∀ x41 x42 x43 x44 x45 x46 x40 x47 x48 Y1 Z1 u1 u2 u3 u4 w', w'.heap[Y1]? = some (.cells #[.int .i64 T, .int .i64 R.e, u1, u2, u3] 29 (0, 0)) → w'.heap[Z1]? = some (.cells #[.int .i64 R.c, u4] 37 (0, 0)) → w.heap.size ≤ Y1 → w.heap.size ≤ Z1 → O4 false w' B u1 u2 u3 u4 R → Below w.heap.size w w' → Q .normal ⟨#[s0, .slice (some ⟨b, off, none⟩) len c, s2, s3, s4, s5, s6, .pointer (some ⟨Y, 0, none⟩), s8, s9, .int .i64 k, .pointer (some ⟨Y1, 0, none⟩), .pointer (some ⟨Z1, 0, none⟩), s13, s14, s15, s16, s17, s18, s19, s20, s21, s22, s23, s24, s25, s26, s27, s28, s29, s30, s31, s32, s33, s34, s35, s36, s37, s38, s39, x40, x41, x42, x43, x44, x45, x46, x47, x48, s49, s50, s51, s52, s53, s54, s55, s56], []⟩ w') :
    (Code.region 12 #[{ dst := some 41, op := Go.Op.load 29 (Go.Operand.tmp 7), type := 29, pos := "l04_space.go:153", after := #[], guard := none }, { dst := some 42, op := Go.Op.move (Go.Operand.tmp 1), type := 24, pos := "l04_space.go:153", after := #[], guard := none }, { dst := some 43, op := Go.Op.move (Go.Operand.tmp 10), type := 3, pos := "l04_space.go:153", after := #[], guard := none }, { dst := some 44, op := Go.Op.indexAddr 24 (Go.Operand.tmp 42) (Go.Operand.tmp 43), type := 0, pos := "l04_space.go:153", after := #[{ on := 1, ground := Go.Ground.data }, { on := 2, ground := Go.Ground.data }], guard := none }, { dst := some 45, op := Go.Op.load 39 (Go.Operand.tmp 44), type := 39, pos := "l04_space.go:153", after := #[{ on := 3, ground := Go.Ground.data }], guard := none }, { dst := some 46, op := Go.Op.call { callee := Go.Callee.value (Go.Operand.func 45), args := #[Go.Operand.tmp 41, Go.Operand.tmp 45], argTypes := #[29, 39] }, type := 76, pos := "l04_space.go:153", after := #[{ on := 0, ground := Go.Ground.data }, { on := 4, ground := Go.Ground.data }], guard := none }, { dst := some 40, op := Go.Op.move (Go.Operand.tmp 46), type := 76, pos := "l04_space.go:153", after := #[{ on := 5, ground := Go.Ground.data }], guard := none }, { dst := some 47, op := Go.Op.extract (Go.Operand.tmp 40) 0, type := 29, pos := "l04_space.go:153", after := #[{ on := 6, ground := Go.Ground.data }], guard := none }, { dst := some 48, op := Go.Op.extract (Go.Operand.tmp 40) 1, type := 37, pos := "l04_space.go:153", after := #[{ on := 6, ground := Go.Ground.data }, { on := 11, ground := Go.Ground.gcOnly Go.Departure.lateStores }], guard := none }, { dst := some 11, op := Go.Op.alloc 29, type := 0, pos := "l04_space.go:153", after := #[], guard := none }, { dst := some 12, op := Go.Op.alloc 37, type := 0, pos := "l04_space.go:153", after := #[], guard := none }, { dst := none, op := Go.Op.store 29 (Go.Operand.tmp 11) (Go.Operand.tmp 47), type := 0, pos := "l04_space.go:153", after := #[{ on := 9, ground := Go.Ground.data }, { on := 7, ground := Go.Ground.data }, { on := 5, ground := Go.Ground.chain }, { on := 0, ground := Go.Ground.phase }, { on := 1, ground := Go.Ground.phase }, { on := 2, ground := Go.Ground.phase }, { on := 3, ground := Go.Ground.phase }, { on := 4, ground := Go.Ground.phase }, { on := 5, ground := Go.Ground.phase }, { on := 6, ground := Go.Ground.phase }, { on := 7, ground := Go.Ground.phase }, { on := 8, ground := Go.Ground.textOnly Go.Departure.lateStores }, { on := 9, ground := Go.Ground.phase }, { on := 10, ground := Go.Ground.phase }], guard := none }, { dst := none, op := Go.Op.store 37 (Go.Operand.tmp 12) (Go.Operand.tmp 48), type := 0, pos := "l04_space.go:153", after := #[{ on := 10, ground := Go.Ground.data }, { on := 8, ground := Go.Ground.data }, { on := 11, ground := Go.Ground.chain }, { on := 0, ground := Go.Ground.phase }, { on := 1, ground := Go.Ground.phase }, { on := 2, ground := Go.Ground.phase }, { on := 3, ground := Go.Ground.phase }, { on := 4, ground := Go.Ground.phase }, { on := 5, ground := Go.Ground.phase }, { on := 6, ground := Go.Ground.phase }, { on := 7, ground := Go.Ground.phase }, { on := 8, ground := Go.Ground.phase }, { on := 9, ground := Go.Ground.phase }, { on := 10, ground := Go.Ground.phase }, { on := 11, ground := Go.Ground.phase }], guard := none }] true).wp Try.prog Q ⟨#[s0, .slice (some ⟨b, off, none⟩) len c, s2, s3, s4, s5, s6, .pointer (some ⟨Y, 0, none⟩), s8, s9, .int .i64 k, o11, o12, s13, s14, s15, s16, s17, s18, s19, s20, s21, s22, s23, s24, s25, s26, s27, s28, s29, s30, s31, s32, s33, s34, s35, s36, s37, s38, s39, o40, o41, o42, o43, o44, o45, o46, o47, o48, s49, s50, s51, s52, s53, s54, s55, s56], []⟩ w := by
  have XY : Hid (w.heap[Y]? = some (.cells #[.int .i64 T, .int .i64 e, v1, v2, v3] 29 (0, 0))) := xy
  have XA : Hid (w.cell? ⟨b, off + k * 2, none⟩ = some (.int .i64 kk) ∧ w.cell? ⟨b, off + k * 2 + 1, none⟩ = some (.int .i64 nn) ∧ b < w.heap.size) := xa
  have HO : Hid (OwnI w B v1 ss ∧ OwnP w B v2 ps ∧ OwnI w B v3 qs) := ho
  have HB : Hid (B ≤ w.heap.size) := hB
  have OK : Hid (OkSp T e ss ps qs) := ok
  have HRS : Hid (R = stp T e ss ps qs kk nn) := hR
  clear xy xa ho hB ok hR
  have hkI : (k : Int) < (len : Int) := by omega
  refine wp_region_inv (by kernel_rfl) (I12 w B Y b off len c k T e kk nn v1 v2 v3 R s0 s2 s3 s4 s5 s6 s8 s9 s13 s14 s15 s16 s17 s18 s19 s20 s21 s22 s23 s24 s25 s26 s27 s28 s29 s30 s31 s32 s33 s34 s35 s36 s37 s38 s39 s49 s50 s51 s52 s53 s54 s55 s56) ?h0 ?hstep ?hend
  case h0 =>
    refine ⟨false, false, false, false, false, false, false, false, false, false, false, false, false, _, _, _, _, _, _, _, _, _, _, _, undef, undef, undef, undef, rfl, rfl, ?_, ?_, ?_, ?_, ?_, ?_, ?_, ?_, ?_, ?_, ?_, ?_, ?_, ?_⟩
    all_goals first | (intro h; cases h) | exact below_draw
  case hstep =>
    clear hQ
    rintro lst a w' i hsz ⟨l0, l1, l2, l3, l4, l5, l6, l7, l8, l9, l10, l11, l12, x41, x42, x43, x44, x45, x46, x40, x47, x48, x11, x12, u1, u2, u3, u4, rfl, rfl, m0, m1, m2, m3, m4, k5, m6, m7, m8, k9, k10, q11, q12, hb⟩ hi
    have hlt : i < 13 := ready_lt hi
    have hnew := ready_new hi
    rcases (show i = 0 ∨ i = 1 ∨ i = 2 ∨ i = 3 ∨ i = 4 ∨ i = 5 ∨ i = 6 ∨ i = 7 ∨ i = 8 ∨ i = 9 ∨ i = 10 ∨ i = 11 ∨ i = 12 by omega) with rfl | rfl | rfl | rfl | rfl | rfl | rfl | rfl | rfl | rfl | rfl | rfl | rfl
    all_goals (refine wpOp_step (by rfl) (fun K hK => ?_))
    all_goals (have hd := ready_deps hi rfl)
    all_goals (simp [Region.binds] at hd hnew)
    · subst hnew
      have cb0 : w'.cell? ⟨Y, 0, none⟩ = some (.int .i64 T) := ((hb.cell (p := ⟨Y, 0, none⟩) (slab_lt XY.out)).trans (box5_of XY.out).1)
      have cb1 : w'.cell? ⟨Y, 1, none⟩ = some (.int .i64 e) := ((hb.cell (p := ⟨Y, 1, none⟩) (slab_lt XY.out)).trans (box5_of XY.out).2.1)
      have cb2 : w'.cell? ⟨Y, 2, none⟩ = some (v1) := ((hb.cell (p := ⟨Y, 2, none⟩) (slab_lt XY.out)).trans (box5_of XY.out).2.2.1)
      have cb3 : w'.cell? ⟨Y, 3, none⟩ = some (v2) := ((hb.cell (p := ⟨Y, 3, none⟩) (slab_lt XY.out)).trans (box5_of XY.out).2.2.2.1)
      have cb4 : w'.cell? ⟨Y, 4, none⟩ = some (v3) := ((hb.cell (p := ⟨Y, 4, none⟩) (slab_lt XY.out)).trans (box5_of XY.out).2.2.2.2)
      go_simp
      exact hK _ _ ⟨_, _, _, _, _, _, _, _, _, _, _, _, _, _, _, _, _, _, _, _, _, _, _, _, u1, u2, u3, u4, rfl, rfl, (fun _ => rfl), (by first | exact m1 | exact (fun _ => rfl)), (by first | exact m2 | exact (fun _ => rfl)), (by first | exact m3 | exact (fun _ => rfl)), (by first | exact m4 | exact (fun _ => rfl)), (by first | exact k5 | exact (fun h => ⟨rfl, (k5 h).2⟩)), (by first | exact m6 | exact (fun h => ⟨(m6 h).1, rfl⟩)), (by first | exact m7 | exact (fun h => ⟨(m7 h).1, rfl⟩)), (by first | exact m8 | exact (fun h => ⟨(m8 h).1, rfl⟩)), k9, k10, q11, q12, hb⟩
    · subst hnew
      go_simp
      exact hK _ _ ⟨_, _, _, _, _, _, _, _, _, _, _, _, _, _, _, _, _, _, _, _, _, _, _, _, u1, u2, u3, u4, rfl, rfl, (by first | exact m0 | exact (fun _ => rfl)), (fun _ => rfl), (by first | exact m2 | exact (fun _ => rfl)), (by first | exact m3 | exact (fun _ => rfl)), (by first | exact m4 | exact (fun _ => rfl)), (by first | exact k5 | exact (fun h => ⟨rfl, (k5 h).2⟩)), (by first | exact m6 | exact (fun h => ⟨(m6 h).1, rfl⟩)), (by first | exact m7 | exact (fun h => ⟨(m7 h).1, rfl⟩)), (by first | exact m8 | exact (fun h => ⟨(m8 h).1, rfl⟩)), k9, k10, q11, q12, hb⟩
    · subst hnew
      go_simp
      exact hK _ _ ⟨_, _, _, _, _, _, _, _, _, _, _, _, _, _, _, _, _, _, _, _, _, _, _, _, u1, u2, u3, u4, rfl, rfl, (by first | exact m0 | exact (fun _ => rfl)), (by first | exact m1 | exact (fun _ => rfl)), (fun _ => rfl), (by first | exact m3 | exact (fun _ => rfl)), (by first | exact m4 | exact (fun _ => rfl)), (by first | exact k5 | exact (fun h => ⟨rfl, (k5 h).2⟩)), (by first | exact m6 | exact (fun h => ⟨(m6 h).1, rfl⟩)), (by first | exact m7 | exact (fun h => ⟨(m7 h).1, rfl⟩)), (by first | exact m8 | exact (fun h => ⟨(m8 h).1, rfl⟩)), k9, k10, q11, q12, hb⟩
    · have hl1 : l1 = true := (by simp [hd])
      have hl2 : l2 = true := (by simp [hd])
      subst hnew
      obtain rfl := m1 hl1
      obtain rfl := m2 hl2
      go_simp
      exact hK _ _ ⟨_, _, _, _, _, _, _, _, _, _, _, _, _, _, _, _, _, _, _, _, _, _, _, _, u1, u2, u3, u4, rfl, rfl, (by first | exact m0 | exact (fun _ => rfl)), (by first | exact m1 | exact (fun _ => rfl)), (by first | exact m2 | exact (fun _ => rfl)), (fun _ => rfl), (by first | exact m4 | exact (fun _ => rfl)), (by first | exact k5 | exact (fun h => ⟨rfl, (k5 h).2⟩)), (by first | exact m6 | exact (fun h => ⟨(m6 h).1, rfl⟩)), (by first | exact m7 | exact (fun h => ⟨(m7 h).1, rfl⟩)), (by first | exact m8 | exact (fun h => ⟨(m8 h).1, rfl⟩)), k9, k10, q11, q12, hb⟩
    · have hl3 : l3 = true := (by simp [hd])
      subst hnew
      obtain rfl := m3 hl3
      have ca0 : w'.cell? ⟨b, off + k * 2, none⟩ = some (.int .i64 kk) := ((hb.cell (p := ⟨b, off + k * 2, none⟩) XA.out.2.2).trans XA.out.1)
      have ca1 : w'.cell? ⟨b, off + k * 2 + 1, none⟩ = some (.int .i64 nn) := ((hb.cell (p := ⟨b, off + k * 2 + 1, none⟩) XA.out.2.2).trans XA.out.2.1)
      go_simp
      exact hK _ _ ⟨_, _, _, _, _, _, _, _, _, _, _, _, _, _, _, _, _, _, _, _, _, _, _, _, u1, u2, u3, u4, rfl, rfl, (by first | exact m0 | exact (fun _ => rfl)), (by first | exact m1 | exact (fun _ => rfl)), (by first | exact m2 | exact (fun _ => rfl)), (by first | exact m3 | exact (fun _ => rfl)), (fun _ => rfl), (by first | exact k5 | exact (fun h => ⟨rfl, (k5 h).2⟩)), (by first | exact m6 | exact (fun h => ⟨(m6 h).1, rfl⟩)), (by first | exact m7 | exact (fun h => ⟨(m7 h).1, rfl⟩)), (by first | exact m8 | exact (fun h => ⟨(m8 h).1, rfl⟩)), k9, k10, q11, q12, hb⟩
    · have hl0 : l0 = true := (by simp [hd])
      have hl4 : l4 = true := (by simp [hd])
      subst hnew
      obtain rfl := m0 hl0
      obtain rfl := m4 hl4
      obtain rfl : l11 = false := (by cases h : l11; rfl; exact absurd (m7 (q11 h).2).1 (by simp))
      obtain rfl : l12 = false := (by cases h : l12; rfl; exact absurd (m8 (q12 h).2).1 (by simp))
      have r1 : OwnI w' B v1 ss := own_keep HO.out.1 fun j _ hl => hb.block j hl
      have r2 : OwnP w' B v2 ps := own_keep HO.out.2.1 fun j _ hl => hb.block j hl
      have r3 : OwnI w' B v3 qs := own_keep HO.out.2.2 fun j _ hl => hb.block j hl
      go_simp
      go_at_call 45
      refine (l04Step_any T e kk nn v1 v2 v3 ss ps qs w' OK.out r1.read (OwnP.read r2) r3.read).mono ?_
      rw [← HRS.out]
      rintro r w'' ⟨y1, y2, y3, y4, rfl, o1, o2, o3, o4, b2⟩
      have nb : B ≤ w'.heap.size := Nat.le_trans HB.out hb.size
      have up1 : OwnI w'' B y1 R.ss := (by rcases o1 with ⟨e1, e2⟩ | o1; (rw [e1, e2]; exact own_keep r1 fun j _ hl => b2.block j hl); exact own_mono o1 nb)
      have up2 : OwnP w'' B y2 R.ps := (by rcases o2 with ⟨e1, e2⟩ | o2; (rw [e1, e2]; exact own_keep r2 fun j _ hl => b2.block j hl); exact own_mono o2 nb)
      have up3 : OwnI w'' B y3 R.qs := (by rcases o3 with ⟨e1, e2⟩ | o3; (rw [e1, e2]; exact own_keep r3 fun j _ hl => b2.block j hl); exact own_mono o3 nb)
      exact hK _ _ ⟨_, _, _, _, _, _, _, _, _, _, _, _, _, _, _, _, _, _, _, _, _, _, _, _, y1, y2, y3, y4, rfl, rfl, (by first | exact m0 | exact (fun _ => rfl)), (by first | exact m1 | exact (fun _ => rfl)), (by first | exact m2 | exact (fun _ => rfl)), (by first | exact m3 | exact (fun _ => rfl)), (by first | exact m4 | exact (fun _ => rfl)), (fun _ => ⟨rfl, up1, up2, up3, own_mono o4 (by have := hb.size; have := HB.out; omega), fun h => (by cases h)⟩), (fun h => absurd (m6 h).1 (by simp)), (fun h => absurd (m7 h).1 (by simp)), (fun h => absurd (m8 h).1 (by simp)), (fun h => (by obtain ⟨Y1, eY, hY, hh⟩ := k9 h; exact ⟨Y1, eY, hY, (Below.block b2 Y1 (slab_lt hh)).trans hh⟩)), (fun h => (by obtain ⟨Y1, eY, hY, hh⟩ := k10 h; exact ⟨Y1, eY, hY, (Below.block b2 Y1 (slab_lt hh)).trans hh⟩)), (fun h => absurd (m7 (q11 h).2).1 (by simp)), (fun h => absurd (m8 (q12 h).2).1 (by simp)), (hb.trans (Below.mono b2 hb.size))⟩
    · have hl5 : l5 = true := (by simp [hd])
      subst hnew
      obtain ⟨rfl, _⟩ := k5 hl5
      go_simp
      exact hK _ _ ⟨_, _, _, _, _, _, _, _, _, _, _, _, _, _, _, _, _, _, _, _, _, _, _, _, u1, u2, u3, u4, rfl, rfl, (by first | exact m0 | exact (fun _ => rfl)), (by first | exact m1 | exact (fun _ => rfl)), (by first | exact m2 | exact (fun _ => rfl)), (by first | exact m3 | exact (fun _ => rfl)), (by first | exact m4 | exact (fun _ => rfl)), (by first | exact k5 | exact (fun h => ⟨rfl, (k5 h).2⟩)), (fun _ => ⟨hl5, rfl⟩), (by first | exact m7 | exact (fun h => ⟨(m7 h).1, rfl⟩)), (by first | exact m8 | exact (fun h => ⟨(m8 h).1, rfl⟩)), k9, k10, q11, q12, hb⟩
    · have hl5 : l6 = true := (by simp [hd])
      subst hnew
      obtain ⟨h4, rfl⟩ := m6 hl5
      go_simp
      exact hK _ _ ⟨_, _, _, _, _, _, _, _, _, _, _, _, _, _, _, _, _, _, _, _, _, _, _, _, u1, u2, u3, u4, rfl, rfl, (by first | exact m0 | exact (fun _ => rfl)), (by first | exact m1 | exact (fun _ => rfl)), (by first | exact m2 | exact (fun _ => rfl)), (by first | exact m3 | exact (fun _ => rfl)), (by first | exact m4 | exact (fun _ => rfl)), (by first | exact k5 | exact (fun h => ⟨rfl, (k5 h).2⟩)), (by first | exact m6 | exact (fun h => ⟨(m6 h).1, rfl⟩)), (fun _ => ⟨h4, rfl⟩), (by first | exact m8 | exact (fun h => ⟨(m8 h).1, rfl⟩)), k9, k10, (fun h => ⟨(q11 h).1, rfl⟩), q12, hb⟩
    · have hl5 : l6 = true := (by simp [hd])
      subst hnew
      obtain ⟨h4, rfl⟩ := m6 hl5
      go_simp
      exact hK _ _ ⟨_, _, _, _, _, _, _, _, _, _, _, _, _, _, _, _, _, _, _, _, _, _, _, _, u1, u2, u3, u4, rfl, rfl, (by first | exact m0 | exact (fun _ => rfl)), (by first | exact m1 | exact (fun _ => rfl)), (by first | exact m2 | exact (fun _ => rfl)), (by first | exact m3 | exact (fun _ => rfl)), (by first | exact m4 | exact (fun _ => rfl)), (by first | exact k5 | exact (fun h => ⟨rfl, (k5 h).2⟩)), (by first | exact m6 | exact (fun h => ⟨(m6 h).1, rfl⟩)), (by first | exact m7 | exact (fun h => ⟨(m7 h).1, rfl⟩)), (fun _ => ⟨h4, rfl⟩), k9, k10, q11, (fun h => ⟨(q12 h).1, rfl⟩), hb⟩
    · obtain rfl : l11 = false := (by cases h : l11; rfl; exact absurd (q11 h).1 (by simp [hnew]))
      subst hnew
      go_simp
      exact hK _ _ ⟨_, _, _, _, _, _, _, _, _, _, _, _, _, _, _, _, _, _, _, _, _, _, _, _, u1, u2, u3, u4, rfl, rfl, (by first | exact m0 | exact (fun _ => rfl)), (by first | exact m1 | exact (fun _ => rfl)), (by first | exact m2 | exact (fun _ => rfl)), (by first | exact m3 | exact (fun _ => rfl)), (by first | exact m4 | exact (fun _ => rfl)), (fun h => ⟨(by first | exact (k5 h).1 | rfl), (k5 h).2.keep fun j _ hl => Below.block ((Below.refl _ _).alloc (Nat.le_refl _) _) j hl⟩), (by first | exact m6 | exact (fun h => ⟨(m6 h).1, rfl⟩)), (by first | exact m7 | exact (fun h => ⟨(m7 h).1, rfl⟩)), (by first | exact m8 | exact (fun h => ⟨(m8 h).1, rfl⟩)), (fun _ => ⟨_, rfl, hb.size, heap_new' _ _ _ rfl⟩), (fun h => (by obtain ⟨Y1, eY, hY, hh⟩ := k10 h; exact ⟨Y1, eY, hY, (Below.block ((Below.refl _ _).alloc (Nat.le_refl _) _) Y1 (slab_lt hh)).trans hh⟩)), (fun h => (by cases h)), q12, (hb.alloc hb.size _)⟩
    · obtain rfl : l12 = false := (by cases h : l12; rfl; exact absurd (q12 h).1 (by simp [hnew]))
      subst hnew
      go_simp
      exact hK _ _ ⟨_, _, _, _, _, _, _, _, _, _, _, _, _, _, _, _, _, _, _, _, _, _, _, _, u1, u2, u3, u4, rfl, rfl, (by first | exact m0 | exact (fun _ => rfl)), (by first | exact m1 | exact (fun _ => rfl)), (by first | exact m2 | exact (fun _ => rfl)), (by first | exact m3 | exact (fun _ => rfl)), (by first | exact m4 | exact (fun _ => rfl)), (fun h => ⟨(by first | exact (k5 h).1 | rfl), (k5 h).2.keep fun j _ hl => Below.block ((Below.refl _ _).alloc (Nat.le_refl _) _) j hl⟩), (by first | exact m6 | exact (fun h => ⟨(m6 h).1, rfl⟩)), (by first | exact m7 | exact (fun h => ⟨(m7 h).1, rfl⟩)), (by first | exact m8 | exact (fun h => ⟨(m8 h).1, rfl⟩)), (fun h => (by obtain ⟨Y1, eY, hY, hh⟩ := k9 h; exact ⟨Y1, eY, hY, (Below.block ((Below.refl _ _).alloc (Nat.le_refl _) _) Y1 (slab_lt hh)).trans hh⟩)), (fun _ => ⟨_, rfl, hb.size, heap_new' _ _ _ rfl⟩), q11, (fun h => (by cases h)), (hb.alloc hb.size _)⟩
    · have h8 : l9 = true := (by simp [hd])
      have h6 : l7 = true := (by simp [hd])
      obtain ⟨h4, rfl⟩ := m7 h6
      subst hnew
      obtain ⟨Y1, rfl, hYn, hY0⟩ := k9 h8
      have hU := (k5 h4).2
      obtain ⟨b1, n1, d1, rfl⟩ := own_shq hU.1
      obtain ⟨b2, n2, d2, rfl⟩ := own_shq hU.2.1
      obtain ⟨b3, n3, d3, rfl⟩ := own_shq hU.2.2.1
      obtain ⟨b4, n4, d4, rfl⟩ := own_shq hU.2.2.2.1
      replace hY0 : w'.heap[Y1]? = some (.cells #[.int .i64 0, .int .i64 0, .slice none 0 0, .slice none 0 0, .slice none 0 0] 29 (0, 0)) := hY0
      have cy0 : w'.cell? ⟨Y1, 0, none⟩ = some (.int .i64 0) := (by simp [World.cell?, hY0])
      have cy1 : w'.cell? ⟨Y1, 1, none⟩ = some (.int .i64 0) := (by simp [World.cell?, hY0])
      have cy2 : w'.cell? ⟨Y1, 2, none⟩ = some (.slice none 0 0) := (by simp [World.cell?, hY0])
      have cy3 : w'.cell? ⟨Y1, 3, none⟩ = some (.slice none 0 0) := (by simp [World.cell?, hY0])
      have cy4 : w'.cell? ⟨Y1, 4, none⟩ = some (.slice none 0 0) := (by simp [World.cell?, hY0])
      have fy : ∀ o, w'.frozen? ⟨Y1, o, none⟩ = false := fun o => (by simp [World.frozen?, hY0])
      go_simp
      exact hK _ _ ⟨_, _, _, _, _, _, _, _, _, _, _, _, _, _, _, _, _, _, _, _, _, _, _, _, _, _, _, _, rfl, rfl, (by first | exact m0 | exact (fun _ => rfl) | exact (fun _ => ⟨h4, rfl⟩)), (by first | exact m1 | exact (fun _ => rfl) | exact (fun _ => ⟨h4, rfl⟩)), (by first | exact m2 | exact (fun _ => rfl) | exact (fun _ => ⟨h4, rfl⟩)), (by first | exact m3 | exact (fun _ => rfl) | exact (fun _ => ⟨h4, rfl⟩)), (by first | exact m4 | exact (fun _ => rfl) | exact (fun _ => ⟨h4, rfl⟩)), (fun h => ⟨(by first | exact (k5 h).1 | rfl), O4.keepT (k5 h).2 fun j hh => five_other _ _ _ _ _ _ _ (by intro hq; subst hq; rcases hh with ⟨cs, hh⟩ | ⟨cs, hh⟩ <;> (rw [hY0] at hh; cases hh))⟩), (by first | exact m6 | exact (fun _ => rfl) | exact (fun _ => ⟨h4, rfl⟩)), (by first | exact m7 | exact (fun _ => rfl) | exact (fun _ => ⟨h4, rfl⟩)), (by first | exact m8 | exact (fun _ => rfl) | exact (fun _ => ⟨h4, rfl⟩)), (fun _ => ⟨_, rfl, hYn, (five_at hY0)⟩), (fun h => (by obtain ⟨Y', eY, hY, hh⟩ := k10 h; exact ⟨Y', eY, hY, (five_other _ _ _ _ _ _ _ (by intro hq; subst hq; rw [hY0] at hh; injection hh with hh; injection hh with _ h2; exact absurd h2 (by decide))).trans hh⟩)), (fun _ => ⟨h8, h6⟩), q12, (five_below hb hYn _ _ _ _ _)⟩
    · have h8 : l10 = true := (by simp [hd])
      have h6 : l8 = true := (by simp [hd])
      obtain ⟨h4, rfl⟩ := m8 h6
      subst hnew
      obtain ⟨Y1, rfl, hYn, hY0⟩ := k10 h8
      have hU := (k5 h4).2
      obtain ⟨b1, n1, d1, rfl⟩ := own_shq hU.1
      obtain ⟨b2, n2, d2, rfl⟩ := own_shq hU.2.1
      obtain ⟨b3, n3, d3, rfl⟩ := own_shq hU.2.2.1
      obtain ⟨b4, n4, d4, rfl⟩ := own_shq hU.2.2.2.1
      replace hY0 : w'.heap[Y1]? = some (.cells #[.int .i64 0, .slice none 0 0] 37 (0, 0)) := hY0
      have cy0 : w'.cell? ⟨Y1, 0, none⟩ = some (.int .i64 0) := (by simp [World.cell?, hY0])
      have cy1 : w'.cell? ⟨Y1, 1, none⟩ = some (.slice none 0 0) := (by simp [World.cell?, hY0])
      have fy : ∀ o, w'.frozen? ⟨Y1, o, none⟩ = false := fun o => (by simp [World.frozen?, hY0])
      go_simp
      exact hK _ _ ⟨_, _, _, _, _, _, _, _, _, _, _, _, _, _, _, _, _, _, _, _, _, _, _, _, _, _, _, _, rfl, rfl, (by first | exact m0 | exact (fun _ => rfl) | exact (fun _ => ⟨h4, rfl⟩)), (by first | exact m1 | exact (fun _ => rfl) | exact (fun _ => ⟨h4, rfl⟩)), (by first | exact m2 | exact (fun _ => rfl) | exact (fun _ => ⟨h4, rfl⟩)), (by first | exact m3 | exact (fun _ => rfl) | exact (fun _ => ⟨h4, rfl⟩)), (by first | exact m4 | exact (fun _ => rfl) | exact (fun _ => ⟨h4, rfl⟩)), (fun h => ⟨(by first | exact (k5 h).1 | rfl), O4.keepT (k5 h).2 fun j hh => two_other _ _ _ _ (by intro hq; subst hq; rcases hh with ⟨cs, hh⟩ | ⟨cs, hh⟩ <;> (rw [hY0] at hh; cases hh))⟩), (by first | exact m6 | exact (fun _ => rfl) | exact (fun _ => ⟨h4, rfl⟩)), (by first | exact m7 | exact (fun _ => rfl) | exact (fun _ => ⟨h4, rfl⟩)), (by first | exact m8 | exact (fun _ => rfl) | exact (fun _ => ⟨h4, rfl⟩)), (fun h => (by obtain ⟨Y', eY, hY, hh⟩ := k9 h; exact ⟨Y', eY, hY, (two_other _ _ _ _ (by intro hq; subst hq; rw [hY0] at hh; injection hh with hh; injection hh with _ h2; exact absurd h2 (by decide))).trans hh⟩)), (fun _ => ⟨_, rfl, hYn, (two_at hY0)⟩), q11, (fun _ => ⟨h8, h6⟩), (two_below hb hYn _ _)⟩
  case hend =>
    rintro lst a w' hsz ⟨l0, l1, l2, l3, l4, l5, l6, l7, l8, l9, l10, l11, l12, x41, x42, x43, x44, x45, x46, x40, x47, x48, x11, x12, u1, u2, u3, u4, rfl, rfl, m0, m1, m2, m3, m4, k5, m6, m7, m8, k9, k10, q11, q12, hb⟩ hrd
    have hall := ready_done (by kernel_rfl) hsz hrd
    have e0 : l11 = true := hall 11 (by decide)
    have e1 : l12 = true := hall 12 (by decide)
    have e4 : l5 = true := hall 5 (by decide)
    subst e0 e1 e4
    obtain ⟨Y1, rfl, hY, hh7⟩ := k9 (hall 9 (by decide))
    obtain ⟨Z1, rfl, hZ, hh8⟩ := k10 (hall 10 (by decide))
    rw [if_pos rfl] at hh7 hh8
    exact hQ _ _ _ _ _ _ _ _ _ Y1 Z1 u1 u2 u3 u4 w' hh7 hh8 hY hZ (k5 rfl).2 hb
end Go.Proofs.Ytaklphoplfofbaa
namespace Go.Proofs.Ytaklphoplfofbaa
open Go.RowKit

theorem OwnR.made (w : World) (B : Nat) (hB : B ≤ w.heap.size) : OwnR (w.alloc (.cells #[] 37)) B (.slice (some ⟨w.heap.size, 0, none⟩) 0 0) [] := ⟨rfl, .inr ⟨w.heap.size, 0, #[], rfl, hB, heap_new' _ _ _ rfl, Nat.le_refl _, Nat.zero_le _, rfl, rfl⟩⟩
theorem OwnP.made (w : World) (B : Nat) (hB : B ≤ w.heap.size) : OwnP (w.alloc (.cells #[] 88)) B (.slice (some ⟨w.heap.size, 0, none⟩) 0 0) [] := ⟨rfl, .inr ⟨w.heap.size, 0, #[], rfl, hB, heap_new' _ _ _ rfl, Nat.le_refl _, Nat.zero_le _, rfl, rfl⟩⟩
theorem diffE {w : World} {B e m n B' e' m' n' : Nat} {v v' : Value} {xs ys : List Value} (h : w.ownsRow B e m v n xs) (h' : w.ownsRow B' e' m' v' n' ys) (hne : e ≠ e') {j : Nat} (a : v.ownBlock = some j) (b : v'.ownBlock = some j) : False := by
  rcases h'.2 with ⟨rfl, _⟩ | ⟨g, cap, cur, rfl, _, hh, _⟩
  · cases b
  · cases b
    exact own_neq h hh hne a rfl
theorem cellsR_snoc (l : List Rp) (p : Rp) : cellsR (l ++ [p]) = cellsR l ++ [.int .i64 p.1, p.2] := by simp [cellsR]
theorem nthR_snoc (l : List Rp) (p : Rp) (i : Nat) (h : i ≤ l.length) : nthR (l ++ [p]) i = if i < l.length then nthR l i else p := by
  unfold nthR
  rw [List.getD_eq_getElem?_getD, List.getD_eq_getElem?_getD]
  by_cases hl : i < l.length
  · rw [if_pos hl, List.getElem?_append_left hl]
  · obtain rfl : i = l.length := by omega
    rw [if_neg hl]
    simp

set_option maxRecDepth 100000 in
theorem specNew_bad (n : Int) (w : World) (h : ¬ (1 ≤ n ∧ n ≤ 64)) : Calls Try.prog 17 #[.int .i64 n] w fun e w' => e = .returned (.tuple #[SV 0 0 (.slice none 0 0) (.slice none 0 0) (.slice none 0 0), .int .i64 4]) ∧ Below w.heap.size w w' := by
  have h : inB n 1 64 = false := decide_eq_false (by omega)
  go_enter Try.func17, Try.ntmps17
  go_wp2_with fail
  refine (l01In_any n 1 64 _).mono ?_
  rw [h]
  rintro e w1 ⟨rfl, hq⟩
  obtain rfl := hq.symm
  go_wp2
  exact bodyPost_ret (v := .tuple #[SV 0 0 (.slice none 0 0) (.slice none 0 0) (.slice none 0 0), .int .i64 4]) (by simp [results, Try.results17, go_sem]) rfl ⟨rfl, (Below.refl _ _).alloc (Nat.le_refl _) _⟩
set_option maxRecDepth 100000 in
theorem specNew_ok (n : Int) (w : World) (h : 1 ≤ n ∧ n ≤ 64) : Calls Try.prog 17 #[.int .i64 n] w fun e w' => ∃ v1 v2 v3, e = .returned (.tuple #[SV n 0 v1 v2 v3, .int .i64 0]) ∧ OwnI w' w.heap.size v1 [] ∧ OwnP w' w.heap.size v2 [] ∧ OwnI w' w.heap.size v3 [] ∧ Below w.heap.size w w' := by
  have h : inB n 1 64 = true := decide_eq_true (by omega)
  go_enter Try.func17, Try.ntmps17
  go_wp2_with fail
  refine (l01In_any n 1 64 _).mono ?_
  rw [h]
  rintro e w1 ⟨rfl, hq⟩
  obtain rfl := hq.symm
  go_wp2
  refine bodyPost_ret (v := .tuple #[SV n 0 (.slice (some ⟨w.heap.size + 1, 0, none⟩) 0 0) (.slice (some ⟨w.heap.size + 1 + 1, 0, none⟩) 0 0) (.slice (some ⟨w.heap.size + 1 + 1 + 1, 0, none⟩) 0 0), .int .i64 0]) (by simp [results, Try.results17, go_sem]) rfl ⟨_, _, _, rfl, ⟨rfl, .inr ⟨_, 0, #[], rfl, by omega, ?_, Nat.le_refl _, Nat.zero_le _, rfl, rfl⟩⟩, ⟨rfl, .inr ⟨_, 0, #[], rfl, by omega, ?_, Nat.le_refl _, Nat.zero_le _, rfl, rfl⟩⟩, ⟨rfl, .inr ⟨_, 0, #[], rfl, by omega, ?_, Nat.le_refl _, Nat.zero_le _, rfl, rfl⟩⟩, ((((Below.refl _ _).alloc (Nat.le_refl _) _).alloc (by simp) _).alloc (by simp; omega) _).alloc (by simp; omega) _⟩
  · exact (heap_old _ _ _ (by simp)).trans ((heap_old _ _ _ (by simp)).trans (heap_new' _ _ _ (by simp)))
  · exact (heap_old _ _ _ (by simp)).trans (heap_new' _ _ _ (by simp))
  · exact heap_new' _ _ _ (by simp)

set_option maxRecDepth 100000 in
theorem specRun_long (tot : Int) (a : Option Addr) (n c : Nat) (w : World) (h1 : 4096 < n) (h2 : n ≤ 1048576) : Calls Try.prog 12 #[.int .i64 tot, .slice a n c] w (zRun 2 false w) := by
  have hI : (4096 : Int) < n := by omega
  go_enter Try.func12, Try.ntmps12
  go_wp2
  refine bodyPost_ret (v := .tuple #[SV 0 0 (.slice none 0 0) (.slice none 0 0) (.slice none 0 0), .slice (some ⟨w.heap.size + 1, 0, none⟩) 0 0, .int .i64 2]) (by simp [results, Try.results12, go_sem]) rfl (zRun_of ?_ ?_)
  · exact ⟨rfl, .inr ⟨_, 0, #[], rfl, by omega, heap_new' _ _ _ (by simp), Nat.le_refl _, Nat.zero_le _, rfl, rfl⟩⟩
  · exact ((Below.refl _ _).alloc (Nat.le_refl _) _).alloc (by simp) _

set_option maxRecDepth 100000 in
theorem specRun_range (tot : Int) (a : Option Addr) (n c : Nat) (w : World) (h1 : n ≤ 4096) (h2 : ¬ (1 ≤ tot ∧ tot ≤ 64)) : Calls Try.prog 12 #[.int .i64 tot, .slice a n c] w (zRun 4 false w) := by
  have hI : ¬ (4096 : Int) < n := by omega
  obtain ⟨W0, hW0⟩ : ∃ W0, w.alloc (.cells #[.int .i64 0, .int .i64 0, .slice none 0 0, .slice none 0 0, .slice none 0 0] 29) = W0 := ⟨_, rfl⟩
  have hB : Below w.heap.size w W0 := hW0 ▸ (Below.refl _ _).alloc (Nat.le_refl _) _
  have X0 : Hid (W0.heap[w.heap.size]? = some (.cells #[.int .i64 0, .int .i64 0, .slice none 0 0, .slice none 0 0, .slice none 0 0] 29 (0, 0))) := (hW0 ▸ heap_new' _ _ _ rfl : W0.heap[w.heap.size]? = _)
  go_enter Try.func12, Try.ntmps12
  go_wp2_with fail
  refine (specNew_bad tot W0 h2).mono ?_
  rintro r w1 ⟨rfl, b1⟩
  
  
  
  have x1 := keepBlk X0.out b1 (slab_lt X0.out)
  have cr0w1 : w1.cell? ⟨w.heap.size, 0, none⟩ = some (.int .i64 0) := (by simp [World.cell?, x1])
  have cr1w1 : w1.cell? ⟨w.heap.size, 1, none⟩ = some (.int .i64 0) := (by simp [World.cell?, x1])
  have cr2w1 : w1.cell? ⟨w.heap.size, 2, none⟩ = some (.slice none 0 0) := (by simp [World.cell?, x1])
  have cr3w1 : w1.cell? ⟨w.heap.size, 3, none⟩ = some (.slice none 0 0) := (by simp [World.cell?, x1])
  have cr4w1 : w1.cell? ⟨w.heap.size, 4, none⟩ = some (.slice none 0 0) := (by simp [World.cell?, x1])
  have frw1 : ∀ o, w1.frozen? ⟨w.heap.size, o, none⟩ = false := fun o => (by simp [World.frozen?, x1])
  have hB1 := hB.trans (b1.mono hB.size)
  have n1 := slab_lt x1
  have X1 : Hid (w1.heap[w.heap.size]? = some (.cells #[.int .i64 0, .int .i64 0, .slice none 0 0, .slice none 0 0, .slice none 0 0] 29 (0, 0))) := x1
  clear x1 X0 b1
  go_wp2
  obtain ⟨q0, q1, q2, q3, q4⟩ := box5_of (w := (((((((w1.setCell ⟨w.heap.size, 0, none⟩ (.int .i64 0)).setCell ⟨w.heap.size, 1, none⟩ (.int .i64 0)).setCell ⟨w.heap.size, 2, none⟩ (.slice none 0 0)).setCell ⟨w.heap.size, 3, none⟩ (.slice none 0 0)).setCell ⟨w.heap.size, 4, none⟩ (.slice none 0 0)).alloc (.cells #[.int .i64 0, .int .i64 0, .slice none 0 0, .slice none 0 0, .slice none 0 0] 29)).alloc (.cells #[] 37))) ((heap_old _ _ _ (by simp [World.setCell]; omega)).trans ((heap_old _ _ _ (by simp [World.setCell]; omega)).trans (five_at X1.out)))
  have bF : Below w.heap.size w (((((((w1.setCell ⟨w.heap.size, 0, none⟩ (.int .i64 0)).setCell ⟨w.heap.size, 1, none⟩ (.int .i64 0)).setCell ⟨w.heap.size, 2, none⟩ (.slice none 0 0)).setCell ⟨w.heap.size, 3, none⟩ (.slice none 0 0)).setCell ⟨w.heap.size, 4, none⟩ (.slice none 0 0)).alloc (.cells #[.int .i64 0, .int .i64 0, .slice none 0 0, .slice none 0 0, .slice none 0 0] 29)).alloc (.cells #[] 37)) := ((five_below hB1 (Nat.le_refl _) _ _ _ _ _).alloc (by simp [World.setCell]; omega) _).alloc (by simp [World.setCell]; omega) _
  exact bodyPost_ret (v := .tuple #[SV 0 0 (.slice none 0 0) (.slice none 0 0) (.slice none 0 0), .slice (some ⟨w1.heap.size + 1, 0, none⟩) 0 0, .int .i64 4]) (by go_simp; simp [results, Try.results12, go_sem, q0, q1, q2, q3, q4]) rfl (zRun_of ⟨rfl, .inr ⟨_, 0, #[], rfl, by omega, heap_new' _ _ _ (by simp [World.setCell]), Nat.le_refl _, Nat.zero_le _, rfl, rfl⟩⟩ bF)

set_option maxRecDepth 100000 in
theorem specRun_many (tot : Int) (a : Option Addr) (n c : Nat) (w : World) (h1 : n ≤ 4096) (h3 : 200 < n) (h2 : 1 ≤ tot ∧ tot ≤ 64) : Calls Try.prog 12 #[.int .i64 tot, .slice a n c] w (zRun 6 false w) := by
  have hI : ¬ (4096 : Int) < n := by omega
  have hI2 : (200 : Int) < n := by omega
  obtain ⟨W0, hW0⟩ : ∃ W0, w.alloc (.cells #[.int .i64 0, .int .i64 0, .slice none 0 0, .slice none 0 0, .slice none 0 0] 29) = W0 := ⟨_, rfl⟩
  have hB : Below w.heap.size w W0 := hW0 ▸ (Below.refl _ _).alloc (Nat.le_refl _) _
  have X0 : Hid (W0.heap[w.heap.size]? = some (.cells #[.int .i64 0, .int .i64 0, .slice none 0 0, .slice none 0 0, .slice none 0 0] 29 (0, 0))) := (hW0 ▸ heap_new' _ _ _ rfl : W0.heap[w.heap.size]? = _)
  go_enter Try.func12, Try.ntmps12
  go_wp2_with fail
  refine (specNew_ok tot W0 h2).mono ?_
  rintro r w1 ⟨v1, v2, v3, rfl, o1, o2, o3, b1⟩
  obtain ⟨a1, n1', d1, rfl⟩ := own_shq o1
  obtain ⟨a2, n2', d2, rfl⟩ := own_shq o2
  obtain ⟨a3, n3', d3, rfl⟩ := own_shq o3
  have x1 := keepBlk X0.out b1 (slab_lt X0.out)
  have cr0w1 : w1.cell? ⟨w.heap.size, 0, none⟩ = some (.int .i64 0) := (by simp [World.cell?, x1])
  have cr1w1 : w1.cell? ⟨w.heap.size, 1, none⟩ = some (.int .i64 0) := (by simp [World.cell?, x1])
  have cr2w1 : w1.cell? ⟨w.heap.size, 2, none⟩ = some (.slice none 0 0) := (by simp [World.cell?, x1])
  have cr3w1 : w1.cell? ⟨w.heap.size, 3, none⟩ = some (.slice none 0 0) := (by simp [World.cell?, x1])
  have cr4w1 : w1.cell? ⟨w.heap.size, 4, none⟩ = some (.slice none 0 0) := (by simp [World.cell?, x1])
  have frw1 : ∀ o, w1.frozen? ⟨w.heap.size, o, none⟩ = false := fun o => (by simp [World.frozen?, x1])
  have hB1 := hB.trans (b1.mono hB.size)
  have n1 := slab_lt x1
  have X1 : Hid (w1.heap[w.heap.size]? = some (.cells #[.int .i64 0, .int .i64 0, .slice none 0 0, .slice none 0 0, .slice none 0 0] 29 (0, 0))) := x1
  clear x1 X0 b1
  go_wp2
  obtain ⟨q0, q1, q2, q3, q4⟩ := box5_of (w := (((((((w1.setCell ⟨w.heap.size, 0, none⟩ (.int .i64 0)).setCell ⟨w.heap.size, 1, none⟩ (.int .i64 0)).setCell ⟨w.heap.size, 2, none⟩ (.slice none 0 0)).setCell ⟨w.heap.size, 3, none⟩ (.slice none 0 0)).setCell ⟨w.heap.size, 4, none⟩ (.slice none 0 0)).alloc (.cells #[.int .i64 tot, .int .i64 0, .slice a1 n1' d1, .slice a2 n2' d2, .slice a3 n3' d3] 29)).alloc (.cells #[] 37))) ((heap_old _ _ _ (by simp [World.setCell]; omega)).trans ((heap_old _ _ _ (by simp [World.setCell]; omega)).trans (five_at X1.out)))
  have bF : Below w.heap.size w (((((((w1.setCell ⟨w.heap.size, 0, none⟩ (.int .i64 0)).setCell ⟨w.heap.size, 1, none⟩ (.int .i64 0)).setCell ⟨w.heap.size, 2, none⟩ (.slice none 0 0)).setCell ⟨w.heap.size, 3, none⟩ (.slice none 0 0)).setCell ⟨w.heap.size, 4, none⟩ (.slice none 0 0)).alloc (.cells #[.int .i64 tot, .int .i64 0, .slice a1 n1' d1, .slice a2 n2' d2, .slice a3 n3' d3] 29)).alloc (.cells #[] 37)) := ((five_below hB1 (Nat.le_refl _) _ _ _ _ _).alloc (by simp [World.setCell]; omega) _).alloc (by simp [World.setCell]; omega) _
  exact bodyPost_ret (v := .tuple #[SV 0 0 (.slice none 0 0) (.slice none 0 0) (.slice none 0 0), .slice (some ⟨w1.heap.size + 1, 0, none⟩) 0 0, .int .i64 6]) (by go_simp; simp [results, Try.results12, go_sem, q0, q1, q2, q3, q4]) rfl (zRun_of ⟨rfl, .inr ⟨_, 0, #[], rfl, by omega, heap_new' _ _ _ (by simp [World.setCell]), Nat.le_refl _, Nat.zero_le _, rfl, rfl⟩⟩ bF)

/-- k rounds of spec's run are done: the space in block Y, the replies at v. -/
def InvQ (w : World) (T : Nat) (acts : List P2) (Y : Nat) (k : Nat) (v : Value) (wr : World) : Prop :=
  ∃ (v1 v2 v3 : Value) (us : List Rp),
  wr.heap[Y]? = some (.cells #[.int .i64 T, .int .i64 (stN T acts k).e, v1, v2, v3] 29 (0, 0)) ∧ wr.heap[w.heap.size]? = some (.cells #[.int .i64 0, .int .i64 0, .slice none 0 0, .slice none 0 0, .slice none 0 0] 29 (0, 0)) ∧
  (OwnI wr w.heap.size v1 (stN T acts k).ss ∧ OwnP wr w.heap.size v2 (stN T acts k).ps ∧ OwnI wr w.heap.size v3 (stN T acts k).qs) ∧
  OwnR wr w.heap.size v us ∧ us.length = k ∧ (∀ i, i < k → (nthR us i).1 = (rpN T acts i).1 ∧ OwnI wr w.heap.size (nthR us i).2 (rpN T acts i).2) ∧ w.heap.size < Y ∧ Below w.heap.size w wr
theorem InvQ.step {w : World} {T : Nat} {acts : List P2} {Y k : Nat} {v : Value} {wr w3 w5 : World} {v1 v2 v3 u1 u2 u3 u4 v' : Value} {us : List Rp}
    (x1 : wr.heap[Y]? = some (.cells #[.int .i64 T, .int .i64 (stN T acts k).e, v1, v2, v3] 29 (0, 0))) (x2 : wr.heap[w.heap.size]? = some (.cells #[.int .i64 0, .int .i64 0, .slice none 0 0, .slice none 0 0, .slice none 0 0] 29 (0, 0)))
    (x4 : OwnR wr w.heap.size v us) (x5 : us.length = k) (x6 : ∀ i, i < k → (nthR us i).1 = (rpN T acts i).1 ∧ OwnI wr w.heap.size (nthR us i).2 (rpN T acts i).2) (x7 : w.heap.size < Y) (x8 : Below w.heap.size w wr)
    (b3 : Below wr.heap.size wr w3) (o : O4 false w3 w.heap.size u1 u2 u3 u4 (stN T acts (k + 1)))
    (ho2 : w5.ownsRow w.heap.size 37 2 v' (us.length + 1) (cellsR us ++ [.int .i64 (stN T acts (k + 1)).c, u4])) (g2 : ((((((w3.setCell ⟨Y, 0, none⟩ (.int .i64 T)).setCell ⟨Y, 1, none⟩ (.int .i64 (stN T acts (k + 1)).e)).setCell ⟨Y, 2, none⟩ u1).setCell ⟨Y, 3, none⟩ u2).setCell ⟨Y, 4, none⟩ u3).alloc (.cells #[.int .i64 (stN T acts (k + 1)).c, u4] 37)).grownBy w5 v.ownBlock) : InvQ w T acts Y (k + 1) v' w5 := by
  have x13 := keepBlk x1 b3 (slab_lt x1)
  have sz : (((((w3.setCell ⟨Y, 0, none⟩ (.int .i64 T)).setCell ⟨Y, 1, none⟩ (.int .i64 (stN T acts (k + 1)).e)).setCell ⟨Y, 2, none⟩ u1).setCell ⟨Y, 3, none⟩ u2).setCell ⟨Y, 4, none⟩ u3).heap.size = w3.heap.size := by simp [World.setCell]
  have ko : ∀ {e q n : Nat} {y : Value} {xs : List Value}, e ≠ 29 → e ≠ 37 → w3.ownsRow w.heap.size e q y n xs → w5.ownsRow w.heap.size e q y n xs := fun h29 h37 h => by
    have h1 : (((((w3.setCell ⟨Y, 0, none⟩ (.int .i64 T)).setCell ⟨Y, 1, none⟩ (.int .i64 (stN T acts (k + 1)).e)).setCell ⟨Y, 2, none⟩ u1).setCell ⟨Y, 3, none⟩ u2).setCell ⟨Y, 4, none⟩ u3).ownsRow w.heap.size _ _ _ _ _ := own_at h fun j hj => five_other _ _ _ _ _ _ _ (own_neq h x13 h29 hj)
    have hv : (((((w3.setCell ⟨Y, 0, none⟩ (.int .i64 T)).setCell ⟨Y, 1, none⟩ (.int .i64 (stN T acts (k + 1)).e)).setCell ⟨Y, 2, none⟩ u1).setCell ⟨Y, 3, none⟩ u2).setCell ⟨Y, 4, none⟩ u3).ownsRow w.heap.size 37 2 v us.length (cellsR us) := own_at (own_keep x4 fun j _ hl => b3.block j hl : w3.ownsRow w.heap.size 37 2 v us.length (cellsR us)) fun j hj => five_other _ _ _ _ _ _ _ (own_neq (own_keep x4 fun j _ hl => b3.block j hl : w3.ownsRow w.heap.size 37 2 v us.length (cellsR us)) x13 (by decide) hj)
    refine own_at h1 fun j hj => (g2.block j (by have := (own_lt h1 hj).2; simp [World.setCell] at this ⊢; omega) (fun e => diffE h1 hv h37 hj e.symm)).trans (heap_old _ _ _ (own_lt h1 hj).2)
  have hv3 : w3.ownsRow w.heap.size 37 2 v us.length (cellsR us) := own_keep x4 fun j _ hl => b3.block j hl
  have kY : ∀ j cs, w3.heap[j]? = some (Obj.cells cs 29 (0, 0)) → (((((w3.setCell ⟨Y, 0, none⟩ (.int .i64 T)).setCell ⟨Y, 1, none⟩ (.int .i64 (stN T acts (k + 1)).e)).setCell ⟨Y, 2, none⟩ u1).setCell ⟨Y, 3, none⟩ u2).setCell ⟨Y, 4, none⟩ u3).heap[j]? = some (Obj.cells (if j = Y then #[.int .i64 T, .int .i64 (stN T acts (k + 1)).e, u1, u2, u3] else cs) 29 (0, 0)) → w5.heap[j]? = some (Obj.cells (if j = Y then #[.int .i64 T, .int .i64 (stN T acts (k + 1)).e, u1, u2, u3] else cs) 29 (0, 0)) := fun j cs hj hF =>
    ((g2.block j (by have := slab_lt hF; simp [World.setCell] at this ⊢; omega) (fun e => own_neq hv3 hj (by decide) e.symm rfl)).trans (heap_old _ _ _ (slab_lt hF))).trans hF
  refine ⟨u1, u2, u3, us ++ [((stN T acts (k + 1)).c, u4)], ?_, ?_, ⟨ko (by decide) (by decide) o.1, ko (by decide) (by decide) o.2.1, ko (by decide) (by decide) o.2.2.1⟩, ?_, by simp [x5], fun i hi => ?_, x7, ?_⟩
  · have := kY Y _ x13 (by rw [if_pos rfl]; exact five_at x13)
    rw [if_pos rfl] at this
    exact this
  · have hr := keepBlk x2 b3 (slab_lt x2)
    have := kY w.heap.size _ hr (by rw [if_neg (by omega)]; exact (five_other _ _ _ _ _ _ _ (by omega)).trans hr)
    rw [if_neg (by omega)] at this
    exact this
  · show w5.ownsRow w.heap.size 37 2 v' (us ++ [((stN T acts (k + 1)).c, u4)]).length (cellsR (us ++ [((stN T acts (k + 1)).c, u4)]))
    rw [cellsR_snoc, List.length_append]
    exact ho2
  · rw [nthR_snoc _ _ _ (by omega)]
    by_cases hlt : i < us.length
    · rw [if_pos hlt]
      have q := x6 i (by omega)
      exact ⟨q.1, ko (by decide) (by decide) (own_keep q.2 fun j _ hl => b3.block j hl)⟩
    · obtain rfl : i = k := by omega
      rw [if_neg hlt]
      exact ⟨rfl, ko (by decide) (by decide) o.2.2.2.1⟩
  · have b4 : Below w.heap.size w (((((w3.setCell ⟨Y, 0, none⟩ (.int .i64 T)).setCell ⟨Y, 1, none⟩ (.int .i64 (stN T acts (k + 1)).e)).setCell ⟨Y, 2, none⟩ u1).setCell ⟨Y, 3, none⟩ u2).setCell ⟨Y, 4, none⟩ u3) := five_below (x8.trans (b3.mono x8.size)) (by omega) _ _ _ _ _
    refine (b4.alloc b4.size _).grown g2 (Nat.le_trans b4.size (by simp)) (fun j hj => ?_)
    exact (own_lt hv3 hj).1

set_option maxRecDepth 100000 in
set_option maxHeartbeats 4000000 in
theorem specRun_ok (T : Nat) (acts : List P2) (a : Option Addr) (c : Nat) (w : World) (h : RowP w a acts) (h1 : acts.length ≤ 200) (h2 : 1 ≤ T ∧ T ≤ 64) : Calls Try.prog 12 #[.int .i64 T, .slice a acts.length c] w (RetR false w T (stN T acts acts.length) (rsN T acts acts.length) 0) := by
  have H : Hid (RowP w a acts) := h
  clear h
  generalize hL : acts.length = len at *
  have HL : Hid (acts.length = len) := hL
  clear hL
  have hI : ¬ (4096 : Int) < len := by omega
  have hI2 : ¬ (200 : Int) < len := by omega
  obtain ⟨W0, hW0⟩ : ∃ W0, w.alloc (.cells #[.int .i64 0, .int .i64 0, .slice none 0 0, .slice none 0 0, .slice none 0 0] 29) = W0 := ⟨_, rfl⟩
  have hB : Below w.heap.size w W0 := hW0 ▸ (Below.refl _ _).alloc (Nat.le_refl _) _
  have X0 : Hid (W0.heap[w.heap.size]? = some (.cells #[.int .i64 0, .int .i64 0, .slice none 0 0, .slice none 0 0, .slice none 0 0] 29 (0, 0))) := (hW0 ▸ heap_new' _ _ _ rfl : W0.heap[w.heap.size]? = _)
  obtain ⟨i0, hi, hz0, hz1, hz2⟩ := info_parts info37
  go_enter Try.func12, Try.ntmps12
  go_wp2_with fail
  refine (specNew_ok T W0 (by omega)).mono ?_
  rintro r w1 ⟨v1, v2, v3, rfl, o1, o2, o3, b1⟩
  obtain ⟨p1, m1, d1, rfl⟩ := own_shq o1
  obtain ⟨p2, m2, d2, rfl⟩ := own_shq o2
  obtain ⟨p3, m3, d3, rfl⟩ := own_shq o3
  obtain ⟨W2, hW2⟩ : ∃ W2, (w1.alloc (.cells #[.int .i64 T, .int .i64 0, .slice p1 m1 d1, .slice p2 m2 d2, .slice p3 m3 d3] 29)).alloc (.cells #[] 37) = W2 := ⟨_, rfl⟩
  have b2 : Below w1.heap.size w1 W2 := hW2 ▸ ((Below.refl _ _).alloc (Nat.le_refl _) _).alloc (by simp) _
  have hb1 : Below w.heap.size w w1 := hB.trans (b1.mono hB.size)
  have HI : Hid (InvQ w T acts w1.heap.size 0 (.slice (some ⟨w1.heap.size + 1, 0, none⟩) 0 0) W2) := by
    have nB := hb1.size
    have n0 := hB.size
    have x2 := keepBlk X0.out b1 (slab_lt X0.out)
    refine ⟨_, _, _, [], ?_, keepBlk x2 b2 (slab_lt x2), ⟨own_keep (own_mono o1 n0) fun j _ hl => b2.block j hl, own_keep (own_mono o2 n0) fun j _ hl => b2.block j hl, own_keep (own_mono o3 n0) fun j _ hl => b2.block j hl⟩, ⟨rfl, .inr ⟨_, 0, #[], rfl, by omega, ?_, Nat.le_refl _, Nat.zero_le _, rfl, rfl⟩⟩, rfl, fun i hi => by omega, slab_lt x2, hb1.trans (b2.mono nB)⟩
    · exact hW2 ▸ (heap_old _ _ _ (by simp)).trans (heap_new' _ _ _ rfl)
    · exact hW2 ▸ heap_new' _ _ _ (by simp)
  have HOK : Hid (∀ k, OkSp T (stN T acts k).e (stN T acts k).ss (stN T acts k).ps (stN T acts k).qs) := stN_ok T acts h2
  clear o1 o2 o3 b1 b2 hB X0 hb1 hW0
  go_wp2
  go_loopw [9, 10] (fun v i wr => ∃ k : Nat, k ≤ len ∧ i = .int .i64 k ∧ InvQ w T acts w1.heap.size k v wr) (fun _ i _ => len - (intOf i).toNat)
  case atStart => exact ⟨0, by omega, rfl, HI.out⟩
  case round =>
    clear HI
    generalize w1.heap.size = Y at *
    obtain ⟨k, hk, rfl, v1, v2, v3, us, x1, x2, x3, x4, x5, x6, x7, x8⟩ := hrel
    by_cases hlt : k < len
    · have hltI : (k : Int) < (len : Int) := by omega
      obtain ⟨b, off, rfl, hlb, hc0, hc1⟩ := (H.out.below x8) k (by rw [HL.out]; exact hlt)
      have HS : Hid ((stN T acts (k + 1)) = stp T (stN T acts k).e (stN T acts k).ss (stN T acts k).ps (stN T acts k).qs (nthP acts k).1 (nthP acts k).2) := rfl
      have RG : Hid (wr.heap[Y]? = some (.cells #[.int .i64 T, .int .i64 (stN T acts k).e, v1, v2, v3] 29 (0, 0)) ∧ wr.heap[w.heap.size]? = some (.cells #[.int .i64 0, .int .i64 0, .slice none 0 0, .slice none 0 0, .slice none 0 0] 29 (0, 0)) ∧ OwnR wr w.heap.size u9 us ∧ us.length = k ∧ (∀ i, i < k → (nthR us i).1 = (rpN T acts i).1 ∧ OwnI wr w.heap.size (nthR us i).2 (rpN T acts i).2) ∧ w.heap.size < Y ∧ Below w.heap.size w wr) := ⟨x1, x2, x4, x5, x6, x7, x8⟩
      have XA : Hid (wr.cell? ⟨b, off + k * 2, none⟩ = some (.int .i64 (nthP acts k).1) ∧ wr.cell? ⟨b, off + k * 2 + 1, none⟩ = some (.int .i64 (nthP acts k).2) ∧ b < wr.heap.size) := ⟨hc0, hc1, hlb⟩
      have XO : Hid (OwnI wr w.heap.size v1 (stN T acts k).ss ∧ OwnP wr w.heap.size v2 (stN T acts k).ps ∧ OwnI wr w.heap.size v3 (stN T acts k).qs) := x3
      clear x1 x2 x3 x4 x5 x6 x7 x8 hc0 hc1 hlb
      go_wp2_with fail
      refine reg12 wr w.heap.size Y b off len c k T (stN T acts k).e (nthP acts k).1 (nthP acts k).2 v1 v2 v3 (stN T acts (k + 1)) (stN T acts k).ss (stN T acts k).ps (stN T acts k).qs _ _ _ _ _ _ _ _ _ _ _ _ _ _ _ _ _ _ _ _ _ _ _ _ _ _ _ _ _ _ _ _ _ _ _ _ _ _ _ _ _ _ _ _ _ _ _ _ _ _ _ _ _ _ RG.out.1 XA.out XO.out RG.out.2.2.2.2.2.2.size hlt (HOK.out k) HS.out ?_
      intro t0_ t1_ t2_ t3_ t4_ t5_ t6_ t7_ t8_ Y1 Z1 u1 u2 u3 u4 w3 hY1 hZ1 nY nZ o b3
      obtain ⟨q1, e1, f1, rfl⟩ := own_shq o.1
      obtain ⟨q2, e2, f2, rfl⟩ := own_shq o.2.1
      obtain ⟨q3, e3, f3, rfl⟩ := own_shq o.2.2.1
      obtain ⟨q4, e4, f4, rfl⟩ := own_shq o.2.2.2.1
      have g1 := keepBlk RG.out.1 b3 (slab_lt RG.out.1)
      have zY : Y < Y1 ∧ Y < Z1 := ⟨Nat.lt_of_lt_of_le (slab_lt RG.out.1) nY, Nat.lt_of_lt_of_le (slab_lt RG.out.1) nZ⟩
      have HST : Hid (∀ v' w5, w5.ownsRow w.heap.size 37 2 v' (us.length + 1) (cellsR us ++ [.int .i64 (stN T acts (k + 1)).c, .slice q4 e4 f4]) → ((((((w3.setCell ⟨Y, 0, none⟩ (.int .i64 T)).setCell ⟨Y, 1, none⟩ (.int .i64 (stN T acts (k + 1)).e)).setCell ⟨Y, 2, none⟩ (.slice q1 e1 f1)).setCell ⟨Y, 3, none⟩ (.slice q2 e2 f2)).setCell ⟨Y, 4, none⟩ (.slice q3 e3 f3)).alloc (.cells #[.int .i64 (stN T acts (k + 1)).c, .slice q4 e4 f4] 37)).grownBy w5 u9.ownBlock → InvQ w T acts Y (k + 1) v' w5) := fun v' w5 h g => InvQ.step RG.out.1 RG.out.2.1 RG.out.2.2.1 RG.out.2.2.2.1 RG.out.2.2.2.2.1 RG.out.2.2.2.2.2.1 RG.out.2.2.2.2.2.2 b3 o h g
      obtain ⟨W4, hW4⟩ : ∃ W4, (((((w3.setCell ⟨Y, 0, none⟩ (.int .i64 T)).setCell ⟨Y, 1, none⟩ (.int .i64 (stN T acts (k + 1)).e)).setCell ⟨Y, 2, none⟩ (.slice q1 e1 f1)).setCell ⟨Y, 3, none⟩ (.slice q2 e2 f2)).setCell ⟨Y, 4, none⟩ (.slice q3 e3 f3)) = W4 := ⟨_, rfl⟩
      have hz4 : W4.heap[Z1]? = some (.cells #[.int .i64 (stN T acts (k + 1)).c, .slice q4 e4 f4] 37 (0, 0)) := hW4 ▸ (five_other _ _ _ _ _ _ _ (by omega)).trans hZ1
      have HOR : Hid (OwnR W4 w.heap.size u9 us) := by
        have h3 : OwnR w3 w.heap.size u9 us := own_keep RG.out.2.2.1 fun j _ hl => b3.block j hl
        exact hW4 ▸ own_at h3 fun j hj => five_other _ _ _ _ _ _ _ (own_neq h3 g1 (by decide) hj)
      have nW : w.heap.size ≤ W4.heap.size := by
        have := (RG.out.2.2.2.2.2.2.trans (b3.mono RG.out.2.2.2.2.2.2.size)).size
        rw [← hW4]; simpa [World.setCell] using this
      have h5 : us.length = k := RG.out.2.2.2.1
      obtain ⟨y0, y1, y2, y3, y4⟩ := box5_of g1
      have fy : ∀ o, w3.frozen? ⟨Y, o, none⟩ = false := fun o => slab_free g1
      obtain ⟨j0, j1, j2, j3, j4⟩ := box5_of hY1
      obtain ⟨z0, z1⟩ := two_ofR hz4
      rw [hW4] at HST
      clear g1 hY1 hZ1 nY nZ o b3 hz4 RG XA XO HS zY
      generalize (stN T acts (k + 1)).e = ee at *
      generalize (stN T acts (k + 1)).c = cc at *
      generalize (stN T acts k).e = e0 at *
      go_wp2_with (at_builtin; refine wpList_append_own _ rfl (.tmp 50) (.tmp 52) 30 rfl w.heap.size 37 i0 (.agg #[.int .i64 0, .slice none 0 0]) 2 32 Try.underlying30 hi hz0 hz1 hz2 rfl (by decide) _ _ _ rfl (own_keep HOR.out fun _ _ hl => heap_old _ _ _ hl) ⟨W4.heap.size, 0, none⟩ 1 1 [.int .i64 cc, .slice q4 e4 f4] rfl rfl ?m0 ?m4 ?m1 ?m2 ?m3 ?_)
      case m0 => exact cell_two_new _ _ _ _
      case m4 => intro u hu; simp at hu; rcases hu with rfl | rfl <;> rfl
      case m1 => unfold maxLen; omega
      case m2 => omega
      case m3 => simp; omega
      intro v' w5 ho2 gr _
      have HN : Hid (InvQ w T acts Y (k + 1) v' w5) := HST.out v' w5 (by rw [h5]; exact ho2) gr
      clear ho2 gr HST HOR
      go_wp2
      go_roundw
      case rel => exact ⟨k + 1, by omega, by go_num, HN.out⟩
      case measure => simp [intOf]; omega
    · obtain rfl : k = len := by omega
      have ok := HOK.out k
      have lm := ok_many ok
      have LM : Hid ((stN T acts k).ss.length ≤ 1048576 ∧ (stN T acts k).ps.length ≤ 1048576 ∧ (stN T acts k).qs.length ≤ 1048576) := ⟨by have := ok.1; omega, by have := ok.1; omega, by have := ok.2.2.2.2.2.1; omega⟩
      have RD : Hid (ReadI wr v1 (stN T acts k).ss ∧ ReadP wr v2 (stN T acts k).ps ∧ ReadI wr v3 (stN T acts k).qs) := ⟨OwnI.read x3.1, OwnP.read x3.2.1, OwnI.read x3.2.2⟩
      have RG : Hid (wr.heap[w.heap.size]? = some (.cells #[.int .i64 0, .int .i64 0, .slice none 0 0, .slice none 0 0, .slice none 0 0] 29 (0, 0)) ∧ OwnR wr w.heap.size u9 us ∧ us.length = k ∧ (∀ i, i < k → (nthR us i).1 = (rpN T acts i).1 ∧ OwnI wr w.heap.size (nthR us i).2 (rpN T acts i).2) ∧ Below w.heap.size w wr) := ⟨x2, x4, x5, x6, x8⟩
      obtain ⟨y0, y1, y2, y3, y4⟩ := box5_of x1
      clear x1 x2 x3 x4 x5 x6 x7 x8 ok lm
      go_wp2_with fail
      refine (l04Own_any T (stN T acts k).e v1 v2 v3 (stN T acts k).ss (stN T acts k).ps (stN T acts k).qs wr RD.out.1 RD.out.2.1 RD.out.2.2 LM.out.1 LM.out.2.1 LM.out.2.2).mono ?_
      rintro r w6 ⟨u1, u2, u3, rfl, o1, o2, o3, _, b6⟩
      have x6 := keepBlk RG.out.1 b6 (slab_lt RG.out.1)
      have nB := RG.out.2.2.2.2.size
      have HX : Hid (∀ a b c d e, RetR false w T (stN T acts k) (rsN T acts k) 0 (.returned (.tuple #[SV T (stN T acts k).e u1 u2 u3, u9, .int .i64 0])) (((((w6.setCell ⟨w.heap.size, 0, none⟩ a).setCell ⟨w.heap.size, 1, none⟩ b).setCell ⟨w.heap.size, 2, none⟩ c).setCell ⟨w.heap.size, 3, none⟩ d).setCell ⟨w.heap.size, 4, none⟩ e)) := fun a b c d e => by
        refine ⟨u1, u2, u3, u9, us, rfl, own_five (own_mono o1 nB) x6 (by decide) _ _ _ _ _, own_five (own_mono o2 nB) x6 (by decide) _ _ _ _ _, own_five (own_mono o3 nB) x6 (by decide) _ _ _ _ _, own_five (own_keep RG.out.2.1 fun j _ hl => b6.block j hl) x6 (by decide) _ _ _ _ _, ⟨by rw [rsN_len]; exact RG.out.2.2.1, fun i hi => ?_⟩, fun h => (by cases h), five_below (RG.out.2.2.2.2.trans (b6.mono nB)) (Nat.le_refl _) _ _ _ _ _⟩
        rw [rsN_len] at hi
        rw [rsN_nth _ _ _ _ hi]
        have q := RG.out.2.2.2.1 i hi
        exact ⟨q.1, own_five (own_keep q.2 fun j _ hl => b6.block j hl) x6 (by decide) _ _ _ _ _⟩
      have cr0w6 : w6.cell? ⟨w.heap.size, 0, none⟩ = some (.int .i64 0) := (by simp [World.cell?, x6])
      have cr1w6 : w6.cell? ⟨w.heap.size, 1, none⟩ = some (.int .i64 0) := (by simp [World.cell?, x6])
      have cr2w6 : w6.cell? ⟨w.heap.size, 2, none⟩ = some (.slice none 0 0) := (by simp [World.cell?, x6])
      have cr3w6 : w6.cell? ⟨w.heap.size, 3, none⟩ = some (.slice none 0 0) := (by simp [World.cell?, x6])
      have cr4w6 : w6.cell? ⟨w.heap.size, 4, none⟩ = some (.slice none 0 0) := (by simp [World.cell?, x6])
      have frw6 : ∀ o, w6.frozen? ⟨w.heap.size, o, none⟩ = false := fun o => (by simp [World.frozen?, x6])
      obtain ⟨q1, e1, f1, rfl⟩ := own_shq o1
      obtain ⟨q2, e2, f2, rfl⟩ := own_shq o2
      obtain ⟨q3, e3, f3, rfl⟩ := own_shq o3
      clear x6 o1 o2 o3 b6 y0 y1 y2 y3 y4 RG RD nB
      generalize (stN T acts k).e = e0 at *
      go_wp2
      refine bodyPost_ret (v := .tuple #[SV T e0 (.slice q1 e1 f1) (.slice q2 e2 f2) (.slice q3 e3 f3), u9, .int .i64 0]) (by go_simp; simp [results, Try.results12, go_sem, cr0w6, cr1w6, cr2w6, cr3w6, cr4w6]) rfl (HX.out _ _ _ _ _)
end Go.Proofs.Ytaklphoplfofbaa
