/- What both MetaBytes answer; the law, walked. -/
import Derived.Test.YtbnnplelbbcanaaMetC
namespace Go.Proofs.Ytbnnplelbbcanaa
open Go.RowKit

theorem okM_len {e f l : Int} (h : okM e f l = true) : 0 ≤ l ∧ l ≤ 3000 := by
  unfold okM at h
  simp only [Bool.and_eq_true] at h
  have := h.2.1
  unfold inB at this
  simpa using this
/-- What MetaBytes answers. -/
def metaR (e f l : Int) : ByteArray × Int := if okM e f l = true then (tx (metaL e f l), 0) else (⟨#[]⟩, 1)

set_option maxRecDepth 100000 in
set_option maxHeartbeats 2000000 in
theorem implMetaBytes_any (e f l : Int) (w : World) : Calls Try.prog 14 #[MV e f l] w (Ret2 w (metaR e f l)) := by
  have B0 : Below w.heap.size w (boxW w e f l) := boxW_below w e f l
  cases h : okM e f l
  · have E : Hid (metaR e f l = (⟨#[]⟩, 1)) := by show _ = _; unfold metaR; rw [h]; rfl
    go_enter Try.func14, Try.ntmps14
    go_wp2_with fail
    refine (isMeta_any e f l _).mono ?_
    rw [h]
    rintro x w1 ⟨rfl, b1⟩
    have B1 := below_step B0 (Nat.le_refl _) b1
    clear b1 B0
    go_wp2
    go_ret2
    rw [E.out]
    exact ⟨rfl, B1⟩
  · have E : Hid (metaR e f l = (tx (metaL e f l), 0)) := by show _ = _; unfold metaR; rw [h]; rfl
    go_enter Try.func14, Try.ntmps14
    go_wp2_with fail
    refine (isMeta_any e f l _).mono ?_
    rw [h]
    rintro x w1 ⟨rfl, b1⟩
    have B1 := below_step B0 (Nat.le_refl _) b1
    have c0 : w1.cell? ⟨w.heap.size, 0, none⟩ = some (.int .i64 e) := (b1.cell (p := ⟨w.heap.size, 0, none⟩) (by simp)).trans (boxW_0 w e f l)
    have c1 : w1.cell? ⟨w.heap.size, 1, none⟩ = some (.int .i64 f) := (b1.cell (p := ⟨w.heap.size, 1, none⟩) (by simp)).trans (boxW_X w e f l).1
    have c2 : w1.cell? ⟨w.heap.size, 2, none⟩ = some (.int .i64 l) := (b1.cell (p := ⟨w.heap.size, 2, none⟩) (by simp)).trans (boxW_X w e f l).2
    clear b1 B0
    go_wp2_with fail
    refine (metaSector_any e f l w1).mono ?_
    rintro x w2 ⟨rfl, b2⟩
    have B2 := below_step B1 (Nat.le_refl _) b2
    generalize tx (metaL e f l) = T at *
    clear b2 B1
    go_wp2
    go_ret2
    rw [E.out]
    exact ⟨rfl, B2⟩

set_option maxRecDepth 100000 in
set_option maxHeartbeats 2000000 in
theorem specMetaBytes_any (e f l : Int) (w : World) : Calls Try.prog 21 #[MV e f l] w (Ret2 w (metaR e f l)) := by
  have B0 : Below w.heap.size w (boxW w e f l) := boxW_below w e f l
  cases h : okM e f l
  · have E : Hid (metaR e f l = (⟨#[]⟩, 1)) := by show _ = _; unfold metaR; rw [h]; rfl
    go_enter Try.func21, Try.ntmps21
    go_wp2_with fail
    refine (l03MetaOK_any e f l _).mono ?_
    rw [h]
    rintro x w1 ⟨rfl, b1⟩
    have B1 := below_step B0 (Nat.le_refl _) b1
    clear b1 B0
    go_wp2
    go_ret2
    rw [E.out]
    exact ⟨rfl, B1⟩
  · have E : Hid (metaR e f l = (tx (metaL e f l), 0)) := by show _ = _; unfold metaR; rw [h]; rfl
    obtain ⟨l0, l1⟩ := okM_len h
    go_enter Try.func21, Try.ntmps21
    go_wp2_with fail
    refine (l03MetaOK_any e f l _).mono ?_
    rw [h]
    rintro x w1 ⟨rfl, b1⟩
    have B1 := below_step B0 (Nat.le_refl _) b1
    have c0 : w1.cell? ⟨w.heap.size, 0, none⟩ = some (.int .i64 e) := (b1.cell (p := ⟨w.heap.size, 0, none⟩) (by simp)).trans (boxW_0 w e f l)
    have c1 : w1.cell? ⟨w.heap.size, 1, none⟩ = some (.int .i64 f) := (b1.cell (p := ⟨w.heap.size, 1, none⟩) (by simp)).trans (boxW_X w e f l).1
    have c2 : w1.cell? ⟨w.heap.size, 2, none⟩ = some (.int .i64 l) := (b1.cell (p := ⟨w.heap.size, 2, none⟩) (by simp)).trans (boxW_X w e f l).2
    clear b1 B0
    go_wp2_with fail
    refine (l03Meta_any e f l w1 l0 l1).mono ?_
    rintro x w2 ⟨rfl, b2⟩
    have B2 := below_step B1 (Nat.le_refl _) b2
    generalize tx (metaL e f l) = T at *
    clear b2 B1
    go_wp2
    go_ret2
    rw [E.out]
    exact ⟨rfl, B2⟩

theorem toMeta_any (e f l : Int) (w : World) : Calls Try.prog 22 #[MV e f l] w fun x w' => x = .returned (MV e f l) ∧ Below w.heap.size w w' := by
  go_enter Try.func22, Try.ntmps22
  go_wp2
  exact bodyPost_ret (v := MV e f l) (by simp [results, Try.results22, go_sem]) rfl ⟨rfl, (((Below.refl _ _).alloc (Nat.le_refl _) _).alloc (by simp) _).alloc (by simp; omega) _⟩

set_option maxRecDepth 100000 in
set_option maxHeartbeats 2000000 in
theorem lawMetaBytes (e f l : Int) (w : World) : Calls Try.prog 7 #[MV e f l] w fun x w' => x = .returned (.bool true) ∧ Below w.heap.size w w' := by
  obtain ⟨W0, hW0⟩ : ∃ W0, w.alloc (.cells #[.int .i64 e, .int .i64 f, .int .i64 l] 41) = W0 := ⟨_, rfl⟩
  have A0 : Below w.heap.size w (w.alloc (.cells #[.int .i64 e, .int .i64 f, .int .i64 l] 41)) := (Below.refl _ _).alloc (Nat.le_refl _) _
  have d0 : (w.alloc (.cells #[.int .i64 e, .int .i64 f, .int .i64 l] 41)).cell? ⟨w.heap.size, 0, none⟩ = some (.int .i64 e) := slab_cell (heap_new' _ _ _ rfl)
  have d1 : (w.alloc (.cells #[.int .i64 e, .int .i64 f, .int .i64 l] 41)).cell? ⟨w.heap.size, 1, none⟩ = some (.int .i64 f) := slab_cell (heap_new' _ _ _ rfl)
  have d2 : (w.alloc (.cells #[.int .i64 e, .int .i64 f, .int .i64 l] 41)).cell? ⟨w.heap.size, 2, none⟩ = some (.int .i64 l) := slab_cell (heap_new' _ _ _ rfl)
  have D : Hid (w.heap.size < (w.alloc (.cells #[.int .i64 e, .int .i64 f, .int .i64 l] 41)).heap.size) := by show _ < _; simp
  have D0 : Hid _ := d0
  have D1 : Hid _ := d1
  have D2 : Hid _ := d2
  clear d0 d1 d2 hW0 W0
  go_enter Try.func7, Try.ntmps7
  go_wp2_with fail
  refine (toMeta_any e f l _).mono ?_
  rintro x w1 ⟨rfl, b1⟩
  have B1 := below_step A0 (Nat.le_refl _) b1
  go_wp2_with fail
  refine (specMetaBytes_any e f l w1).mono ?_
  rintro x w2 ⟨rfl, b2⟩
  have b12 := below_step b1 (Nat.le_refl _) b2
  have B2 := below_step B1 (Nat.le_refl _) b2
  have c0 : w2.cell? ⟨w.heap.size, 0, none⟩ = some (.int .i64 e) := (b12.cell (p := ⟨w.heap.size, 0, none⟩) D.out).trans D0.out
  have c1 : w2.cell? ⟨w.heap.size, 1, none⟩ = some (.int .i64 f) := (b12.cell (p := ⟨w.heap.size, 1, none⟩) D.out).trans D1.out
  have c2 : w2.cell? ⟨w.heap.size, 2, none⟩ = some (.int .i64 l) := (b12.cell (p := ⟨w.heap.size, 2, none⟩) D.out).trans D2.out
  clear b1 b2 b12 A0 B1
  generalize hT : (metaR e f l).1 = T
  generalize hC : (metaR e f l).2 = C
  have HR : Hid (metaR e f l = (T, C)) := by show _ = _; rw [← hT, ← hC]
  clear hT hC
  go_wp2_with fail
  refine (toMeta_any e f l _).mono ?_
  rintro x w3 ⟨rfl, b3⟩
  have B3 := below_step B2 (Nat.le_refl _) b3
  clear b3 B2
  go_wp2_with fail
  refine (implMetaBytes_any e f l w3).mono ?_
  rw [HR.out]
  rintro x w4 ⟨rfl, b4⟩
  have B4 := below_step B3 (Nat.le_refl _) b4
  clear b4 B3
  go_wp2
  go_ret
  exact ⟨rfl, B4⟩
end Go.Proofs.Ytbnnplelbbcanaa
