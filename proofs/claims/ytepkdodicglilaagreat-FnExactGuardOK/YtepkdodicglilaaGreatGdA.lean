/- A guard: measured, copied, compared (stage 15). -/
import Derived.Test.YtepkdodicglilaaGreatEtA
import Derived.Test.YtepkdodicglilaaGreatTbB
namespace Go.Proofs.YtepkdodicglilaaGreat
open Go.RowKit

/-- A guard as the laws and both sides hold it. -/
abbrev GdV (nm : ByteArray) (col : Int) (v : Value) : Value := .agg #[.string nm, .int .i64 col, v]
/-- Its texts are short, its steps few. -/
def SmallG (nm : ByteArray) (ys : List TY) : Prop := nm.size ≤ 1048576 ∧ ys.length ≤ 1048576 ∧ ∀ i, i < ys.length → SmallY (nthY ys i)

set_option maxRecDepth 100000 in
theorem szG_any (nm : ByteArray) (col : Int) (ya : Option Addr) (yc : Nat) (ys : List TY) (left : Int) (w : World) (hy : RowY w ya ys) (hn : nm.size ≤ maxLen) (hl : ys.length ≤ maxLen) (h0 : 0 ≤ left) (h1 : left ≤ 1048576) :
    Calls Tryz.prog 13 #[GdV nm col (.slice ya ys.length yc), .int .i64 left] w fun e w' => ∃ r : Int, e = .returned (.int .i64 r) ∧ -1 ≤ r ∧ r ≤ left ∧ (0 ≤ r → SmallG nm ys) ∧ Below w.heap.size w w' := by
  have HL : Hid (ys.length ≤ maxLen ∧ RowY w ya ys) := ⟨hl, hy⟩
  clear hl hy
  unfold maxLen at hn
  have B0 : Below w.heap.size w (w.alloc (.cells #[.string nm, .int .i64 col, .slice ya ys.length yc] 36)) := (Below.refl _ _).alloc (Nat.le_refl _) _
  by_cases c1 : left - (nm.size : Int) < 0
  · go_enter Tryz.func13, Tryz.ntmps13
    go_wp2
    go_ret
    exact ⟨-1, rfl, by omega, by omega, fun h => by omega, B0⟩
  go_enter Tryz.func13, Tryz.ntmps13
  go_wp2_with fail
  refine (szY_any ya yc ys (left - (nm.size : Int)) _ (HL.out.2.below B0) HL.out.1 (by omega) (by omega)).mono ?_
  rintro e w1 ⟨x, rfl, x0, x1, x2, b1⟩
  have B1 := below_step B0 (Nat.le_refl _) b1
  by_cases hx : x < 0
  · clear x2
    go_wp2
    go_ret
    exact ⟨-1, rfl, by omega, by omega, fun h => by omega, B1⟩
  have HS : Hid (SmallG nm ys) := ⟨by omega, by have := (x2 (by omega)).1; omega, (x2 (by omega)).2⟩
  clear x2
  go_wp2
  go_ret
  exact ⟨x, rfl, by omega, by omega, fun _ => HS.out, B1⟩

set_option maxRecDepth 100000 in
set_option maxHeartbeats 2000000 in
theorem toG_any (nm : ByteArray) (col : Int) (ya : Option Addr) (yc : Nat) (ys : List TY) (w : World) (h : RowY w ya ys) (hl : ys.length ≤ 1048576) :
    Calls Tryz.prog 15 #[GdV nm col (.slice ya ys.length yc)] w fun e w' => ∃ g, e = .returned (GdV nm col (.slice (some ⟨g, 0, none⟩) ys.length ys.length)) ∧ w.heap.size ≤ g ∧ SlabY w' g ys.length ys ys.length ∧ Below w.heap.size w w' := by
  have HR : Hid (RowY w ya ys) := h
  clear h
  obtain ⟨W0, hW0⟩ : ∃ W0, ((w.alloc (.cells #[.string nm, .int .i64 col, .slice ya ys.length yc] 36)).alloc (.cells #[.string ⟨#[]⟩, .int .i64 0, .slice none 0 0] 41)).alloc (.cells #[.string nm, .int .i64 col, .slice none 0 0] 41) = W0 := ⟨_, rfl⟩
  have B0 : Below w.heap.size w W0 := hW0 ▸ (((Below.refl _ _).alloc (Nat.le_refl _) _).alloc (by simp) _).alloc (by simp; omega) _
  have z0 : W0.heap.size = w.heap.size + 3 := by rw [← hW0]; simp
  have X1 : Hid (W0.heap[w.heap.size + 1]? = some (.cells #[.string ⟨#[]⟩, .int .i64 0, .slice none 0 0] 41 (0, 0))) := (hW0 ▸ (heap_old _ _ _ (by simp)).trans (heap_new' _ _ _ (by simp)) : W0.heap[w.heap.size + 1]? = _)
  have X2 : Hid (W0.heap[w.heap.size + 1 + 1]? = some (.cells #[.string nm, .int .i64 col, .slice none 0 0] 41 (0, 0))) := (hW0 ▸ heap_new' _ _ _ (by simp) : W0.heap[w.heap.size + 1 + 1]? = _)
  have c02 : W0.cell? ⟨w.heap.size, 2, none⟩ = some (.slice ya ys.length yc) := by
    have : W0.heap[w.heap.size]? = some (.cells #[.string nm, .int .i64 col, .slice ya ys.length yc] 36 (0, 0)) := hW0 ▸ (heap_old _ _ _ (by simp; omega)).trans ((heap_old _ _ _ (by simp)).trans (heap_new' _ _ _ rfl))
    simp [World.cell?, this]
  go_enter Tryz.func15, Tryz.ntmps15
  go_wp2_with fail
  refine (toY_any ya yc ys W0 (HR.out.below B0) hl).mono ?_
  rintro e w1 ⟨g, rfl, hg, hS, b1⟩
  have x1 := kpBlk X1.out b1 (slab_lt X1.out)
  have x2 := kpBlk X2.out b1 (slab_lt X2.out)
  have B1 : Below w.heap.size w w1 := B0.trans (b1.mono B0.size)
  have HS : Hid (SlabY w1 g ys.length ys ys.length) := hS
  have c10 : w1.cell? ⟨w.heap.size + 1, 0, none⟩ = some (.string ⟨#[]⟩) := by simp [World.cell?, x1]
  have c11 : w1.cell? ⟨w.heap.size + 1, 1, none⟩ = some (.int .i64 0) := by simp [World.cell?, x1]
  have c12 : w1.cell? ⟨w.heap.size + 1, 2, none⟩ = some (.slice none 0 0) := by simp [World.cell?, x1]
  have c20 : w1.cell? ⟨w.heap.size + 1 + 1, 0, none⟩ = some (.string nm) := by simp [World.cell?, x2]
  have c21 : w1.cell? ⟨w.heap.size + 1 + 1, 1, none⟩ = some (.int .i64 col) := by simp [World.cell?, x2]
  have c22 : w1.cell? ⟨w.heap.size + 1 + 1, 2, none⟩ = some (.slice none 0 0) := by simp [World.cell?, x2]
  have f1 : ∀ q, w1.frozen? ⟨w.heap.size + 1, q, none⟩ = false := fun q => slab_free x1
  have f2 : ∀ q, w1.frozen? ⟨w.heap.size + 1 + 1, q, none⟩ = false := fun q => slab_free x2
  clear x1 x2 hS b1 B0 X1 X2 hW0 c02
  go_wp2
  refine bodyPost_ret (v := GdV nm col (.slice (some ⟨g, 0, none⟩) ys.length ys.length)) (by go_simp; simp [results, Tryz.results15, go_sem, c10, c11, c12]) rfl ⟨g, rfl, by omega, ?_, ?_⟩
  · refine HS.out.at ?_
    rw [Below.heap_setCell _ _ _ _ (by simp; omega), Below.heap_setCell _ _ _ _ (by simp; omega), Below.heap_setCell _ _ _ _ (by simp; omega), Below.heap_setCell _ _ _ _ (by simp; omega)]
  · exact (((B1.setCell (p := ⟨w.heap.size + 1 + 1, 2, none⟩) (by simp; omega) _).setCell (p := ⟨w.heap.size + 1, 0, none⟩) (by simp) _).setCell (p := ⟨w.heap.size + 1, 1, none⟩) (by simp) _).setCell (p := ⟨w.heap.size + 1, 2, none⟩) (by simp) _

set_option maxRecDepth 100000 in
theorem eqG_same (nm : ByteArray) (col : Int) (a1 a2 : Option Addr) (c1 c2 : Nat) (ys : List TY) (w : World) (h1 : RowY w a1 ys) (h2 : RowY w a2 ys) (hl : ys.length ≤ 1048576) : Calls Tryz.prog 17 #[GdV nm col (.slice a1 ys.length c1), GdV nm col (.slice a2 ys.length c2)] w fun e w' => e = .returned (.bool true) ∧ Below w.heap.size w w' := by
  have H : Hid (RowY w a1 ys ∧ RowY w a2 ys) := ⟨h1, h2⟩
  clear h1 h2
  have B0 : Below w.heap.size w ((w.alloc (.cells #[.string nm, .int .i64 col, .slice a1 ys.length c1] 41)).alloc (.cells #[.string nm, .int .i64 col, .slice a2 ys.length c2] 41)) := ((Below.refl _ _).alloc (Nat.le_refl _) _).alloc (by simp) _
  go_enter Tryz.func17, Tryz.ntmps17
  go_wp2_with fail
  refine (eqY_same a1 a2 c1 c2 ys _ (H.out.1.below B0) (H.out.2.below B0) hl).mono ?_
  rintro e w1 ⟨rfl, b1⟩
  have B1 := below_step B0 (Nat.le_refl _) b1
  go_wp2
  go_ret
  exact ⟨rfl, B1⟩
end Go.Proofs.YtepkdodicglilaaGreat
