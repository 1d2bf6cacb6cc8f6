/- Trees: compared (stage 11). -/
import Derived.Test.YteejkmcljokloaaGreatDoorTrC
namespace Go.Proofs.YteejkmcljokloaaGreatDoor
open Go.RowKit

set_option maxRecDepth 100000 in
theorem eqV_same (x : ND) (w : World) : Calls Tryz.prog 31 #[ValV x, ValV x] w fun e w' => e = .returned (.bool true) ∧ Below w.heap.size w w' := by
  obtain ⟨k, n, nm, of, vk, vn, vt⟩ := x
  go_enter Tryz.func31, Tryz.ntmps31
  go_wp2
  go_ret
  exact ⟨rfl, ((Below.refl _ _).alloc (Nat.le_refl _) _).alloc (by simp) _⟩

/-- What eqTreeS answers where both lists are f. -/
def EqS (f : Fo) : Prop := ∀ (a1 a2 : Option Addr) (c1 c2 : Nat) (w : World), RowT 0 w a1 0 f → RowT 0 w a2 0 f → f.len ≤ 1048576 →
    Calls Tryz.prog 32 #[.slice a1 f.len c1, .slice a2 f.len c2] w fun e w' => e = .returned (.bool true) ∧ Below w.heap.size w w'

set_option maxRecDepth 100000 in
set_option maxHeartbeats 2000000 in
theorem eqT_same (x : ND) (ks : Fo) (hS : EqS ks) (a1 a2 : Option Addr) (c1 c2 : Nat) (w : World) (h1 : RowT 0 w a1 0 ks) (h2 : RowT 0 w a2 0 ks) (hlen : ks.len ≤ 1048576) :
    Calls Tryz.prog 12 #[ValT x (.slice a1 ks.len c1), ValT x (.slice a2 ks.len c2)] w fun e w' => e = .returned (.bool true) ∧ Below w.heap.size w w' := by
  have HR : Hid (RowT 0 w a1 0 ks ∧ RowT 0 w a2 0 ks ∧ ks.len ≤ 1048576) := ⟨h1, h2, hlen⟩
  have HS : Hid (EqS ks) := hS
  have HV := fun w => eqV_same x w
  clear h1 h2 hlen hS
  obtain ⟨k, n, nm, of, vk, vn, vt⟩ := x
  obtain ⟨W0, hW0⟩ : ∃ W0, (w.alloc (.cells #[.int .i64 k, .int .i64 n, .string nm, .string of, .int .i64 vk, .int .i64 vn, .string vt, .slice a1 ks.len c1] 38)).alloc (.cells #[.int .i64 k, .int .i64 n, .string nm, .string of, .int .i64 vk, .int .i64 vn, .string vt, .slice a2 ks.len c2] 38) = W0 := ⟨_, rfl⟩
  have B0 : Below w.heap.size w W0 := hW0 ▸ ((Below.refl _ _).alloc (Nat.le_refl _) _).alloc (by simp) _
  have X1 : W0.heap[w.heap.size]? = some (.cells #[.int .i64 k, .int .i64 n, .string nm, .string of, .int .i64 vk, .int .i64 vn, .string vt, .slice a1 ks.len c1] 38 (0, 0)) := hW0 ▸ (heap_old _ _ _ (by simp)).trans (heap_new' _ _ _ rfl)
  have X2 : W0.heap[w.heap.size + 1]? = some (.cells #[.int .i64 k, .int .i64 n, .string nm, .string of, .int .i64 vk, .int .i64 vn, .string vt, .slice a2 ks.len c2] 38 (0, 0)) := hW0 ▸ heap_new' _ _ _ (by simp)
  have H1 : Hid (W0.heap[w.heap.size]? = some (.cells #[.int .i64 k, .int .i64 n, .string nm, .string of, .int .i64 vk, .int .i64 vn, .string vt, .slice a1 ks.len c1] 38 (0, 0)) ∧ W0.heap[w.heap.size + 1]? = some (.cells #[.int .i64 k, .int .i64 n, .string nm, .string of, .int .i64 vk, .int .i64 vn, .string vt, .slice a2 ks.len c2] 38 (0, 0))) := ⟨X1, X2⟩
  have p0 : W0.cell? ⟨w.heap.size, 0, none⟩ = some (.int .i64 k) := (slab_cell X1).trans rfl
  have p1 : W0.cell? ⟨w.heap.size, 1, none⟩ = some (.int .i64 n) := (slab_cell X1).trans rfl
  have p2 : W0.cell? ⟨w.heap.size, 2, none⟩ = some (.string nm) := (slab_cell X1).trans rfl
  have p3 : W0.cell? ⟨w.heap.size, 3, none⟩ = some (.string of) := (slab_cell X1).trans rfl
  have p4 : W0.cell? ⟨w.heap.size, 4, none⟩ = some (.int .i64 vk) := (slab_cell X1).trans rfl
  have p5 : W0.cell? ⟨w.heap.size, 5, none⟩ = some (.int .i64 vn) := (slab_cell X1).trans rfl
  have p6 : W0.cell? ⟨w.heap.size, 6, none⟩ = some (.string vt) := (slab_cell X1).trans rfl
  have q0 : W0.cell? ⟨w.heap.size + 1, 0, none⟩ = some (.int .i64 k) := (slab_cell X2).trans rfl
  have q1 : W0.cell? ⟨w.heap.size + 1, 1, none⟩ = some (.int .i64 n) := (slab_cell X2).trans rfl
  have q2 : W0.cell? ⟨w.heap.size + 1, 2, none⟩ = some (.string nm) := (slab_cell X2).trans rfl
  have q3 : W0.cell? ⟨w.heap.size + 1, 3, none⟩ = some (.string of) := (slab_cell X2).trans rfl
  have q4 : W0.cell? ⟨w.heap.size + 1, 4, none⟩ = some (.int .i64 vk) := (slab_cell X2).trans rfl
  have q5 : W0.cell? ⟨w.heap.size + 1, 5, none⟩ = some (.int .i64 vn) := (slab_cell X2).trans rfl
  have q6 : W0.cell? ⟨w.heap.size + 1, 6, none⟩ = some (.string vt) := (slab_cell X2).trans rfl
  clear X1 X2
  go_enter Tryz.func12, Tryz.ntmps12
  go_wp2_with fail
  refine (HV _).mono ?_
  rintro e w1 ⟨rfl, b1⟩
  have x1 := kpBlk H1.out.1 b1 (slab_lt H1.out.1)
  have x2 := kpBlk H1.out.2 b1 (slab_lt H1.out.2)
  have B1 : Below w.heap.size w w1 := B0.trans (b1.mono B0.size)
  have p7 : w1.cell? ⟨w.heap.size, 7, none⟩ = some (.slice a1 ks.len c1) := (slab_cell x1).trans rfl
  have q7 : w1.cell? ⟨w.heap.size + 1, 7, none⟩ = some (.slice a2 ks.len c2) := (slab_cell x2).trans rfl
  clear x1 x2 b1 B0 H1 HV hW0 p0 q0 p1 q1 p2 q2 p3 q3 p4 q4 p5 q5 p6 q6
  go_wp2_with fail
  refine (HS.out a1 a2 c1 c2 w1 (HR.out.1.below B1) (HR.out.2.1.below B1) HR.out.2.2).mono ?_
  rintro e w2 ⟨rfl, b2⟩
  have B2 : Below w.heap.size w w2 := B1.trans (b2.mono B1.size)
  clear b2 B1 p7 q7
  go_wp2
  go_ret
  exact ⟨rfl, B2⟩

abbrev PairT (w : World) (b1 o1 b2 o2 : Nat) (s1 s2 : Value) (x : ND) (w' : World) : Prop := CellT w' b1 o1 x s1 ∧ CellT w' b2 o2 x s2 ∧ b1 < w'.heap.size ∧ b2 < w'.heap.size ∧ Below w.heap.size w w'
theorem PairT.keep {w : World} {b1 o1 b2 o2 : Nat} {s1 s2 : Value} {x : ND} {w1 w2 : World} (h : PairT w b1 o1 b2 o2 s1 s2 x w1) (hb : Below w1.heap.size w1 w2) : PairT w b1 o1 b2 o2 s1 s2 x w2 := ⟨h.1.same (hb.block _ h.2.2.1), h.2.1.same (hb.block _ h.2.2.2.1), Nat.lt_of_lt_of_le h.2.2.1 hb.size, Nat.lt_of_lt_of_le h.2.2.2.1 hb.size, below_step h.2.2.2.2 (Nat.le_refl _) hb⟩
set_option maxRecDepth 100000 in
set_option maxHeartbeats 4000000 in
theorem eqS_step (f : Fo) (ih : ∀ ks : Fo, ks.size < f.size → EqS ks) (hsz : f.size ≤ 1048576) : EqS f := by
  intro a1 a2 c1 c2 w h1 h2 hlen
  have H1 : Hid (RowT 0 w a1 0 f) := h1
  have H2 : Hid (RowT 0 w a2 0 f) := h2
  have IH : Hid (∀ i, i < f.len → EqS (f.kids i) ∧ (f.kids i).len ≤ 1048576) := fun i hi => ⟨ih _ (f.kids_lt i hi), by have := f.kids_lt i hi; have := (f.kids i).len_le; omega⟩
  clear h1 h2 ih hsz
  obtain ⟨len, hL⟩ : ∃ m, f.len = m := ⟨_, rfl⟩
  have HL : Hid (f.len = len) := hL
  rw [hL] at hlen ⊢
  clear hL
  go_enter Tryz.func32, Tryz.ntmps32
  go_wp2
  go_loopw [5] (fun i wr => ∃ k : Nat, k ≤ len ∧ i = .int .i64 k ∧ Below w.heap.size w wr) (fun i _ => len - (intOf i).toNat)
  case atStart => exact ⟨0, by omega, rfl, Below.refl _ _⟩
  case round =>
    obtain ⟨k, hk, rfl, hbl⟩ := hrel
    by_cases hlt : k < len
    · have hkf : k < f.len := by rw [HL.out]; exact hlt
      obtain ⟨b1, o1, p1, q1, rfl, _, hlb1, hc1, _, hr1⟩ := (H1.out.below hbl).at k hkf
      obtain ⟨b2, o2, p2, q2, rfl, _, hlb2, hc2, _, hr2⟩ := (H2.out.below hbl).at k hkf
      have HS : Hid ((EqS (f.kids k) ∧ (f.kids k).len ≤ 1048576) ∧ RowT 0 wr.drew p1 0 (f.kids k) ∧ RowT 0 wr.drew p2 0 (f.kids k)) := ⟨IH.out k hkf, hr1.below (Below.refl _ _).drew, hr2.below (Below.refl _ _).drew⟩
      have hP : PairT w b1 (o1 + k * 8) b2 (o2 + k * 8) (.slice p1 (f.kids k).len q1) (.slice p2 (f.kids k).len q2) (f.node k) wr.drew := ⟨hc1, hc2, hlb1, hlb2, hbl.drew⟩
      have hltI : (k : Int) < (len : Int) := by omega
      clear hc1 hc2 hr1 hr2 hkf
      go_wp2_with fail
      go_region_held3 (PairT w b1 (o1 + k * 8) b2 (o2 + k * 8) (.slice p1 (f.kids k).len q1) (.slice p2 (f.kids k).len q2) (f.node k)) (first | exact hP | exact PairT.keep (by assumption) hb) (first | (go_at_call 12; refine (eqT_same (f.node k) (f.kids k) HS.out.1.1 p1 p2 q1 q2 _ HS.out.2.1 HS.out.2.2 HS.out.1.2).mono ?_; rintro e wA ⟨rfl, hb⟩) | fail)
      rename_i hPL
      have hB := hPL.2.2.2.2
      clear hP hPL
      go_wp2
      go_roundw
      case rel => exact ⟨k + 1, by omega, by go_num, hB⟩
      case measure => simp [intOf]; omega
    · go_wp2
      go_ret
      exact ⟨rfl, hbl⟩
theorem eqS_all : ∀ (n : Nat) (f : Fo), f.size ≤ n → f.size ≤ 1048576 → EqS f
  | 0, f, h, hs => eqS_step f (fun ks hk => by omega) hs
  | n + 1, f, h, hs => eqS_step f (fun ks hk => eqS_all n ks (by omega) (by omega)) hs
theorem eqS_any (f : Fo) (h : f.size ≤ 1048576) : EqS f := eqS_all _ f (Nat.le_refl _) h
end Go.Proofs.YteejkmcljokloaaGreatDoor
