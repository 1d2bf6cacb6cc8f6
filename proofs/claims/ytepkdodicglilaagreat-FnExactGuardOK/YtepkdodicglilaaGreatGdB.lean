/- Steps of a guard that are too long, as impl looks for them (stage 15). -/
import Derived.Test.YtepkdodicglilaaGreatEtA
import Derived.Deep.RegionHeld3
namespace Go.Proofs.YtepkdodicglilaaGreat
open Go.RowKit

/-- A step has texts of at most 60 bytes. -/
def StepP (y : TY) : Prop := y.1.size ≤ 60 ∧ y.2.size ≤ 60
def StepsP (ys : List TY) (k : Nat) : Prop := ∀ i, i < k → StepP (nthY ys i)
theorem StepsP.next {ys : List TY} {k : Nat} (h : StepsP ys k) (h1 : StepP (nthY ys k)) : StepsP ys (k + 1) := fun i hi => by
  by_cases e : i = k
  · subst e; exact h1
  · exact h i (by omega)
set_option maxRecDepth 100000 in
theorem cloY_any (kx vx : ByteArray) (w : World) (h1 : kx.size ≤ maxLen) (h2 : vx.size ≤ maxLen) :
    Calls Tryz.prog 37 #[.agg #[.string kx, .string vx]] w fun e w' => e = .returned (.bool (decide (60 < kx.size ∨ 60 < vx.size))) ∧ Below w.heap.size w w' := by
  have B0 : Below w.heap.size w (w.alloc (.cells #[.string kx, .string vx] 79)) := (Below.refl _ _).alloc (Nat.le_refl _) _
  unfold maxLen at h1 h2
  by_cases c1 : 60 < kx.size
  · have HD : Hid (decide (60 < kx.size ∨ 60 < vx.size) = true) := by show decide _ = true; simp [c1]
    have c1I : (60 : Int) < (kx.size : Int) := by omega
    go_enter Tryz.func37, Tryz.ntmps37
    go_wp2
    go_ret
    exact ⟨by first | rfl | (rw [HD.out]; rfl), B0⟩
  by_cases c2 : 60 < vx.size
  · have HD : Hid (decide (60 < kx.size ∨ 60 < vx.size) = true) := by show decide _ = true; simp [c2]
    have c1I : ¬ (60 : Int) < (kx.size : Int) := by omega
    have c2I : (60 : Int) < (vx.size : Int) := by omega
    go_enter Tryz.func37, Tryz.ntmps37
    go_wp2
    go_ret
    exact ⟨by first | rfl | (rw [HD.out]; rfl), B0⟩
  · have HD : Hid (decide (60 < kx.size ∨ 60 < vx.size) = false) := by show decide _ = false; simp; omega
    have c1I : ¬ (60 : Int) < (kx.size : Int) := by omega
    have c2I : ¬ (60 : Int) < (vx.size : Int) := by omega
    go_enter Tryz.func37, Tryz.ntmps37
    go_wp2
    go_ret
    exact ⟨by first | rfl | (rw [HD.out]; rfl), B0⟩
set_option maxRecDepth 100000 in
set_option maxHeartbeats 1000000 in
theorem idxY_any (a : Option Addr) (cap n : Nat) (ys : List TY) (w : World) (h : RowY w a ys) (hn : n = ys.length) (hl : n ≤ 1048576) :
    Calls Tryz.prog 61 #[.slice a n cap, .func (.func 37) #[] #[]] w fun e w' => ∃ r : Int, e = .returned (.int .i64 r) ∧ (0 ≤ r ↔ ¬ StepsP ys n) ∧ Below w.heap.size w w' := by
  have HR : Hid (RowY w a ys) := h
  have HN : Hid (n = ys.length) := hn
  clear h hn
  go_enter Tryz.func61, Tryz.ntmps61
  go_wp2
  go_loopw [8] (fun i wr => ∃ k : Nat, k ≤ n ∧ i = .int .i64 k ∧ Hid (StepsP ys k) ∧ Below w.heap.size w wr) (fun i _ => n - (intOf i).toNat)
  case atStart => exact ⟨0, by omega, rfl, fun j hj => by omega, Below.refl _ _⟩
  case round =>
    obtain ⟨k, hk, rfl, HA, hbl⟩ := hrel
    by_cases hlt : k < n
    · have hltI : (k : Int) < (n : Int) := by omega
      obtain ⟨b, off, rfl, hlb, ⟨q0, q1⟩, z0, z1⟩ := (HR.out.below hbl) k (by have := HN.out; omega)
      have hcl := cloY_any (nthY ys k).1 (nthY ys k).2 wr z0 z1
      by_cases hw : 60 < (nthY ys k).1.size ∨ 60 < (nthY ys k).2.size
      · have HF : Hid (¬ StepsP ys n) := fun h => by have := h k hlt; unfold StepP at this; omega
        rw [decide_eq_true hw] at hcl
        clear hw z0 z1
        generalize nthY ys k = y at *
        go_wp2_with fail
        refine hcl.mono ?_
        rintro e w1 ⟨rfl, b1⟩
        have B1 := below_step hbl (Nat.le_refl _) b1
        clear hcl
        go_wp2
        go_ret
        exact ⟨(k : Int), rfl, ⟨fun _ => HF.out, fun _ => by omega⟩, B1⟩
      · have HF : Hid (StepsP ys (k + 1)) := HA.out.next (by unfold StepP; omega)
        rw [decide_eq_false hw] at hcl
        clear hw z0 z1
        generalize nthY ys k = y at *
        go_wp2_with fail
        refine hcl.mono ?_
        rintro e w1 ⟨rfl, b1⟩
        have B1 := below_step hbl (Nat.le_refl _) b1
        clear hcl
        go_wp2
        go_roundw
        case rel => exact ⟨k + 1, by omega, by go_num, HF, B1⟩
        case measure => simp [intOf]; omega
    · obtain rfl : k = n := by omega
      go_wp2
      go_ret
      exact ⟨-1, rfl, ⟨fun h => by omega, fun h => absurd HA.out h⟩, hbl⟩
set_option maxRecDepth 100000 in
theorem contY_any (a : Option Addr) (cap n : Nat) (ys : List TY) (w : World) (h : RowY w a ys) (hn : n = ys.length) (hl : n ≤ 1048576) :
    Calls Tryz.prog 36 #[.slice a n cap, .func (.func 37) #[] #[]] w fun e w' => e = .returned (.bool (asB (¬ StepsP ys n))) ∧ Below w.heap.size w w' := by
  have hcl := idxY_any a cap n ys w h hn hl
  clear h hn
  go_enter Tryz.func36, Tryz.ntmps36
  go_wp2_with fail
  refine hcl.mono ?_
  rintro e w1 ⟨r, rfl, hr, B1⟩
  have HQ : Hid (0 ≤ r ↔ ¬ StepsP ys n) := hr
  clear hr hcl
  by_cases h0 : 0 ≤ r
  · have HT : Hid (¬ StepsP ys n) := HQ.out.1 h0
    clear HQ
    go_wp2
    go_ret
    exact ⟨ret_bool' (asB_true HT.out), B1⟩
  · have HT : Hid (¬ ¬ StepsP ys n) := fun h => h0 (HQ.out.2 h)
    clear HQ
    go_wp2
    go_ret
    exact ⟨ret_bool' (by first | exact asB_false HT.out | exact (decide_eq_false (by omega)).trans (asB_false HT.out)), B1⟩
end Go.Proofs.YtepkdodicglilaaGreat
