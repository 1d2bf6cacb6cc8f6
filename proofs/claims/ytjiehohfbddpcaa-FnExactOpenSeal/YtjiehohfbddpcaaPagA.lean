/- Numbers as bytes: how both sides write them. -/
import Derived.Test.YtjiehohfbddpcaaApp
import Derived.Test.YtjiehohfbddpcaaApp
namespace Go.Proofs.Ytjiehohfbddpcaa
open Go.RowKit

def b8 (x : Int) : UInt8 := UInt8.ofNat (x % 256).toNat
theorem b8_nat (x : Int) : ((b8 x).toNat : Int) = x % 256 := by
  unfold b8
  have e : (UInt8.ofNat (x % 256).toNat).toNat = (x % 256).toNat % 256 := UInt8.toNat_ofNat'
  rw [e]
  omega
/-- The four bytes of a number, the higher ones first. -/
def num4 (n : Int) : List UInt8 := [b8 (n / 16777216), b8 (n / 65536), b8 (n / 256), b8 n]
def num2 (n : Int) : List UInt8 := [b8 (n / 256), b8 n]

/-- A byte that was just made can be read. -/
theorem made1 (w : World) (c : Value) (x : Int) (hc : c = .int .u8 (x % 256)) : ReadL (w.alloc (.cells #[c] 5)) (some ⟨w.heap.size, 0, none⟩) [b8 x] := fun i hi => by
  have : i = 0 := by simpa using hi
  subst this
  refine ⟨w.heap.size, 0, rfl, by simp, ?_⟩
  rw [slab_cell (heap_new' _ _ _ rfl)]
  show some c = some (.int .u8 ((b8 x).toNat : Int))
  rw [hc, b8_nat]

set_option maxRecDepth 100000 in
set_option maxHeartbeats 2000000 in
theorem l03Four_any (n : Int) (w : World) : Calls Try.prog 22 #[.int .i64 n] w fun e w' => ∃ v, e = .returned v ∧ OwnL w' w.heap.size v (num4 n) ∧ Below w.heap.size w w' := by
  go_enter Try.func22, Try.ntmps22
  go_wp2
  go_ret
  refine ⟨_, rfl, OwnL.made w _ (num4 n) _ (Nat.le_refl _) ?_ (by unfold maxLen; show 4 ≤ _; omega), (Below.refl _ _).alloc (Nat.le_refl _) _⟩
  simp [cellsU, num4, b8_nat]

theorem OwnL.shape {w : World} {B : Nat} {v : Value} {l : List UInt8} (h : OwnL w B v l) : ∃ g cap, v = .slice (some ⟨g, 0, none⟩) l.length cap := by
  obtain ⟨g, cap, _, _, e, _⟩ := h
  exact ⟨g, cap, e⟩
/-- One byte more behind bytes that are owned. -/
theorem app1 {w wr : World} {B : Nat} {v : Value} {l : List UInt8} (x : Int) (ho : OwnL wr B v l) (hb : Below B w wr) (hB : B ≤ w.heap.size) (hl : l.length ≤ 1100) :
    ∃ v' w', (Builtin.append_ #[22, 22] 22 #[v, .slice (some ⟨wr.heap.size, 0, none⟩) 1 1]).run Try.prog (wr.alloc (.cells #[.int .u8 (x % 256)] 5)) = .ok v' w' ∧ OwnL w' B v' (l ++ [b8 x]) ∧ Below B w w' := by
  have hBr : B ≤ wr.heap.size := Nat.le_trans hB hb.size
  obtain ⟨v', w', hr, ho', hg⟩ := run_app_bytes 22 wr.heap.size 0 1 [b8 x] (ho.alloc (.cells #[.int .u8 (x % 256)] 5)) (made1 wr _ x rfl) (by show l.length + 1 ≤ _; omega) (by simp; omega)
  refine ⟨v', w', hr, ho', ?_⟩
  exact (ho.alloc _).grown hg (hb.alloc hBr _) (Nat.le_refl _) (by simp; omega)

set_option maxRecDepth 100000 in
set_option maxHeartbeats 4000000 in
theorem appendNumber4 (v : Value) (l : List UInt8) (n : Int) (B : Nat) (w : World) (h : OwnL w B v l) (hl : l.length ≤ 1000) (hB : B ≤ w.heap.size) :
    Calls Try.prog 25 #[v, .int .i64 n, .int .i64 4] w fun e w' => ∃ v', e = .returned v' ∧ OwnL w' B v' (l ++ num4 n) ∧ Below B w w' := by
  have H : Hid (OwnL w B v l) := h
  clear h
  go_enter Try.func25, Try.ntmps25
  go_wp2
  go_loopw [0, 7] (fun x s wr => ∃ j : Nat, j ≤ 4 ∧ s = .int .i64 (24 - 8 * j) ∧ Hid (OwnL wr B x (l ++ (num4 n).take j)) ∧ Below B w wr) (fun _ s _ => (intOf s + 8).toNat)
  case atStart => exact ⟨0, by omega, rfl, by simpa using H, Below.refl _ _⟩
  case round =>
    obtain ⟨j, hj, rfl, ho, hb⟩ := hrel
    clear H
    by_cases hlt : j < 4
    · rcases (by omega : j = 0 ∨ j = 1 ∨ j = 2 ∨ j = 3) with rfl | rfl | rfl | rfl
      · have e0 : (24 - 8 * ((0 : Nat) : Int)) = 24 := by omega
        rw [e0]
        obtain ⟨v1, w1, hr, ho1, hb1⟩ := app1 (n / 16777216) ho.out hb hB (by simp [num4] <;> omega)
        have HO : Hid (OwnL w1 B v1 (l ++ (num4 n).take 1)) := by
          have : (l ++ (num4 n).take 0) ++ [b8 (n / 16777216)] = l ++ (num4 n).take 1 := by simp [num4]
          rw [← this]; exact ho1
        clear ho ho1 hb
        go_wp2_with (at_builtin; refine Lib.wpList_append_run _ rfl _ _ _ _ rfl _ _ rfl rfl _ _ hr ?_)
        go_roundw
        case rel => exact ⟨1, by omega, by go_num, HO, hb1⟩
        case measure => simp [intOf] <;> omega
      · have e0 : (24 - 8 * ((1 : Nat) : Int)) = 16 := by omega
        rw [e0]
        obtain ⟨v1, w1, hr, ho1, hb1⟩ := app1 (n / 65536) ho.out hb hB (by simp [num4] <;> omega)
        have HO : Hid (OwnL w1 B v1 (l ++ (num4 n).take 2)) := by
          have : (l ++ (num4 n).take 1) ++ [b8 (n / 65536)] = l ++ (num4 n).take 2 := by simp [num4]
          rw [← this]; exact ho1
        clear ho ho1 hb
        go_wp2_with (at_builtin; refine Lib.wpList_append_run _ rfl _ _ _ _ rfl _ _ rfl rfl _ _ hr ?_)
        go_roundw
        case rel => exact ⟨2, by omega, by go_num, HO, hb1⟩
        case measure => simp [intOf] <;> omega
      · have e0 : (24 - 8 * ((2 : Nat) : Int)) = 8 := by omega
        rw [e0]
        obtain ⟨v1, w1, hr, ho1, hb1⟩ := app1 (n / 256) ho.out hb hB (by simp [num4] <;> omega)
        have HO : Hid (OwnL w1 B v1 (l ++ (num4 n).take 3)) := by
          have : (l ++ (num4 n).take 2) ++ [b8 (n / 256)] = l ++ (num4 n).take 3 := by simp [num4]
          rw [← this]; exact ho1
        clear ho ho1 hb
        go_wp2_with (at_builtin; refine Lib.wpList_append_run _ rfl _ _ _ _ rfl _ _ rfl rfl _ _ hr ?_)
        go_roundw
        case rel => exact ⟨3, by omega, by go_num, HO, hb1⟩
        case measure => simp [intOf] <;> omega
      · have e0 : (24 - 8 * ((3 : Nat) : Int)) = 0 := by omega
        rw [e0]
        obtain ⟨v1, w1, hr, ho1, hb1⟩ := app1 n ho.out hb hB (by simp [num4] <;> omega)
        have HO : Hid (OwnL w1 B v1 (l ++ (num4 n).take 4)) := by
          have : (l ++ (num4 n).take 3) ++ [b8 n] = l ++ (num4 n).take 4 := by simp [num4]
          rw [← this]; exact ho1
        clear ho ho1 hb
        go_wp2_with (at_builtin; refine Lib.wpList_append_run _ rfl _ _ _ _ rfl _ _ rfl rfl _ _ hr ?_)
        go_roundw
        case rel => exact ⟨4, by omega, by go_num, HO, hb1⟩
        case measure => simp [intOf] <;> omega
    · obtain rfl : j = 4 := by omega
      have e0 : (24 - 8 * ((4 : Nat) : Int)) = -8 := by omega
      rw [e0]
      go_wp2
      go_ret
      exact ⟨_, rfl, ho.out, hb⟩

set_option maxRecDepth 100000 in
set_option maxHeartbeats 4000000 in
theorem appendNumber2 (v : Value) (l : List UInt8) (n : Int) (B : Nat) (w : World) (h : OwnL w B v l) (hl : l.length ≤ 1000) (hB : B ≤ w.heap.size) :
    Calls Try.prog 25 #[v, .int .i64 n, .int .i64 2] w fun e w' => ∃ v', e = .returned v' ∧ OwnL w' B v' (l ++ num2 n) ∧ Below B w w' := by
  have H : Hid (OwnL w B v l) := h
  clear h
  go_enter Try.func25, Try.ntmps25
  go_wp2
  go_loopw [0, 7] (fun x s wr => ∃ j : Nat, j ≤ 2 ∧ s = .int .i64 (8 - 8 * j) ∧ Hid (OwnL wr B x (l ++ (num2 n).take j)) ∧ Below B w wr) (fun _ s _ => (intOf s + 8).toNat)
  case atStart => exact ⟨0, by omega, rfl, by simpa using H, Below.refl _ _⟩
  case round =>
    obtain ⟨j, hj, rfl, ho, hb⟩ := hrel
    clear H
    by_cases hlt : j < 2
    · rcases (by omega : j = 0 ∨ j = 1) with rfl | rfl
      · have e0 : (8 - 8 * ((0 : Nat) : Int)) = 8 := by omega
        rw [e0]
        obtain ⟨v1, w1, hr, ho1, hb1⟩ := app1 (n / 256) ho.out hb hB (by simp [num2] <;> omega)
        have HO : Hid (OwnL w1 B v1 (l ++ (num2 n).take 1)) := by
          have : (l ++ (num2 n).take 0) ++ [b8 (n / 256)] = l ++ (num2 n).take 1 := by simp [num2]
          rw [← this]; exact ho1
        clear ho ho1 hb
        go_wp2_with (at_builtin; refine Lib.wpList_append_run _ rfl _ _ _ _ rfl _ _ rfl rfl _ _ hr ?_)
        go_roundw
        case rel => exact ⟨1, by omega, by go_num, HO, hb1⟩
        case measure => simp [intOf] <;> omega
      · have e0 : (8 - 8 * ((1 : Nat) : Int)) = 0 := by omega
        rw [e0]
        obtain ⟨v1, w1, hr, ho1, hb1⟩ := app1 n ho.out hb hB (by simp [num2] <;> omega)
        have HO : Hid (OwnL w1 B v1 (l ++ (num2 n).take 2)) := by
          have : (l ++ (num2 n).take 1) ++ [b8 n] = l ++ (num2 n).take 2 := by simp [num2]
          rw [← this]; exact ho1
        clear ho ho1 hb
        go_wp2_with (at_builtin; refine Lib.wpList_append_run _ rfl _ _ _ _ rfl _ _ rfl rfl _ _ hr ?_)
        go_roundw
        case rel => exact ⟨2, by omega, by go_num, HO, hb1⟩
        case measure => simp [intOf] <;> omega
    · obtain rfl : j = 2 := by omega
      have e0 : (8 - 8 * ((2 : Nat) : Int)) = -8 := by omega
      rw [e0]
      go_wp2
      go_ret
      exact ⟨_, rfl, ho.out, hb⟩
end Go.Proofs.Ytjiehohfbddpcaa
