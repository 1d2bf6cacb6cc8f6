/- Where a name is first found among columns and among indexes, on both sides (stage 11). -/
import Derived.Test.YteejkmcljokloaaGreatDoorNmB
import Derived.Test.YteejkmcljokloaaGreatDoorTbA
import Derived.Test.YteejkmcljokloaaGreatDoorTbB
namespace Go.Proofs.YteejkmcljokloaaGreatDoor
open Go.RowKit

/-- The first of n names that is s; -1 if there is none. -/
def findN (f : Nat → ByteArray) (s : ByteArray) : Nat → Int
  | 0 => -1
  | n + 1 => if 0 ≤ findN f s n then findN f s n else if ((f n).toList == s.toList) = true then (n : Int) else -1
theorem find_none {f : Nat → ByteArray} {s : ByteArray} : ∀ {n : Nat}, (∀ j, j < n → ((f j).toList == s.toList) = false) → findN f s n = -1
  | 0, _ => rfl
  | n + 1, h => by
    unfold findN
    rw [find_none (n := n) (fun j hj => h j (by omega)), h n (by omega)]
    rfl
theorem find_at {f : Nat → ByteArray} {s : ByteArray} {k : Nat} : ∀ {n : Nat}, k < n → (∀ j, j < k → ((f j).toList == s.toList) = false) → ((f k).toList == s.toList) = true → findN f s n = k
  | 0, h, _, _ => by omega
  | n + 1, h, h1, h2 => by
    unfold findN
    by_cases e : k = n
    · subst e
      rw [find_none h1, if_neg (by omega), if_pos h2]
    · rw [find_at (n := n) (by omega) h1 h2, if_pos (by omega)]
theorem find_ge {f : Nat → ByteArray} {s : ByteArray} : ∀ {n : Nat}, 0 ≤ findN f s n ↔ ∃ j, j < n ∧ ((f j).toList == s.toList) = true
  | 0 => ⟨fun h => by unfold findN at h; omega, fun ⟨j, hj, _⟩ => by omega⟩
  | n + 1 => by
    unfold findN
    by_cases h : 0 ≤ findN f s n
    · rw [if_pos h]
      obtain ⟨j, hj, e⟩ := (find_ge (n := n)).1 h
      exact ⟨fun _ => ⟨j, by omega, e⟩, fun _ => h⟩
    · rw [if_neg h]
      by_cases h2 : ((f n).toList == s.toList) = true
      · rw [if_pos h2]
        exact ⟨fun _ => ⟨n, by omega, h2⟩, fun _ => by omega⟩
      · rw [if_neg h2]
        refine ⟨fun h => by omega, fun ⟨j, hj, e⟩ => ?_⟩
        by_cases ej : j = n
        · subst ej; exact absurd e h2
        · exact absurd ((find_ge (n := n)).2 ⟨j, by omega, e⟩) h

/-- The names of C. -/
abbrev nmC (ss : List TC) (i : Nat) : ByteArray := (nthC ss i).1
set_option maxRecDepth 100000 in
theorem cloC_any (x : TC) (s : ByteArray) (B : Nat) (w : World) (hB : B < w.heap.size) (hc : w.cell? ⟨B, 0, none⟩ = some (.string s)) :
    Calls Tryz.prog 117 #[ValC x, .pointer (some ⟨B, 0, none⟩)] w fun e w' => e = .returned (.bool (x.1.toList == s.toList)) ∧ Below w.heap.size w w' := by
  have B0 : Below w.heap.size w (w.alloc (.cells #[.string x.1, .int .i64 x.2.1, .bool x.2.2] 101)) := (Below.refl _ _).alloc (Nat.le_refl _) _
  have hc' : (w.alloc (.cells #[.string x.1, .int .i64 x.2.1, .bool x.2.2] 101)).cell? ⟨B, 0, none⟩ = some (.string s) := (B0.cell (p := ⟨B, 0, none⟩) hB).trans hc
  have hB' : w.heap.size ≠ B := by omega
  go_enter Tryz.func117, Tryz.ntmps117
  go_wp2
  go_ret
  exact ⟨rfl, B0⟩
set_option maxRecDepth 100000 in
set_option maxHeartbeats 1000000 in
theorem idxC_any (a : Option Addr) (cap n : Nat) (ss : List TC) (s : ByteArray) (B : Nat) (w : World) (h : RowC w a ss) (hn : n ≤ ss.length) (hl : n ≤ 1048576) (hB : B < w.heap.size) (hc : w.cell? ⟨B, 0, none⟩ = some (.string s)) :
    Calls Tryz.prog 116 #[.slice a n cap, .func (.func 117) #[] #[.pointer (some ⟨B, 0, none⟩)]] w fun e w' => e = .returned (.int .i64 (findN (nmC ss) s n)) ∧ Below w.heap.size w w' := by
  have HR : Hid (RowC w a ss) := h
  have HC : Hid (B < w.heap.size ∧ w.cell? ⟨B, 0, none⟩ = some (.string s)) := ⟨hB, hc⟩
  have HN : Hid (n ≤ ss.length) := hn
  clear h hn hB hc
  go_enter Tryz.func116, Tryz.ntmps116
  go_wp2
  go_loopw [8] (fun i wr => ∃ k : Nat, k ≤ n ∧ i = .int .i64 k ∧ Hid (∀ j, j < k → ((nmC ss j).toList == s.toList) = false) ∧ Below w.heap.size w wr) (fun i _ => n - (intOf i).toNat)
  case atStart => exact ⟨0, by omega, rfl, fun j hj => by omega, Below.refl _ _⟩
  case round =>
    obtain ⟨k, hk, rfl, HA, hbl⟩ := hrel
    by_cases hlt : k < n
    · have hltI : (k : Int) < (n : Int) := by omega
      obtain ⟨b, off, rfl, hlb, ⟨q0, q1, q2⟩, hsz⟩ := (HR.out.below hbl) k (by have := HN.out; omega)
      have hcl := cloC_any (nthC ss k) s B wr (Nat.lt_of_lt_of_le HC.out.1 hbl.size) ((hbl.cell (p := ⟨B, 0, none⟩) HC.out.1).trans HC.out.2)
      cases hw : ((nmC ss k).toList == s.toList) with
      | true =>
        have HF : Hid (findN (nmC ss) s n = k) := find_at hlt HA.out hw
        have hw' : ((nthC ss k).1.toList == s.toList) = true := hw
        rw [hw'] at hcl
        clear hw hw'
        go_wp2_with fail
        refine hcl.mono ?_
        rintro e w1 ⟨rfl, b1⟩
        have B1 := below_step hbl (Nat.le_refl _) b1
        clear hcl
        go_wp2
        go_ret
        exact ⟨ret_int' HF.out.symm, B1⟩
      | false =>
        have HF : Hid (∀ j, j < k + 1 → ((nmC ss j).toList == s.toList) = false) := all_step HA.out hw
        have hw' : ((nthC ss k).1.toList == s.toList) = false := hw
        rw [hw'] at hcl
        clear hw hw'
        go_wp2_with fail
        refine hcl.mono ?_
        rintro e w1 ⟨rfl, b1⟩
        have B1 := below_step hbl (Nat.le_refl _) b1
        clear hcl
        go_wp2
        go_roundw
        case rel => exact ⟨k + 1, by omega, by go_num, HF, B1⟩
        case measure => simp [intOf]; omega
    · obtain rfl : k = n := by omega
      have HF : Hid (findN (nmC ss) s k = -1) := find_none HA.out
      go_wp2
      go_ret
      exact ⟨ret_int' HF.out.symm, hbl⟩
set_option maxRecDepth 100000 in
theorem findC_any (a : Option Addr) (cap n : Nat) (ss : List TC) (s : ByteArray) (w : World) (h : RowC w a ss) (hn : n ≤ ss.length) (hl : n ≤ 1048576) :
    Calls Tryz.prog 93 #[.slice a n cap, .string s] w fun e w' => e = .returned (.int .i64 (findN (nmC ss) s n)) ∧ Below w.heap.size w w' := by
  have B0 : Below w.heap.size w (w.alloc (.cells #[.string s] 9)) := (Below.refl _ _).alloc (Nat.le_refl _) _
  have hcall := idxC_any a cap n ss s w.heap.size _ (h.below B0) hn hl (by simp) (slab_cell (heap_new' w (.cells #[.string s] 9) _ rfl))
  clear h hn
  go_enter Tryz.func93, Tryz.ntmps93
  go_wp2_with fail
  refine hcall.mono ?_
  rintro e w1 ⟨rfl, b1⟩
  have B1 := below_step B0 (Nat.le_refl _) b1
  clear hcall
  go_wp2
  go_ret
  exact ⟨rfl, B1⟩
set_option maxRecDepth 100000 in
set_option maxHeartbeats 1000000 in
theorem l09C_any (a : Option Addr) (cap n : Nat) (ss : List TC) (s : ByteArray) (w : World) (h : RowC w a ss) (hn : n ≤ ss.length) (hl : n ≤ 1048576) :
    Calls Tryz.prog 61 #[.slice a n cap, .string s] w fun e w' => e = .returned (.int .i64 (findN (nmC ss) s n)) ∧ Below w.heap.size w w' := by
  have HR : Hid (RowC w a ss) := h
  have HN : Hid (n ≤ ss.length) := hn
  clear h hn
  go_enter Tryz.func61, Tryz.ntmps61
  go_wp2
  go_loopw [5] (fun i wr => ∃ k : Nat, k ≤ n ∧ i = .int .i64 k ∧ Hid (∀ j, j < k → ((nmC ss j).toList == s.toList) = false) ∧ Below w.heap.size w wr) (fun i _ => n - (intOf i).toNat)
  case atStart => exact ⟨0, by omega, rfl, fun j hj => by omega, Below.refl _ _⟩
  case round =>
    obtain ⟨k, hk, rfl, HA, hbl⟩ := hrel
    by_cases hlt : k < n
    · have hltI : (k : Int) < (n : Int) := by omega
      obtain ⟨b, off, rfl, hlb, ⟨q0, q1, q2⟩, hsz⟩ := (HR.out.below hbl) k (by have := HN.out; omega)
      cases hw : ((nmC ss k).toList == s.toList) with
      | true =>
        have HF : Hid (findN (nmC ss) s n = k) := find_at hlt HA.out hw
        have hw' : ((nthC ss k).1.toList == s.toList) = true := hw
        clear hw
        go_wp2
        go_ret
        exact ⟨ret_int' HF.out.symm, hbl⟩
      | false =>
        have HF : Hid (∀ j, j < k + 1 → ((nmC ss j).toList == s.toList) = false) := all_step HA.out hw
        have hw' : ((nthC ss k).1.toList == s.toList) = false := hw
        clear hw
        go_wp2
        go_roundw
        case rel => exact ⟨k + 1, by omega, by go_num, HF, hbl⟩
        case measure => simp [intOf]; omega
    · obtain rfl : k = n := by omega
      have HF : Hid (findN (nmC ss) s k = -1) := find_none HA.out
      go_wp2
      go_ret
      exact ⟨ret_int' HF.out.symm, hbl⟩

/-- The names of X. -/
abbrev nmX (ss : List TX) (i : Nat) : ByteArray := (nthX ss i).1
set_option maxRecDepth 100000 in
theorem cloX_any (x : ByteArray) (v : Value) (s : ByteArray) (B : Nat) (w : World) (hB : B < w.heap.size) (hc : w.cell? ⟨B, 0, none⟩ = some (.string s)) :
    Calls Tryz.prog 122 #[ValX x v, .pointer (some ⟨B, 0, none⟩)] w fun e w' => e = .returned (.bool (x.toList == s.toList)) ∧ Below w.heap.size w w' := by
  have B0 : Below w.heap.size w (w.alloc (.cells #[.string x, v] 104)) := (Below.refl _ _).alloc (Nat.le_refl _) _
  have hc' : (w.alloc (.cells #[.string x, v] 104)).cell? ⟨B, 0, none⟩ = some (.string s) := (B0.cell (p := ⟨B, 0, none⟩) hB).trans hc
  have hB' : w.heap.size ≠ B := by omega
  go_enter Tryz.func122, Tryz.ntmps122
  go_wp2
  go_ret
  exact ⟨rfl, B0⟩
set_option maxRecDepth 100000 in
set_option maxHeartbeats 1000000 in
theorem idxX_any (a : Option Addr) (cap n : Nat) (ss : List TX) (s : ByteArray) (B : Nat) (w : World) (h : RowX w a ss) (hn : n ≤ ss.length) (hl : n ≤ 1048576) (hB : B < w.heap.size) (hc : w.cell? ⟨B, 0, none⟩ = some (.string s)) :
    Calls Tryz.prog 121 #[.slice a n cap, .func (.func 122) #[] #[.pointer (some ⟨B, 0, none⟩)]] w fun e w' => e = .returned (.int .i64 (findN (nmX ss) s n)) ∧ Below w.heap.size w w' := by
  have HR : Hid (RowX w a ss) := h
  have HC : Hid (B < w.heap.size ∧ w.cell? ⟨B, 0, none⟩ = some (.string s)) := ⟨hB, hc⟩
  have HN : Hid (n ≤ ss.length) := hn
  clear h hn hB hc
  go_enter Tryz.func121, Tryz.ntmps121
  go_wp2
  go_loopw [8] (fun i wr => ∃ k : Nat, k ≤ n ∧ i = .int .i64 k ∧ Hid (∀ j, j < k → ((nmX ss j).toList == s.toList) = false) ∧ Below w.heap.size w wr) (fun i _ => n - (intOf i).toNat)
  case atStart => exact ⟨0, by omega, rfl, fun j hj => by omega, Below.refl _ _⟩
  case round =>
    obtain ⟨k, hk, rfl, HA, hbl⟩ := hrel
    by_cases hlt : k < n
    · have hltI : (k : Int) < (n : Int) := by omega
      obtain ⟨b, off, ia, ic, rfl, hlb, ⟨q0, q1⟩, hr, hsz⟩ := (HR.out.below hbl) k (by have := HN.out; omega)
      have hcl := cloX_any (nthX ss k).1 (.slice ia (nthX ss k).2.length ic) s B wr (Nat.lt_of_lt_of_le HC.out.1 hbl.size) ((hbl.cell (p := ⟨B, 0, none⟩) HC.out.1).trans HC.out.2)
      cases hw : ((nmX ss k).toList == s.toList) with
      | true =>
        have HF : Hid (findN (nmX ss) s n = k) := find_at hlt HA.out hw
        have hw' : ((nthX ss k).1.toList == s.toList) = true := hw
        rw [hw'] at hcl
        clear hw hw'
        go_wp2_with fail
        refine hcl.mono ?_
        rintro e w1 ⟨rfl, b1⟩
        have B1 := below_step hbl (Nat.le_refl _) b1
        clear hcl
        go_wp2
        go_ret
        exact ⟨ret_int' HF.out.symm, B1⟩
      | false =>
        have HF : Hid (∀ j, j < k + 1 → ((nmX ss j).toList == s.toList) = false) := all_step HA.out hw
        have hw' : ((nthX ss k).1.toList == s.toList) = false := hw
        rw [hw'] at hcl
        clear hw hw'
        go_wp2_with fail
        refine hcl.mono ?_
        rintro e w1 ⟨rfl, b1⟩
        have B1 := below_step hbl (Nat.le_refl _) b1
        clear hcl
        go_wp2
        go_roundw
        case rel => exact ⟨k + 1, by omega, by go_num, HF, B1⟩
        case measure => simp [intOf]; omega
    · obtain rfl : k = n := by omega
      have HF : Hid (findN (nmX ss) s k = -1) := find_none HA.out
      go_wp2
      go_ret
      exact ⟨ret_int' HF.out.symm, hbl⟩
set_option maxRecDepth 100000 in
theorem findX_any (a : Option Addr) (cap n : Nat) (ss : List TX) (s : ByteArray) (w : World) (h : RowX w a ss) (hn : n ≤ ss.length) (hl : n ≤ 1048576) :
    Calls Tryz.prog 95 #[.slice a n cap, .string s] w fun e w' => e = .returned (.int .i64 (findN (nmX ss) s n)) ∧ Below w.heap.size w w' := by
  have B0 : Below w.heap.size w (w.alloc (.cells #[.string s] 9)) := (Below.refl _ _).alloc (Nat.le_refl _) _
  have hcall := idxX_any a cap n ss s w.heap.size _ (h.below B0) hn hl (by simp) (slab_cell (heap_new' w (.cells #[.string s] 9) _ rfl))
  clear h hn
  go_enter Tryz.func95, Tryz.ntmps95
  go_wp2_with fail
  refine hcall.mono ?_
  rintro e w1 ⟨rfl, b1⟩
  have B1 := below_step B0 (Nat.le_refl _) b1
  clear hcall
  go_wp2
  go_ret
  exact ⟨rfl, B1⟩
set_option maxRecDepth 100000 in
set_option maxHeartbeats 1000000 in
theorem l09X_any (a : Option Addr) (cap n : Nat) (ss : List TX) (s : ByteArray) (w : World) (h : RowX w a ss) (hn : n ≤ ss.length) (hl : n ≤ 1048576) :
    Calls Tryz.prog 63 #[.slice a n cap, .string s] w fun e w' => e = .returned (.int .i64 (findN (nmX ss) s n)) ∧ Below w.heap.size w w' := by
  have HR : Hid (RowX w a ss) := h
  have HN : Hid (n ≤ ss.length) := hn
  clear h hn
  go_enter Tryz.func63, Tryz.ntmps63
  go_wp2
  go_loopw [5] (fun i wr => ∃ k : Nat, k ≤ n ∧ i = .int .i64 k ∧ Hid (∀ j, j < k → ((nmX ss j).toList == s.toList) = false) ∧ Below w.heap.size w wr) (fun i _ => n - (intOf i).toNat)
  case atStart => exact ⟨0, by omega, rfl, fun j hj => by omega, Below.refl _ _⟩
  case round =>
    obtain ⟨k, hk, rfl, HA, hbl⟩ := hrel
    by_cases hlt : k < n
    · have hltI : (k : Int) < (n : Int) := by omega
      obtain ⟨b, off, ia, ic, rfl, hlb, ⟨q0, q1⟩, hr, hsz⟩ := (HR.out.below hbl) k (by have := HN.out; omega)
      cases hw : ((nmX ss k).toList == s.toList) with
      | true =>
        have HF : Hid (findN (nmX ss) s n = k) := find_at hlt HA.out hw
        have hw' : ((nthX ss k).1.toList == s.toList) = true := hw
        clear hw
        go_wp2
        go_ret
        exact ⟨ret_int' HF.out.symm, hbl⟩
      | false =>
        have HF : Hid (∀ j, j < k + 1 → ((nmX ss j).toList == s.toList) = false) := all_step HA.out hw
        have hw' : ((nthX ss k).1.toList == s.toList) = false := hw
        clear hw
        go_wp2
        go_roundw
        case rel => exact ⟨k + 1, by omega, by go_num, HF, hbl⟩
        case measure => simp [intOf]; omega
    · obtain rfl : k = n := by omega
      have HF : Hid (findN (nmX ss) s k = -1) := find_none HA.out
      go_wp2
      go_ret
      exact ⟨ret_int' HF.out.symm, hbl⟩
end Go.Proofs.YteejkmcljokloaaGreatDoor
