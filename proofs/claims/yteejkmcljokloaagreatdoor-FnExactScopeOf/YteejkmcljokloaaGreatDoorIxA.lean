/- When a column and an index are right; impl's look at them (stage 11). -/
import Derived.Test.YteejkmcljokloaaGreatDoorFiA
import Derived.Test.YteejkmcljokloaaGreatDoorSrB
namespace Go.Proofs.YteejkmcljokloaaGreatDoor
open Go.RowKit

theorem le_foldMin {c : Int} : ∀ (l : List Int) (a : Int), c ≤ l.foldl min a ↔ c ≤ a ∧ ∀ x ∈ l, c ≤ x
  | [], a => by simp
  | x :: l, a => by
    rw [List.foldl_cons, le_foldMin l (min a x)]
    simp only [List.mem_cons, forall_eq_or_imp]
    constructor
    · intro h; exact ⟨by omega, by omega, h.2⟩
    · intro h; exact ⟨by omega, h.2.2⟩
theorem foldMax_lt {c : Int} : ∀ (l : List Int) (a : Int), l.foldl max a < c ↔ a < c ∧ ∀ x ∈ l, x < c
  | [], a => by simp
  | x :: l, a => by
    rw [List.foldl_cons, foldMax_lt l (max a x)]
    simp only [List.mem_cons, forall_eq_or_imp]
    constructor
    · intro h; exact ⟨by omega, by omega, h.2⟩
    · intro h; exact ⟨by omega, h.2.2⟩
theorem nthI_all {l : List Int} {P : Int → Prop} : (∀ x ∈ l, P x) ↔ ∀ i, i < l.length → P (nthI l i) := by
  constructor
  · intro h i hi; rw [nthI_get hi]; exact h _ (List.getElem_mem _)
  · intro h x hx
    obtain ⟨i, hi, rfl⟩ := List.mem_iff_getElem.1 hx
    have := h i hi
    rw [nthI_get hi] at this; exact this
theorem min_ge {l : List Int} (hl : l.length ≠ 0) : 0 ≤ Lib.minOf l ↔ ∀ i, i < l.length → 0 ≤ nthI l i := by
  rw [← nthI_all (P := fun x => 0 ≤ x)]
  cases l with
  | nil => exact absurd rfl hl
  | cons x t =>
    unfold Lib.minOf
    rw [le_foldMin]
    exact ⟨fun h => h.2, fun h => ⟨h x (by simp), h⟩⟩
theorem max_lt {l : List Int} {n : Int} (hl : l.length ≠ 0) : Lib.maxOf l < n ↔ ∀ i, i < l.length → nthI l i < n := by
  rw [← nthI_all (P := fun x => x < n)]
  cases l with
  | nil => exact absurd rfl hl
  | cons x t =>
    unfold Lib.maxOf
    rw [foldMax_lt]
    exact ⟨fun h => h.2, fun h => ⟨h x (by simp), h⟩⟩

def ColP (x : TC) : Prop := givenB x.1 = true ∧ 1 ≤ x.2.1 ∧ x.2.1 ≤ 4
/-- An index of a table of n columns is right. -/
def IdxP (x : TX) (n : Nat) : Prop := givenB x.1 = true ∧ x.2.length ≠ 0 ∧ x.2.length ≤ n ∧ (∀ i, i < x.2.length → 0 ≤ nthI x.2 i) ∧ (∀ i, i < x.2.length → nthI x.2 i < n) ∧ x.2.Nodup

set_option maxRecDepth 100000 in
set_option maxHeartbeats 1000000 in
theorem columnOK_any (x : TC) (w : World) (hs : x.1.size ≤ maxLen) : Calls Tryz.prog 92 #[ValC x] w fun e w' => e = .returned (.bool (asB (ColP x))) ∧ Below w.heap.size w w' := by
  obtain ⟨kx, tx, nx⟩ := x
  have B0 : Below w.heap.size w (w.alloc (.cells #[.string kx, .int .i64 tx, .bool nx] 101)) := (Below.refl _ _).alloc (Nat.le_refl _) _
  have hc := fun W => isGivenName_any kx W hs
  clear hs
  cases hg : givenB kx with
  | false =>
    have HF : Hid (¬ ColP (kx, tx, nx)) := fun h => by have h1 : givenB kx = true := h.1; rw [hg] at h1; cases h1
    rw [hg] at hc
    clear hg
    go_enter Tryz.func92, Tryz.ntmps92
    go_wp2_with (go_at_call 91; refine (hc _).mono ?_; rintro e w' ⟨rfl, hq⟩; obtain rfl := hq.symm)
    go_ret
    exact ⟨ret_bool' (asB_false HF.out), B0⟩
  | true =>
    have HT : Hid (ColP (kx, tx, nx) ↔ 1 ≤ tx ∧ tx ≤ 4) := ⟨fun h => h.2, fun h => ⟨hg, h⟩⟩
    rw [hg] at hc
    clear hg
    by_cases h1 : 1 ≤ tx
    · go_enter Tryz.func92, Tryz.ntmps92
      go_wp2_with (go_at_call 91; refine (hc _).mono ?_; rintro e w' ⟨rfl, hq⟩; obtain rfl := hq.symm)
      go_ret
      exact ⟨ret_bool' (asB_eq (HT.out.trans (by simp [h1]))), B0⟩
    · have h1' : decide (1 ≤ tx) = false := decide_eq_false h1
      go_enter Tryz.func92, Tryz.ntmps92
      go_wp2_with (go_at_call 91; refine (hc _).mono ?_; rintro e w' ⟨rfl, hq⟩; obtain rfl := hq.symm)
      go_ret
      exact ⟨ret_bool' (asB_false (fun h => by have := (HT.out.1 h).1; omega)), B0⟩

set_option maxRecDepth 100000 in
set_option maxHeartbeats 2000000 in
theorem indexOK_any (nm : ByteArray) (ia : Option Addr) (ic : Nat) (is : List Int) (n : Nat) (w : World) (hI : RowI w ia is) (hs : nm.size ≤ maxLen) (hl : is.length ≤ 1048576) :
    Calls Tryz.prog 94 #[ValX nm (.slice ia is.length ic), .int .i64 n] w fun e w' => e = .returned (.bool (asB (IdxP (nm, is) n))) ∧ Below w.heap.size w w' := by
  obtain ⟨W0, hW0⟩ : ∃ W0, w.alloc (.cells #[.string nm, .slice ia is.length ic] 104) = W0 := ⟨_, rfl⟩
  have B0 : Below w.heap.size w W0 := hW0 ▸ (Below.refl _ _).alloc (Nat.le_refl _) _
  have xb : W0.heap[w.heap.size]? = some (.cells #[.string nm, .slice ia is.length ic] 104 (0, 0)) := hW0 ▸ heap_new' _ _ _ rfl
  have c0 : W0.cell? ⟨w.heap.size, 0, none⟩ = some (.string nm) := by simp [World.cell?, xb]
  have c1 : W0.cell? ⟨w.heap.size, 1, none⟩ = some (.slice ia is.length ic) := by simp [World.cell?, xb]
  have HI : Hid (RowI W0 ia is) := hI.below B0
  have hc := isGivenName_any nm W0 hs
  clear xb hs hI
  cases hg : givenB nm with
  | false =>
    have HF : Hid (¬ IdxP (nm, is) n) := fun h => by have h1 : givenB nm = true := h.1; rw [hg] at h1; cases h1
    rw [hg] at hc
    clear hg
    go_enter Tryz.func94, Tryz.ntmps94
    go_wp2_with (go_at_call 91; refine hc.mono ?_; rintro e w' ⟨rfl, hq⟩; obtain rfl := hq.symm)
    go_ret
    exact ⟨ret_bool' (asB_false HF.out), B0⟩
  | true =>
    rw [hg] at hc
    by_cases h0 : is.length = 0
    · have HF : Hid (¬ IdxP (nm, is) n) := fun h => h.2.1 h0
      have hz : ((is.length : Int) == 0) = true := by simp [h0]
      clear hg h0
      go_enter Tryz.func94, Tryz.ntmps94
      go_wp2_with (go_at_call 91; refine hc.mono ?_; rintro e w' ⟨rfl, hq⟩; obtain rfl := hq.symm)
      go_ret
      exact ⟨ret_bool' (asB_false HF.out), B0⟩
    have hz : ((is.length : Int) == 0) = false := by simpa using h0
    by_cases h1 : n < is.length
    · have HF : Hid (¬ IdxP (nm, is) n) := fun h => by have h2 : is.length ≤ n := h.2.2.1; omega
      have h1' : (n : Int) < (is.length : Int) := by omega
      clear hg h0
      go_enter Tryz.func94, Tryz.ntmps94
      go_wp2_with (go_at_call 91; refine hc.mono ?_; rintro e w' ⟨rfl, hq⟩; obtain rfl := hq.symm)
      go_ret
      exact ⟨ret_bool' (asB_false HF.out), B0⟩
    have h1' : ¬ (n : Int) < (is.length : Int) := by omega
    obtain ⟨b, off, rfl, hb, _⟩ := HI.out 0 (by omega)
    have hcell : ∀ j, j < is.length → W0.cell? ⟨b, off + j, none⟩ = some (.int .i64 (is.getD j 0)) := fun j hj => by
      obtain ⟨b', off', e, _, hc⟩ := HI.out j hj
      cases e
      exact hc
    have hmin := Tryz.slices_Min_int b off is.length ic is W0 (by omega) (Nat.le_refl _) (by omega) hcell
    have hmax := Tryz.slices_Max_int b off is.length ic is W0 (by omega) (Nat.le_refl _) (by omega) hcell
    have htw := hasTwice_any (some ⟨b, off, none⟩) ic is W0 HI.out hl
    rw [List.take_length] at hmin hmax
    have HM : Hid (0 ≤ Lib.minOf is ↔ ∀ i, i < is.length → 0 ≤ nthI is i) := min_ge h0
    have HX : Hid (Lib.maxOf is < n ↔ ∀ i, i < is.length → nthI is i < n) := max_lt h0
    have HT : Hid (IdxP (nm, is) n ↔ 0 ≤ Lib.minOf is ∧ Lib.maxOf is < n ∧ is.Nodup) := by
      show _ ↔ _
      rw [HM.out, HX.out]
      exact ⟨fun h => h.2.2.2, fun h => ⟨hg, h0, by show is.length ≤ n; omega, h⟩⟩
    clear hcell HM HX hg h0 h1 hb
    generalize Lib.minOf is = mn at *
    generalize Lib.maxOf is = mx at *
    by_cases g1 : 0 ≤ mn
    · have g1' : decide (0 ≤ mn) = true := decide_eq_true g1
      by_cases g2 : mx < (n : Int)
      · have g2' : decide (mx < (n : Int)) = true := decide_eq_true g2
        have HE : Hid (IdxP (nm, is) n ↔ is.Nodup) := ⟨fun h => (HT.out.1 h).2.2, fun h => HT.out.2 ⟨g1, g2, h⟩⟩
        have HB : Hid ((!asB (¬ is.Nodup)) = asB (IdxP (nm, is) n)) := by
          show _ = _
          rw [asB_iff HE.out]
          cases h : asB (¬ is.Nodup) with
          | true => exact asB_false (asB_is h)
          | false => exact asB_true (Classical.not_not.1 (asB_not h))
        clear HT HE
        generalize asB (¬ is.Nodup) = tw at *
        go_enter Tryz.func94, Tryz.ntmps94
        go_wp2_with (first | (go_at_call 91; refine hc.mono ?_; rintro e w' ⟨rfl, hq⟩; obtain rfl := hq.symm) | (go_at_call 118; refine hmin.mono ?_; rintro e w' ⟨rfl, hq⟩; obtain rfl := hq.symm) | (go_at_call 119; refine hmax.mono ?_; rintro e w' ⟨rfl, hq⟩; obtain rfl := hq.symm) | (go_at_call 120; refine htw.mono ?_; rintro e w1 ⟨rfl, b1⟩))
        go_ret
        exact ⟨ret_bool' HB.out, below_step B0 (Nat.le_refl _) b1⟩
      · have g2' : decide (mx < (n : Int)) = false := decide_eq_false g2
        have HF : Hid (¬ IdxP (nm, is) n) := fun h => g2 (HT.out.1 h).2.1
        clear HT
        go_enter Tryz.func94, Tryz.ntmps94
        go_wp2_with (first | (go_at_call 91; refine hc.mono ?_; rintro e w' ⟨rfl, hq⟩; obtain rfl := hq.symm) | (go_at_call 118; refine hmin.mono ?_; rintro e w' ⟨rfl, hq⟩; obtain rfl := hq.symm) | (go_at_call 119; refine hmax.mono ?_; rintro e w' ⟨rfl, hq⟩; obtain rfl := hq.symm))
        go_ret
        exact ⟨ret_bool' (asB_false HF.out), B0⟩
    · have g1' : decide (0 ≤ mn) = false := decide_eq_false g1
      have HF : Hid (¬ IdxP (nm, is) n) := fun h => g1 (HT.out.1 h).1
      clear HT
      go_enter Tryz.func94, Tryz.ntmps94
      go_wp2_with (first | (go_at_call 91; refine hc.mono ?_; rintro e w' ⟨rfl, hq⟩; obtain rfl := hq.symm) | (go_at_call 118; refine hmin.mono ?_; rintro e w' ⟨rfl, hq⟩; obtain rfl := hq.symm))
      go_ret
      exact ⟨ret_bool' (asB_false HF.out), B0⟩
end Go.Proofs.YteejkmcljokloaaGreatDoor
