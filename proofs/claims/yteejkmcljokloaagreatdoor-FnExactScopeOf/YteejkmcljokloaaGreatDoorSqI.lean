/- impl's selectOK (stage 11). -/
import Derived.Test.YteejkmcljokloaaGreatDoorSqG
namespace Go.Proofs.YteejkmcljokloaaGreatDoor
open Go.RowKit

/-- The kinds of the parts of a query, in their order. -/
def O7 : List Int := [5, 6, 7, 8, 9, 10, 11]
/-- As many parts of each kind as there may be. -/
def condS (c : Nat → Nat) : Bool := decide (0 < c 0) && ((c 1 == 2 && c 2 == 1) || (c 1 == 1 && c 2 == 0)) && decide (c 3 ≤ 1) && decide (c 4 ≤ 1) && decide (c 6 ≤ 1)
/-- The parts of a query are right. -/
def selB (f : Fo) : Bool := (match rn O7 (kindsF f) with
  | some cs => condS (fun j => cs.getD j 0)
  | none => false) && allP f
theorem rn1_mem {o : Int} {k : List Int → Option (List Nat)} {P : Int → Prop} (ho : P o) (hk : ∀ L cs, k L = some cs → ∀ x ∈ L, P x) : ∀ (L : List Int) (cs : List Nat), rn1 o k L = some cs → ∀ x ∈ L, P x
  | [], _, _, x, hx => by simp at hx
  | y :: L, cs, h, x, hx => by
    unfold rn1 at h
    by_cases e : y = o
    · rw [if_pos e] at h
      obtain ⟨cs', h', _⟩ := Option.map_eq_some_iff.1 h
      rcases List.mem_cons.1 hx with rfl | hx
      · rw [e]; exact ho
      · exact rn1_mem ho hk L cs' h' x hx
    · rw [if_neg e] at h
      obtain ⟨cs', h', _⟩ := Option.map_eq_some_iff.1 h
      exact hk _ _ h' x hx
theorem rn_mem : ∀ (O L : List Int) (cs : List Nat), rn O L = some cs → ∀ x ∈ L, x ∈ O
  | [], [], _, _, x, hx => by simp at hx
  | [], _ :: _, _, h, _, _ => by cases h
  | o :: os, L, cs, h, x, hx => rn1_mem (P := fun x => x ∈ o :: os) (by simp) (fun L cs h x hx => List.mem_cons_of_mem _ (rn_mem os L cs h x hx)) L cs h x hx
theorem rn_kinds {O : List Int} {f : Fo} {cs : List Nat} (h : rn O (kindsF f) = some cs) (i : Nat) (hi : i < f.len) : (f.node i).k ∈ O := by
  have hl : i < (kindsF f).length := by rw [kindsF_len]; exact hi
  have := rn_mem O _ cs h _ (List.getElem_mem hl)
  rwa [kindsF_get] at this

set_option maxRecDepth 100000 in
set_option maxHeartbeats 4000000 in
theorem selectOK_any (f : Fo) (a : Option Addr) (cap : Nat) (w : World) (hrow : RowT 0 w a 0 f) (hsz : f.size ≤ 1048576) :
    Calls Tryz.prog 74 #[.slice a f.len cap] w fun e w' => e = .returned (.bool (selB f)) ∧ Below w.heap.size w w' := by
  have HR : Hid (RowT 0 w a 0 f ∧ f.size ≤ 1048576) := ⟨hrow, hsz⟩
  have hlen : f.len ≤ 1048576 := by have := f.len_le; omega
  clear hsz
  have B1 : Below w.heap.size w (w.alloc (.cells #[.int .i64 5, .int .i64 6, .int .i64 7, .int .i64 8, .int .i64 9, .int .i64 10, .int .i64 11] 3)) := (Below.refl _ _).alloc (Nat.le_refl _) _
  have hcl : Calls Tryz.prog 76 #[.slice a f.len cap, .slice (some ⟨w.heap.size, 0, none⟩) 7 7] (w.alloc (.cells #[.int .i64 5, .int .i64 6, .int .i64 7, .int .i64 8, .int .i64 9, .int .i64 10, .int .i64 11] 3)) (RetC (w.alloc (.cells #[.int .i64 5, .int .i64 6, .int .i64 7, .int .i64 8, .int .i64 9, .int .i64 10, .int .i64 11] 3)) f O7) :=
    countParts_any f a cap O7 (some ⟨w.heap.size, 0, none⟩) 7 _ (hrow.below B1) hlen (fun j hj => by
      have hj' : j < 7 := hj
      refine ⟨w.heap.size, 0, rfl, by simp, (slab_cell (heap_new' _ _ _ rfl)).trans ?_⟩
      rw [Nat.zero_add]
      match j, hj' with
      | 0, _ => rfl
      | 1, _ => rfl
      | 2, _ => rfl
      | 3, _ => rfl
      | 4, _ => rfl
      | 5, _ => rfl
      | 6, _ => rfl) (by decide)
  obtain ⟨len, hL⟩ : ∃ m, f.len = m := ⟨_, rfl⟩
  have HL : Hid (f.len = len) := hL
  rw [hL] at hcl hlen ⊢
  clear hrow hL
  go_enter Tryz.func74, Tryz.ntmps74
  go_wp2_with fail
  refine hcl.mono ?_
  rintro e w1 ⟨g, c, i, rfl, hg, hC, hi, hJ, b1⟩
  have B2 : Below w.heap.size w w1 := B1.trans (b1.mono B1.size)
  have hrn : rn O7 (kindsF f) = if i = len then some ((List.range 7).map c) else none := by
    have := hJ.last (by rw [kindsF_len]; exact hi)
    rwa [kindsF_len, HL.out] at this
  rw [HL.out] at hi
  have m0 : w1.cell? ⟨g, 0, none⟩ = some (.int .i64 (c 0 : Nat)) := hC.cell (j := 0) (by decide)
  have m1 : w1.cell? ⟨g, 1, none⟩ = some (.int .i64 (c 1 : Nat)) := hC.cell (j := 1) (by decide)
  have m2 : w1.cell? ⟨g, 2, none⟩ = some (.int .i64 (c 2 : Nat)) := hC.cell (j := 2) (by decide)
  have m3 : w1.cell? ⟨g, 3, none⟩ = some (.int .i64 (c 3 : Nat)) := hC.cell (j := 3) (by decide)
  have m4 : w1.cell? ⟨g, 4, none⟩ = some (.int .i64 (c 4 : Nat)) := hC.cell (j := 4) (by decide)
  have m6 : w1.cell? ⟨g, 6, none⟩ = some (.int .i64 (c 6 : Nat)) := hC.cell (j := 6) (by decide)
  rw [HL.out, show O7.length = 7 from rfl]
  clear hC hJ b1 hcl B1 hg
  have hall : i = len → Calls Tryz.prog 77 #[.slice a len cap] w1.drew fun e w' => e = .returned (.bool (allP f)) ∧ Below w1.drew.heap.size w1.drew w' := fun e => by
    rw [← HL.out]
    refine allParts_any f (fun j hj => ?_) a cap w1.drew (HR.out.1.below B2.drew) HR.out.2
    have := rn_kinds (hrn.trans (if_pos e)) j hj
    simp [O7] at this
    omega
  have HS : Hid (selB f = ((if i = len then condS c else false) && allP f)) := by
    show _ = _
    unfold selB
    rw [hrn]
    by_cases e : i = len
    · rw [if_pos e, if_pos e]
      rfl
    · rw [if_neg e, if_neg e]
  clear hrn
  have HD : Hid (condS c = decide (0 < c 0 ∧ ((c 1 = 2 ∧ c 2 = 1) ∨ (c 1 = 1 ∧ c 2 = 0)) ∧ c 3 ≤ 1 ∧ c 4 ≤ 1 ∧ c 6 ≤ 1)) := by
    show _ = _
    rw [Bool.eq_iff_iff]
    simp [condS]
    omega
  have HB : Hid (Below w.heap.size w w1) := B2
  clear B2
  generalize c 0 = z0 at *
  generalize c 1 = z1 at *
  generalize c 2 = z2 at *
  generalize c 3 = z3 at *
  generalize c 4 = z4 at *
  generalize c 6 = z6 at *
  go_wp2_with fail
  go_region
  by_cases hil : i = len
  · subst hil
    have hcall := hall rfl
    clear hall
    by_cases hcd : 0 < z0 ∧ ((z1 = 2 ∧ z2 = 1) ∨ (z1 = 1 ∧ z2 = 0)) ∧ z3 ≤ 1 ∧ z4 ≤ 1 ∧ z6 ≤ 1
    · have HF : Hid (selB f = allP f) := by show _ = _; rw [HS.out, if_pos rfl, HD.out, decide_eq_true hcd]; rfl
      obtain ⟨d0, d1, d3, d4, d6⟩ := hcd
      have i0 : ¬ ((z0 : Int) = 0) := by omega
      have i3 : (z3 : Int) ≤ 1 := by omega
      have i4 : (z4 : Int) ≤ 1 := by omega
      have i6 : (z6 : Int) ≤ 1 := by omega
      rcases d1 with ⟨rfl, rfl⟩ | ⟨rfl, rfl⟩
      all_goals
        go_wp2_with fail
        refine hcall.mono ?_
        rintro e w3 ⟨rfl, b3⟩
        have B3 : Below w.heap.size w w3 := below_step HB.out.drew (Nat.le_refl _) b3
        clear b3 hcall
        go_wp2
        go_ret
        exact ⟨ret_bool' HF.out.symm, B3⟩
    · have HF : Hid (selB f = false) := by show _ = _; rw [HS.out, if_pos rfl, HD.out, decide_eq_false hcd]; rfl
      have HC : Hid (¬ (0 < z0 ∧ ((z1 = 2 ∧ z2 = 1) ∨ (z1 = 1 ∧ z2 = 0)) ∧ z3 ≤ 1 ∧ z4 ≤ 1 ∧ z6 ≤ 1)) := hcd
      clear hcd hcall
      go_wp2_with (first | (go_at_call 77; exfalso; have hh := HC.out; clear HC HF HD HS HB m0 m1 m2 m3 m4 m6; first | (simp_all; done) | (simp_all; omega)) | fail)
      all_goals
        go_ret
        exact ⟨ret_bool' HF.out.symm, HB.out.drew⟩
  · have hil' : ¬ ((i : Int) = (len : Int)) := by omega
    have HF : Hid (selB f = false) := by show _ = _; rw [HS.out, if_neg hil]; rfl
    clear hall
    go_wp2
    all_goals
      go_ret
      exact ⟨ret_bool' HF.out.symm, HB.out.drew⟩
end Go.Proofs.YteejkmcljokloaaGreatDoor
