/- The specification's l10Part (stage 11). -/
import Derived.Test.YteejkmcljokloaaGreatDoorSqE
import Derived.Test.YteejkmcljokloaaGreatDoorSqG
namespace Go.Proofs.YteejkmcljokloaaGreatDoor
open Go.RowKit

/-- A tree lies in block b; what lay in w lies there still. -/
def OneB (w : World) (b : Nat) (x : ND) (s : Value) (W : World) : Prop := BoxN b x s W ∧ Below w.heap.size w W
theorem OneB.keep {w : World} {b : Nat} {x : ND} {s : Value} {W W' : World} (h : OneB w b x s W) (hb : Below W.heap.size W W') : OneB w b x s W' := ⟨h.1.below hb, below_step h.2 (Nat.le_refl _) hb⟩
theorem OneB.facts {w : World} {b : Nat} {x : ND} {s : Value} {W : World} (h : OneB w b x s W) : W.cell? ⟨b, 0, none⟩ = some (.int .i64 x.k) ∧ W.cell? ⟨b, 1, none⟩ = some (.int .i64 x.n) ∧ W.cell? ⟨b, 2, none⟩ = some (.string x.nm) ∧ W.cell? ⟨b, 3, none⟩ = some (.string x.of) ∧ W.cell? ⟨b, 4, none⟩ = some (.int .i64 x.vk) ∧ W.cell? ⟨b, 5, none⟩ = some (.int .i64 x.vn) ∧ W.cell? ⟨b, 6, none⟩ = some (.string x.vt) ∧ W.cell? ⟨b, 7, none⟩ = some s := h.1.1
theorem OneB.new {w : World} {x : ND} {s : Value} : OneB w w.heap.size x s (w.alloc (.cells #[.int .i64 x.k, .int .i64 x.n, .string x.nm, .string x.of, .int .i64 x.vk, .int .i64 x.vn, .string x.vt, s] 38)) :=
  ⟨BoxN.new 38, (Below.refl _ _).alloc (Nat.le_refl _) _⟩

set_option maxRecDepth 100000 in
set_option maxHeartbeats 4000000 in
theorem partBadV (k n : Int) (nm of : ByteArray) (vk vn : Int) (vt : ByteArray) (ks : Fo) (v : Value) (w : World) (h : ¬ (vk = 0 ∧ vn = 0 ∧ vt.toList = [])) :
    Calls Tryz.prog 64 #[ValT ⟨k, n, nm, of, vk, vn, vt⟩ v] w fun e w' => e = .returned (.bool (partB ⟨k, n, nm, of, vk, vn, vt⟩ ks)) ∧ Below w.heap.size w w' := by
  have HE : Hid (partB ⟨k, n, nm, of, vk, vn, vt⟩ ks = false) := by
    show _ = _
    have hv : noV ⟨k, n, nm, of, vk, vn, vt⟩ = false := by
      cases hf : noV ⟨k, n, nm, of, vk, vn, vt⟩ with
      | false => rfl
      | true => exact absurd (by simp [noV, emp] at hf; simp_all) h
    unfold partB
    by_cases h1 : k = 6 ∨ k = 11
    · rcases h1 with rfl | rfl <;> simp [fieldB, hv]
    by_cases h2 : k = 5 ∨ k = 10
    · rcases h2 with rfl | rfl <;> simp [fieldB, hv]
    by_cases h3 : k = 7 ∨ k = 8 ∨ k = 12
    · rcases h3 with rfl | rfl | rfl <;> simp [fieldB, hv]
    by_cases h4 : k = 9
    · subst h4; simp [fieldB, hv]
    simp only [h1, h2, h3, h4, if_false, Bool.and_false]
  have HB : Hid (∀ o, Below w.heap.size w (w.alloc o)) := fun o => (Below.refl _ _).alloc (Nat.le_refl _) _
  by_cases h2 : vk = 0
  · subst h2
    by_cases h3 : vn = 0
    · subst h3
      have h4 : ¬ vt.toList = [] := fun e => h ⟨rfl, rfl, e⟩
      clear h
      go_enter Tryz.func64, Tryz.ntmps64
      go_wp2
      all_goals
        go_ret
        exact ⟨ret_bool' HE.out.symm, HB.out _⟩
    · clear h
      go_enter Tryz.func64, Tryz.ntmps64
      go_wp2
      all_goals
        go_ret
        exact ⟨ret_bool' HE.out.symm, HB.out _⟩
  · clear h
    go_enter Tryz.func64, Tryz.ntmps64
    go_wp2
    all_goals
      go_ret
      exact ⟨ret_bool' HE.out.symm, HB.out _⟩

set_option maxRecDepth 100000 in
set_option maxHeartbeats 4000000 in
theorem partBadN5 (n : Int) (nm of vt : ByteArray) (ks : Fo) (v : Value) (w : World) (hv : vt.toList = []) (h : ¬ n = 0) :
    Calls Tryz.prog 64 #[ValT ⟨5, n, nm, of, 0, 0, vt⟩ v] w fun e w' => e = .returned (.bool (partB ⟨5, n, nm, of, 0, 0, vt⟩ ks)) ∧ Below w.heap.size w w' := by
  have HE : Hid (partB ⟨5, n, nm, of, 0, 0, vt⟩ ks = false) := by show _ = _; unfold partB; simp [fieldB, h]
  have HB : Hid (∀ o, Below w.heap.size w (w.alloc o)) := fun o => (Below.refl _ _).alloc (Nat.le_refl _) _
  go_enter Tryz.func64, Tryz.ntmps64
  go_wp2
  all_goals
    go_ret
    exact ⟨ret_bool' HE.out.symm, HB.out _⟩

set_option maxRecDepth 100000 in
set_option maxHeartbeats 4000000 in
theorem partBadN6 (n : Int) (nm of vt : ByteArray) (ks : Fo) (v : Value) (w : World) (hv : vt.toList = []) (h : ¬ n = 0) :
    Calls Tryz.prog 64 #[ValT ⟨6, n, nm, of, 0, 0, vt⟩ v] w fun e w' => e = .returned (.bool (partB ⟨6, n, nm, of, 0, 0, vt⟩ ks)) ∧ Below w.heap.size w w' := by
  have HE : Hid (partB ⟨6, n, nm, of, 0, 0, vt⟩ ks = false) := by show _ = _; unfold partB; simp [fieldB, h]
  have HB : Hid (∀ o, Below w.heap.size w (w.alloc o)) := fun o => (Below.refl _ _).alloc (Nat.le_refl _) _
  go_enter Tryz.func64, Tryz.ntmps64
  go_wp2
  all_goals
    go_ret
    exact ⟨ret_bool' HE.out.symm, HB.out _⟩

set_option maxRecDepth 100000 in
set_option maxHeartbeats 4000000 in
theorem partBadN7 (n : Int) (nm of vt : ByteArray) (ks : Fo) (v : Value) (w : World) (hv : vt.toList = []) (h : ¬ n = 0) :
    Calls Tryz.prog 64 #[ValT ⟨7, n, nm, of, 0, 0, vt⟩ v] w fun e w' => e = .returned (.bool (partB ⟨7, n, nm, of, 0, 0, vt⟩ ks)) ∧ Below w.heap.size w w' := by
  have HE : Hid (partB ⟨7, n, nm, of, 0, 0, vt⟩ ks = false) := by show _ = _; unfold partB; simp [fieldB, h]
  have HB : Hid (∀ o, Below w.heap.size w (w.alloc o)) := fun o => (Below.refl _ _).alloc (Nat.le_refl _) _
  go_enter Tryz.func64, Tryz.ntmps64
  go_wp2
  all_goals
    go_ret
    exact ⟨ret_bool' HE.out.symm, HB.out _⟩

set_option maxRecDepth 100000 in
set_option maxHeartbeats 4000000 in
theorem partBadN8 (n : Int) (nm of vt : ByteArray) (ks : Fo) (v : Value) (w : World) (hv : vt.toList = []) (h : ¬ n = 0) :
    Calls Tryz.prog 64 #[ValT ⟨8, n, nm, of, 0, 0, vt⟩ v] w fun e w' => e = .returned (.bool (partB ⟨8, n, nm, of, 0, 0, vt⟩ ks)) ∧ Below w.heap.size w w' := by
  have HE : Hid (partB ⟨8, n, nm, of, 0, 0, vt⟩ ks = false) := by show _ = _; unfold partB; simp [fieldB, h]
  have HB : Hid (∀ o, Below w.heap.size w (w.alloc o)) := fun o => (Below.refl _ _).alloc (Nat.le_refl _) _
  go_enter Tryz.func64, Tryz.ntmps64
  go_wp2
  all_goals
    go_ret
    exact ⟨ret_bool' HE.out.symm, HB.out _⟩

set_option maxRecDepth 100000 in
set_option maxHeartbeats 4000000 in
theorem partBadN9 (n : Int) (nm of vt : ByteArray) (ks : Fo) (v : Value) (w : World) (hv : vt.toList = []) (h : ¬ n = 0) :
    Calls Tryz.prog 64 #[ValT ⟨9, n, nm, of, 0, 0, vt⟩ v] w fun e w' => e = .returned (.bool (partB ⟨9, n, nm, of, 0, 0, vt⟩ ks)) ∧ Below w.heap.size w w' := by
  have HE : Hid (partB ⟨9, n, nm, of, 0, 0, vt⟩ ks = false) := by show _ = _; unfold partB; simp [fieldB, h]
  have HB : Hid (∀ o, Below w.heap.size w (w.alloc o)) := fun o => (Below.refl _ _).alloc (Nat.le_refl _) _
  go_enter Tryz.func64, Tryz.ntmps64
  go_wp2
  all_goals
    go_ret
    exact ⟨ret_bool' HE.out.symm, HB.out _⟩

set_option maxRecDepth 100000 in
set_option maxHeartbeats 4000000 in
theorem partBadN12 (n : Int) (nm of vt : ByteArray) (ks : Fo) (v : Value) (w : World) (hv : vt.toList = []) (h : ¬ n = 0) :
    Calls Tryz.prog 64 #[ValT ⟨12, n, nm, of, 0, 0, vt⟩ v] w fun e w' => e = .returned (.bool (partB ⟨12, n, nm, of, 0, 0, vt⟩ ks)) ∧ Below w.heap.size w w' := by
  have HE : Hid (partB ⟨12, n, nm, of, 0, 0, vt⟩ ks = false) := by show _ = _; unfold partB; simp [fieldB, h]
  have HB : Hid (∀ o, Below w.heap.size w (w.alloc o)) := fun o => (Below.refl _ _).alloc (Nat.le_refl _) _
  go_enter Tryz.func64, Tryz.ntmps64
  go_wp2
  all_goals
    go_ret
    exact ⟨ret_bool' HE.out.symm, HB.out _⟩

set_option maxRecDepth 100000 in
set_option maxHeartbeats 4000000 in
theorem partNo (k n : Int) (nm of vt : ByteArray) (ks : Fo) (v : Value) (w : World) (hv : vt.toList = []) (h5 : ¬ k = 5) (h6 : ¬ k = 6) (h7 : ¬ k = 7) (h8 : ¬ k = 8) (h9 : ¬ k = 9) (h10 : ¬ k = 10) (h11 : ¬ k = 11) (h12 : ¬ k = 12) :
    Calls Tryz.prog 64 #[ValT ⟨k, n, nm, of, 0, 0, vt⟩ v] w fun e w' => e = .returned (.bool (partB ⟨k, n, nm, of, 0, 0, vt⟩ ks)) ∧ Below w.heap.size w w' := by
  have HE : Hid (partB ⟨k, n, nm, of, 0, 0, vt⟩ ks = false) := by show _ = _; unfold partB; simp [h5, h6, h7, h8, h9, h10, h11, h12]
  go_enter Tryz.func64, Tryz.ntmps64
  go_wp2
  go_ret
  exact ⟨ret_bool' HE.out.symm, (Below.refl _ _).alloc (Nat.le_refl _) _⟩

set_option maxRecDepth 100000 in
set_option maxHeartbeats 4000000 in
theorem partS6 (nm of vt : ByteArray) (ks : Fo) (ka : Option Addr) (kc : Nat) (w : World) (ht : nm.size ≤ maxLen ∧ of.size ≤ maxLen) (hv : vt.toList = []) :
    Calls Tryz.prog 64 #[ValT ⟨6, 0, nm, of, 0, 0, vt⟩ (.slice ka ks.len kc)] w fun e w' => e = .returned (.bool (partB ⟨6, 0, nm, of, 0, 0, vt⟩ ks)) ∧ Below w.heap.size w w' := by
  have HT : Hid (nm.size ≤ maxLen ∧ of.size ≤ maxLen) := ht
  obtain ⟨len, hL⟩ : ∃ m, ks.len = m := ⟨_, rfl⟩
  have HE : Hid (partB ⟨6, 0, nm, of, 0, 0, vt⟩ ks = (givenB nm && (emp of || givenB of) && ((len : Int) == 0))) := by
    show _ = _
    have h0 : (len == 0) = ((len : Int) == 0) := by rw [Bool.eq_iff_iff]; simp
    unfold partB
    rw [hL, h0]
    simp [fieldB, noV, emp, hv]
  rw [hL]
  clear hL ht
  have X0 : Hid (OneB w w.heap.size ⟨6, 0, nm, of, 0, 0, vt⟩ (.slice ka len kc) _) := OneB.new (x := ⟨6, 0, nm, of, 0, 0, vt⟩)
  go_enter Tryz.func64, Tryz.ntmps64
  go_wp2_with (first | (go_at_call 42; refine (l09Name_any _ _ (by first | exact HT.out.1 | exact HT.out.2)).mono ?_; rintro e w' ⟨rfl, hb⟩; have X := OneB.keep (Hid.out (p := OneB w w.heap.size _ (.slice ka len kc) _) (by assumption)) hb; have XH : Hid (OneB w w.heap.size _ (.slice ka len kc) _) := X; obtain ⟨y0, y1, y2, y3, y4, y5, y6, y7⟩ := X.facts; clear X hb) | fail)
  all_goals
    go_ret
    refine ⟨ret_bool' ?_, (Hid.out (p := OneB w w.heap.size _ (.slice ka len kc) _) (by assumption)).2⟩
    rw [HE.out]
    simp_all [emp]

set_option maxRecDepth 100000 in
set_option maxHeartbeats 4000000 in
theorem partS11 (n : Int) (nm of vt : ByteArray) (ks : Fo) (ka : Option Addr) (kc : Nat) (w : World) (hv : vt.toList = []) :
    Calls Tryz.prog 64 #[ValT ⟨11, n, nm, of, 0, 0, vt⟩ (.slice ka ks.len kc)] w fun e w' => e = .returned (.bool (partB ⟨11, n, nm, of, 0, 0, vt⟩ ks)) ∧ Below w.heap.size w w' := by
  obtain ⟨len, hL⟩ : ∃ m, ks.len = m := ⟨_, rfl⟩
  have HE : Hid (partB ⟨11, n, nm, of, 0, 0, vt⟩ ks = (inB n 0 999999999999999999 && emp nm && emp of && ((len : Int) == 0))) := by
    show _ = _
    have h0 : (len == 0) = ((len : Int) == 0) := by rw [Bool.eq_iff_iff]; simp
    unfold partB
    rw [hL, h0]
    simp [fieldB, noV, emp, hv]
  rw [hL]
  clear hL
  have X0 : Hid (OneB w w.heap.size ⟨11, n, nm, of, 0, 0, vt⟩ (.slice ka len kc) _) := OneB.new (x := ⟨11, n, nm, of, 0, 0, vt⟩)
  go_enter Tryz.func64, Tryz.ntmps64
  go_wp2_with (first | (go_at_call 60; refine (l01In_any _ _ _ _).mono ?_; rintro e w' ⟨rfl, hq⟩; obtain rfl := hq.symm) | fail)
  all_goals
    go_ret
    refine ⟨ret_bool' ?_, (Hid.out (p := OneB w w.heap.size _ (.slice ka len kc) _) (by assumption)).2⟩
    rw [HE.out]
    simp_all [emp]

set_option maxRecDepth 100000 in
set_option maxHeartbeats 4000000 in
theorem partS7 (nm of vt : ByteArray) (ks : Fo) (ka : Option Addr) (kc : Nat) (w : World) (hrow : RowT 0 w ka 0 ks) (hv : vt.toList = []) :
    Calls Tryz.prog 64 #[ValT ⟨7, 0, nm, of, 0, 0, vt⟩ (.slice ka ks.len kc)] w fun e w' => e = .returned (.bool (partB ⟨7, 0, nm, of, 0, 0, vt⟩ ks)) ∧ Below w.heap.size w w' := by
  obtain ⟨len, hL⟩ : ∃ m, ks.len = m := ⟨_, rfl⟩
  have HE : Hid (partB ⟨7, 0, nm, of, 0, 0, vt⟩ ks = (emp nm && emp of && (len == 1 && allE ks false))) := by
    show _ = _
    unfold partB
    rw [hL]
    simp [fieldB, noV, emp, hv]
  have HR : Hid (RowT 0 w ka 0 ks) := hrow
  have HL : Hid (ks.len = len) := hL
  rw [hL]
  clear hL hrow
  have X0 : Hid (OneB w w.heap.size ⟨7, 0, nm, of, 0, 0, vt⟩ (.slice ka len kc) _) := OneB.new (x := ⟨7, 0, nm, of, 0, 0, vt⟩)
  by_cases h1 : len = 1
  · subst h1
    obtain ⟨b, off, ca, cc, rfl, hlb, hc, hkr, htx⟩ := el_cells HR.out HL.out (i := 0) (by omega)
    have hcall := exS_any (ks.node 0) (ks.kids 0) ca cc false _ (hkr.below X0.out.2) htx
    have HO : Hid (allE ks false = exprB (ks.node 0) (ks.kids 0) false) := allE_one HL.out
    rw [Nat.zero_mul, Nat.add_zero] at hc
    obtain ⟨c0, c1, c2, c3, c4, c5, c6, c7⟩ := hc
    clear hkr htx HR
    go_enter Tryz.func64, Tryz.ntmps64
    go_wp2_with (first | (go_at_call 43; refine hcall.mono ?_; rintro e w' ⟨rfl, hb⟩; have HB : Hid (Below w.heap.size w w') := below_step X0.out.2 (Nat.le_refl _) hb; clear hb) | fail)
    all_goals
      go_ret
      refine ⟨ret_bool' ?_, by first | exact X0.out.2 | exact Hid.out (by assumption)⟩
      rw [HE.out, HO.out]
      clear c0 c1 c2 c3 c4 c5 c6 c7 hcall
      simp_all [emp]
  · have h1' : ¬ ((len : Int) = 1) := by omega
    have HZ : Hid ((len == 1) = false) := by show _ = _; simpa using h1
    go_enter Tryz.func64, Tryz.ntmps64
    go_wp2_with (first | fail)
    all_goals
      go_ret
      exact ⟨ret_bool' (by rw [HE.out, HZ.out]; simp), X0.out.2⟩

set_option maxRecDepth 100000 in
set_option maxHeartbeats 4000000 in
theorem partS8 (nm of vt : ByteArray) (ks : Fo) (ka : Option Addr) (kc : Nat) (w : World) (hrow : RowT 0 w ka 0 ks) (hv : vt.toList = []) :
    Calls Tryz.prog 64 #[ValT ⟨8, 0, nm, of, 0, 0, vt⟩ (.slice ka ks.len kc)] w fun e w' => e = .returned (.bool (partB ⟨8, 0, nm, of, 0, 0, vt⟩ ks)) ∧ Below w.heap.size w w' := by
  obtain ⟨len, hL⟩ : ∃ m, ks.len = m := ⟨_, rfl⟩
  have HE : Hid (partB ⟨8, 0, nm, of, 0, 0, vt⟩ ks = (emp nm && emp of && (len == 1 && allE ks false))) := by
    show _ = _
    unfold partB
    rw [hL]
    simp [fieldB, noV, emp, hv]
  have HR : Hid (RowT 0 w ka 0 ks) := hrow
  have HL : Hid (ks.len = len) := hL
  rw [hL]
  clear hL hrow
  have X0 : Hid (OneB w w.heap.size ⟨8, 0, nm, of, 0, 0, vt⟩ (.slice ka len kc) _) := OneB.new (x := ⟨8, 0, nm, of, 0, 0, vt⟩)
  by_cases h1 : len = 1
  · subst h1
    obtain ⟨b, off, ca, cc, rfl, hlb, hc, hkr, htx⟩ := el_cells HR.out HL.out (i := 0) (by omega)
    have hcall := exS_any (ks.node 0) (ks.kids 0) ca cc false _ (hkr.below X0.out.2) htx
    have HO : Hid (allE ks false = exprB (ks.node 0) (ks.kids 0) false) := allE_one HL.out
    rw [Nat.zero_mul, Nat.add_zero] at hc
    obtain ⟨c0, c1, c2, c3, c4, c5, c6, c7⟩ := hc
    clear hkr htx HR
    go_enter Tryz.func64, Tryz.ntmps64
    go_wp2_with (first | (go_at_call 43; refine hcall.mono ?_; rintro e w' ⟨rfl, hb⟩; have HB : Hid (Below w.heap.size w w') := below_step X0.out.2 (Nat.le_refl _) hb; clear hb) | fail)
    all_goals
      go_ret
      refine ⟨ret_bool' ?_, by first | exact X0.out.2 | exact Hid.out (by assumption)⟩
      rw [HE.out, HO.out]
      clear c0 c1 c2 c3 c4 c5 c6 c7 hcall
      simp_all [emp]
  · have h1' : ¬ ((len : Int) = 1) := by omega
    have HZ : Hid ((len == 1) = false) := by show _ = _; simpa using h1
    go_enter Tryz.func64, Tryz.ntmps64
    go_wp2_with (first | fail)
    all_goals
      go_ret
      exact ⟨ret_bool' (by rw [HE.out, HZ.out]; simp), X0.out.2⟩

set_option maxRecDepth 100000 in
set_option maxHeartbeats 4000000 in
theorem partS10 (n : Int) (nm of vt : ByteArray) (ks : Fo) (ka : Option Addr) (kc : Nat) (w : World) (hrow : RowT 0 w ka 0 ks) (hv : vt.toList = []) :
    Calls Tryz.prog 64 #[ValT ⟨10, n, nm, of, 0, 0, vt⟩ (.slice ka ks.len kc)] w fun e w' => e = .returned (.bool (partB ⟨10, n, nm, of, 0, 0, vt⟩ ks)) ∧ Below w.heap.size w w' := by
  obtain ⟨len, hL⟩ : ∃ m, ks.len = m := ⟨_, rfl⟩
  have HE : Hid (partB ⟨10, n, nm, of, 0, 0, vt⟩ ks = (inB n 0 1 && emp nm && emp of && (len == 1 && allE ks true))) := by
    show _ = _
    have hin : (n == 0 || n == 1) = inB n 0 1 := by rw [Bool.eq_iff_iff]; simp [inB]; omega
    unfold partB
    rw [hL]
    simp [fieldB, noV, emp, hv, hin]
  have HR : Hid (RowT 0 w ka 0 ks) := hrow
  have HL : Hid (ks.len = len) := hL
  rw [hL]
  clear hL hrow
  have X0 : Hid (OneB w w.heap.size ⟨10, n, nm, of, 0, 0, vt⟩ (.slice ka len kc) _) := OneB.new (x := ⟨10, n, nm, of, 0, 0, vt⟩)
  by_cases h1 : len = 1
  · subst h1
    obtain ⟨b, off, ca, cc, rfl, hlb, hc, hkr, htx⟩ := el_cells HR.out HL.out (i := 0) (by omega)
    have hcall := exS_any (ks.node 0) (ks.kids 0) ca cc true _ (hkr.below X0.out.2) htx
    have HO : Hid (allE ks true = exprB (ks.node 0) (ks.kids 0) true) := allE_one HL.out
    rw [Nat.zero_mul, Nat.add_zero] at hc
    obtain ⟨c0, c1, c2, c3, c4, c5, c6, c7⟩ := hc
    clear hkr htx HR
    go_enter Tryz.func64, Tryz.ntmps64
    go_wp2_with (first | (go_at_call 60; refine (l01In_any _ _ _ _).mono ?_; rintro e w' ⟨rfl, hq⟩; obtain rfl := hq.symm) | (go_at_call 43; refine hcall.mono ?_; rintro e w' ⟨rfl, hb⟩; have HB : Hid (Below w.heap.size w w') := below_step X0.out.2 (Nat.le_refl _) hb; clear hb) | fail)
    all_goals
      go_ret
      refine ⟨ret_bool' ?_, by first | exact X0.out.2 | exact Hid.out (by assumption)⟩
      rw [HE.out, HO.out]
      clear c0 c1 c2 c3 c4 c5 c6 c7 hcall
      simp_all [emp]
  · have h1' : ¬ ((len : Int) = 1) := by omega
    have HZ : Hid ((len == 1) = false) := by show _ = _; simpa using h1
    go_enter Tryz.func64, Tryz.ntmps64
    go_wp2_with (first | (go_at_call 60; refine (l01In_any _ _ _ _).mono ?_; rintro e w' ⟨rfl, hq⟩; obtain rfl := hq.symm) | fail)
    all_goals
      go_ret
      exact ⟨ret_bool' (by rw [HE.out, HZ.out]; simp), X0.out.2⟩

set_option maxRecDepth 100000 in
set_option maxHeartbeats 4000000 in
theorem partS5 (nm of vt : ByteArray) (ks : Fo) (ka : Option Addr) (kc : Nat) (w : World) (hrow : RowT 0 w ka 0 ks) (ht : nm.size ≤ maxLen ∧ of.size ≤ maxLen) (hv : vt.toList = []) :
    Calls Tryz.prog 64 #[ValT ⟨5, 0, nm, of, 0, 0, vt⟩ (.slice ka ks.len kc)] w fun e w' => e = .returned (.bool (partB ⟨5, 0, nm, of, 0, 0, vt⟩ ks)) ∧ Below w.heap.size w w' := by
  have HT : Hid (nm.size ≤ maxLen ∧ of.size ≤ maxLen) := ht
  obtain ⟨len, hL⟩ : ∃ m, ks.len = m := ⟨_, rfl⟩
  have HE : Hid (partB ⟨5, 0, nm, of, 0, 0, vt⟩ ks = ((emp nm || givenB nm) && emp of && (len == 1 && allE ks true))) := by
    show _ = _
    unfold partB
    rw [hL]
    simp [fieldB, noV, emp, hv]
  have HR : Hid (RowT 0 w ka 0 ks) := hrow
  have HL : Hid (ks.len = len) := hL
  rw [hL]
  clear hL hrow ht
  have X0 : Hid (OneB w w.heap.size ⟨5, 0, nm, of, 0, 0, vt⟩ (.slice ka len kc) _) := OneB.new (x := ⟨5, 0, nm, of, 0, 0, vt⟩)
  by_cases h1 : len = 1
  · subst h1
    obtain ⟨b, off, ca, cc, rfl, hlb, hc, hkr, htx⟩ := el_cells HR.out HL.out (i := 0) (by omega)
    have HO : Hid (allE ks true = exprB (ks.node 0) (ks.kids 0) true) := allE_one HL.out
    have HC : Hid (∀ W, Below w.heap.size w W → Calls Tryz.prog 43 #[ValT (ks.node 0) (.slice ca (ks.kids 0).len cc), .bool true] W fun e w' => e = .returned (.bool (exprB (ks.node 0) (ks.kids 0) true)) ∧ Below W.heap.size W w') := fun W hW => exS_any _ _ ca cc true W (hkr.below hW) htx
    have HF : Hid (∀ W, Below w.heap.size w W → CellT W b (off + 0 * 8) (ks.node 0) (.slice ca (ks.kids 0).len cc)) := fun W hW => hc.same (hW.block b hlb)
    rw [Nat.zero_mul, Nat.add_zero] at hc HF
    obtain ⟨c0, c1, c2, c3, c4, c5, c6, c7⟩ := hc
    clear hkr htx HR
    go_enter Tryz.func64, Tryz.ntmps64
    go_wp2_with (first | (go_at_call 42; refine (l09Name_any _ _ HT.out.1).mono ?_; rintro e w' ⟨rfl, hb⟩; have X := OneB.keep (Hid.out (p := OneB w w.heap.size _ (.slice (some ⟨b, off, none⟩) 1 kc) _) (by assumption)) hb; have XH : Hid (OneB w w.heap.size _ (.slice (some ⟨b, off, none⟩) 1 kc) _) := X; obtain ⟨y0, y1, y2, y3, y4, y5, y6, y7⟩ := X.facts; obtain ⟨d0, d1, d2, d3, d4, d5, d6, d7⟩ := HF.out _ X.2; clear X hb) | (go_at_call 43; refine (HC.out _ (Hid.out (p := OneB w w.heap.size _ (.slice (some ⟨b, off, none⟩) 1 kc) _) (by assumption)).2).mono ?_; rintro e w' ⟨rfl, hb⟩; have XH : Hid (OneB w w.heap.size _ (.slice (some ⟨b, off, none⟩) 1 kc) _) := OneB.keep (Hid.out (p := OneB w w.heap.size _ (.slice (some ⟨b, off, none⟩) 1 kc) _) (by assumption)) hb; clear hb) | fail)
    all_goals
      go_ret
      refine ⟨ret_bool' ?_, (Hid.out (p := OneB w w.heap.size _ (.slice (some ⟨b, off, none⟩) 1 kc) _) (by assumption)).2⟩
      rw [HE.out, HO.out]
      clear c0 c1 c2 c3 c4 c5 c6 c7
      simp_all [emp]
  · have h1' : ¬ ((len : Int) = 1) := by omega
    have HZ : Hid ((len == 1) = false) := by show _ = _; simpa using h1
    go_enter Tryz.func64, Tryz.ntmps64
    go_wp2_with (first | (go_at_call 42; refine (l09Name_any _ _ (by first | exact HT.out.1 | exact HT.out.2)).mono ?_; rintro e w' ⟨rfl, hb⟩; have X := OneB.keep (Hid.out (p := OneB w w.heap.size _ (.slice ka len kc) _) (by assumption)) hb; have XH : Hid (OneB w w.heap.size _ (.slice ka len kc) _) := X; obtain ⟨y0, y1, y2, y3, y4, y5, y6, y7⟩ := X.facts; clear X hb) | fail)
    all_goals
      go_ret
      exact ⟨ret_bool' (by rw [HE.out, HZ.out]; simp), (Hid.out (p := OneB w w.heap.size _ (.slice ka len kc) _) (by assumption)).2⟩

set_option maxRecDepth 100000 in
set_option maxHeartbeats 4000000 in
theorem partS12 (nm of vt : ByteArray) (ks : Fo) (ka : Option Addr) (kc : Nat) (w : World) (hrow : RowT 0 w ka 0 ks) (ht : nm.size ≤ maxLen ∧ of.size ≤ maxLen) (hv : vt.toList = []) :
    Calls Tryz.prog 64 #[ValT ⟨12, 0, nm, of, 0, 0, vt⟩ (.slice ka ks.len kc)] w fun e w' => e = .returned (.bool (partB ⟨12, 0, nm, of, 0, 0, vt⟩ ks)) ∧ Below w.heap.size w w' := by
  have HT : Hid (nm.size ≤ maxLen ∧ of.size ≤ maxLen) := ht
  obtain ⟨len, hL⟩ : ∃ m, ks.len = m := ⟨_, rfl⟩
  have HE : Hid (partB ⟨12, 0, nm, of, 0, 0, vt⟩ ks = (givenB nm && emp of && (len == 1 && allE ks false))) := by
    show _ = _
    unfold partB
    rw [hL]
    simp [fieldB, noV, emp, hv]
  have HR : Hid (RowT 0 w ka 0 ks) := hrow
  have HL : Hid (ks.len = len) := hL
  rw [hL]
  clear hL hrow ht
  have X0 : Hid (OneB w w.heap.size ⟨12, 0, nm, of, 0, 0, vt⟩ (.slice ka len kc) _) := OneB.new (x := ⟨12, 0, nm, of, 0, 0, vt⟩)
  by_cases h1 : len = 1
  · subst h1
    obtain ⟨b, off, ca, cc, rfl, hlb, hc, hkr, htx⟩ := el_cells HR.out HL.out (i := 0) (by omega)
    have HO : Hid (allE ks false = exprB (ks.node 0) (ks.kids 0) false) := allE_one HL.out
    have HC : Hid (∀ W, Below w.heap.size w W → Calls Tryz.prog 43 #[ValT (ks.node 0) (.slice ca (ks.kids 0).len cc), .bool false] W fun e w' => e = .returned (.bool (exprB (ks.node 0) (ks.kids 0) false)) ∧ Below W.heap.size W w') := fun W hW => exS_any _ _ ca cc false W (hkr.below hW) htx
    have HF : Hid (∀ W, Below w.heap.size w W → CellT W b (off + 0 * 8) (ks.node 0) (.slice ca (ks.kids 0).len cc)) := fun W hW => hc.same (hW.block b hlb)
    rw [Nat.zero_mul, Nat.add_zero] at hc HF
    obtain ⟨c0, c1, c2, c3, c4, c5, c6, c7⟩ := hc
    clear hkr htx HR
    go_enter Tryz.func64, Tryz.ntmps64
    go_wp2_with (first | (go_at_call 42; refine (l09Name_any _ _ HT.out.1).mono ?_; rintro e w' ⟨rfl, hb⟩; have X := OneB.keep (Hid.out (p := OneB w w.heap.size _ (.slice (some ⟨b, off, none⟩) 1 kc) _) (by assumption)) hb; have XH : Hid (OneB w w.heap.size _ (.slice (some ⟨b, off, none⟩) 1 kc) _) := X; obtain ⟨y0, y1, y2, y3, y4, y5, y6, y7⟩ := X.facts; obtain ⟨d0, d1, d2, d3, d4, d5, d6, d7⟩ := HF.out _ X.2; clear X hb) | (go_at_call 43; refine (HC.out _ (Hid.out (p := OneB w w.heap.size _ (.slice (some ⟨b, off, none⟩) 1 kc) _) (by assumption)).2).mono ?_; rintro e w' ⟨rfl, hb⟩; have XH : Hid (OneB w w.heap.size _ (.slice (some ⟨b, off, none⟩) 1 kc) _) := OneB.keep (Hid.out (p := OneB w w.heap.size _ (.slice (some ⟨b, off, none⟩) 1 kc) _) (by assumption)) hb; clear hb) | fail)
    all_goals
      go_ret
      refine ⟨ret_bool' ?_, (Hid.out (p := OneB w w.heap.size _ (.slice (some ⟨b, off, none⟩) 1 kc) _) (by assumption)).2⟩
      rw [HE.out, HO.out]
      clear c0 c1 c2 c3 c4 c5 c6 c7
      simp_all [emp]
  · have h1' : ¬ ((len : Int) = 1) := by omega
    have HZ : Hid ((len == 1) = false) := by show _ = _; simpa using h1
    go_enter Tryz.func64, Tryz.ntmps64
    go_wp2_with (first | (go_at_call 42; refine (l09Name_any _ _ (by first | exact HT.out.1 | exact HT.out.2)).mono ?_; rintro e w' ⟨rfl, hb⟩; have X := OneB.keep (Hid.out (p := OneB w w.heap.size _ (.slice ka len kc) _) (by assumption)) hb; have XH : Hid (OneB w w.heap.size _ (.slice ka len kc) _) := X; obtain ⟨y0, y1, y2, y3, y4, y5, y6, y7⟩ := X.facts; clear X hb) | fail)
    all_goals
      go_ret
      exact ⟨ret_bool' (by rw [HE.out, HZ.out]; simp), (Hid.out (p := OneB w w.heap.size _ (.slice ka len kc) _) (by assumption)).2⟩

theorem kAll_true : ∀ {f : Fo}, (∀ i, i < f.len → (f.node i).k = 14) → (kindsF f).all (· == 14) = true
  | .nil, _ => rfl
  | .cons x ks r, h => by
    have h0 : x.k = 14 := h 0 (by simp [Fo.len])
    have hr := kAll_true (f := r) fun i hi => h (i + 1) (by simp only [Fo.len]; omega)
    simp only [kindsF, List.all_cons, hr, h0]
    rfl
theorem kAll_false : ∀ {f : Fo} (i : Nat), i < f.len → ¬ (f.node i).k = 14 → (kindsF f).all (· == 14) = false
  | .nil, i, hi, _ => by simp [Fo.len] at hi
  | .cons x ks r, 0, _, h => by
    have h0 : (x.k == 14) = false := by
      have h' : ¬ x.k = 14 := h
      simpa using h'
    simp only [kindsF, List.all_cons, h0, Bool.false_and]
  | .cons x ks r, i + 1, hi, h => by
    have := kAll_false (f := r) i (by simp only [Fo.len] at hi; omega) h
    simp only [kindsF, List.all_cons, this, Bool.and_false]
set_option maxRecDepth 100000 in
set_option maxHeartbeats 4000000 in
theorem partS9 (nm of vt : ByteArray) (ks : Fo) (ka : Option Addr) (kc : Nat) (w : World) (hrow : RowT 0 w ka 0 ks) (hlen : ks.len ≤ 1048576) (hv : vt.toList = []) :
    Calls Tryz.prog 64 #[ValT ⟨9, 0, nm, of, 0, 0, vt⟩ (.slice ka ks.len kc)] w fun e w' => e = .returned (.bool (partB ⟨9, 0, nm, of, 0, 0, vt⟩ ks)) ∧ Below w.heap.size w w' := by
  obtain ⟨len, hL⟩ : ∃ m, ks.len = m := ⟨_, rfl⟩
  have HE : Hid (partB ⟨9, 0, nm, of, 0, 0, vt⟩ ks = (emp nm && emp of && ((kindsF ks).all (· == 14) && decide (0 < len) && allE ks false))) := by
    show _ = _
    unfold partB
    rw [hL]
    simp [fieldB, noV, emp, hv]
  have HR : Hid (RowT 0 w ka 0 ks) := hrow
  have HL : Hid (ks.len = len) := hL
  rw [hL] at hlen ⊢
  clear hL hrow
  have X0 : Hid (OneB w w.heap.size ⟨9, 0, nm, of, 0, 0, vt⟩ (.slice ka len kc) _) := OneB.new (x := ⟨9, 0, nm, of, 0, 0, vt⟩)
  by_cases hok : nm.toList = [] ∧ of.toList = [] ∧ 0 < len
  · obtain ⟨hn, ho, hl⟩ := hok
    have hl' : ¬ ((len : Int) = 0) := by omega
    have HQ : Hid (partB ⟨9, 0, nm, of, 0, 0, vt⟩ ks = ((kindsF ks).all (· == 14) && allE ks false)) := by show _ = _; rw [HE.out]; simp [emp, hn, ho, hl]
    clear HE
    go_enter Tryz.func64, Tryz.ntmps64
    go_wp2
    go_loopw [3] (fun i wr => ∃ k : Nat, k ≤ len ∧ i = .int .i64 k ∧ Hid (∀ j, j < k → (ks.node j).k = 14 ∧ exprB (ks.node j) (ks.kids j) false = true) ∧ Hid (OneB w w.heap.size ⟨9, 0, nm, of, 0, 0, vt⟩ (.slice ka len kc) wr)) (fun i _ => len - (intOf i).toNat)
    case atStart => exact ⟨0, by omega, rfl, fun j hj => by omega, X0⟩
    case round =>
      clear X0
      obtain ⟨k, hk, rfl, HS, X⟩ := hrel
      obtain ⟨y0, y1, y2, y3, y4, y5, y6, y7⟩ := X.out.facts
      simp only at y0 y1 y2 y3 y4 y5 y6 y7
      by_cases hlt : k < len
      · have hkf : k < ks.len := by rw [HL.out]; exact hlt
        obtain ⟨b, off, ca, cc, rfl, hlb, ⟨c0, c1, c2, c3, c4, c5, c6, c7⟩, hkr, htx⟩ := el_cells (HR.out.below X.out.2) HL.out hlt
        have hc := exS_any (ks.node k) (ks.kids k) ca cc false wr hkr htx
        have HF : Hid (∀ h : ¬ (ks.node k).k = 14, partB ⟨9, 0, nm, of, 0, 0, vt⟩ ks = false) := fun h => by rw [HQ.out, kAll_false k hkf h]; rfl
        have HG : Hid (exprB (ks.node k) (ks.kids k) false = false → partB ⟨9, 0, nm, of, 0, 0, vt⟩ ks = false) := fun h => by rw [HQ.out, allE_false k hkf h, Bool.and_false]
        have HS' : Hid ((ks.node k).k = 14 → exprB (ks.node k) (ks.kids k) false = true → ∀ j, j < k + 1 → (ks.node j).k = 14 ∧ exprB (ks.node j) (ks.kids j) false = true) := fun h h' j hj => by
          by_cases e : j = k
          · rw [e]; exact ⟨h, h'⟩
          · exact HS.out j (by omega)
        clear hkr htx hkf HS
        by_cases h14 : (ks.node k).k = 14
        · have H14 : Hid ((ks.node k).k = 14) := h14
          rw [h14] at c0
          clear h14 HF
          have hc' : Calls Tryz.prog 43 #[.agg #[.int .i64 14, .int .i64 (ks.node k).n, .string (ks.node k).nm, .string (ks.node k).of, .int .i64 (ks.node k).vk, .int .i64 (ks.node k).vn, .string (ks.node k).vt, .slice ca (ks.kids k).len cc], .bool false] wr fun e w' => e = .returned (.bool (exprB (ks.node k) (ks.kids k) false)) ∧ Below wr.heap.size wr w' := by
            have := hc
            unfold ValT at this
            rw [H14.out] at this
            exact this
          clear hc
          go_wp2_with fail
          refine hc'.mono ?_
          rintro e w2 ⟨rfl, b2⟩
          have X2 : Hid (OneB w w.heap.size ⟨9, 0, nm, of, 0, 0, vt⟩ (.slice (some ⟨b, off, none⟩) len kc) w2) := X.out.keep b2
          clear c0 c1 c2 c3 c4 c5 c6 c7 y0 y1 y2 y3 y4 y5 y6 y7 b2 hc' X
          cases hx : exprB (ks.node k) (ks.kids k) false with
          | false =>
            have HF : Hid (partB ⟨9, 0, nm, of, 0, 0, vt⟩ ks = false) := HG.out hx
            clear hx HG HS'
            go_wp2
            go_ret
            exact ⟨ret_bool' HF.out.symm, X2.out.2⟩
          | true =>
            have HN : Hid (∀ j, j < k + 1 → (ks.node j).k = 14 ∧ exprB (ks.node j) (ks.kids j) false = true) := HS'.out H14.out hx
            clear hx HG HS'
            go_wp2
            go_roundw
            case rel => exact ⟨k + 1, by omega, by go_num, HN, X2⟩
            case measure => simp [intOf]; omega
        · have HF2 : Hid (partB ⟨9, 0, nm, of, 0, 0, vt⟩ ks = false) := HF.out h14
          clear HF HG HS' hc
          go_wp2
          go_ret
          exact ⟨ret_bool' HF2.out.symm, X.out.2⟩
      · obtain rfl : k = len := by omega
        have HF : Hid (partB ⟨9, 0, nm, of, 0, 0, vt⟩ ks = true) := by
          show _ = _
          rw [HQ.out, kAll_true fun i hi => (HS.out i (by rw [← HL.out]; exact hi)).1, allE_true fun i hi => (HS.out i (by rw [← HL.out]; exact hi)).2]
          rfl
        go_wp2
        go_ret
        exact ⟨ret_bool' HF.out.symm, X.out.2⟩
  · have HF : Hid (partB ⟨9, 0, nm, of, 0, 0, vt⟩ ks = false) := by
      show _ = _
      rw [HE.out]
      by_cases h1 : nm.toList = []
      · by_cases h2 : of.toList = []
        · have h3 : ¬ 0 < len := fun h => hok ⟨h1, h2, h⟩
          simp [h3]
        · simp [emp, h2]
      · simp [emp, h1]
    by_cases h1 : nm.toList = []
    · by_cases h2 : of.toList = []
      · have h3 : (len : Int) = 0 := by have : ¬ 0 < len := fun h => hok ⟨h1, h2, h⟩; omega
        obtain rfl : len = 0 := by omega
        clear hok h3
        go_enter Tryz.func64, Tryz.ntmps64
        go_wp2
        go_ret
        exact ⟨ret_bool' HF.out.symm, X0.out.2⟩
      · clear hok
        go_enter Tryz.func64, Tryz.ntmps64
        go_wp2
        go_ret
        exact ⟨ret_bool' HF.out.symm, X0.out.2⟩
    · clear hok
      go_enter Tryz.func64, Tryz.ntmps64
      go_wp2
      go_ret
      exact ⟨ret_bool' HF.out.symm, X0.out.2⟩

theorem l10Part_any (x : ND) (ks : Fo) (ka : Option Addr) (kc : Nat) (w : World) (hrow : RowT 0 w ka 0 ks) (hlen : ks.len ≤ 1048576) (ht : TextsN maxLen x) :
    Calls Tryz.prog 64 #[ValT x (.slice ka ks.len kc)] w fun e w' => e = .returned (.bool (partB x ks)) ∧ Below w.heap.size w w' := by
  obtain ⟨k, n, nm, of, vk, vn, vt⟩ := x
  have ht' : nm.size ≤ maxLen ∧ of.size ≤ maxLen := ⟨ht.1, ht.2.1⟩
  by_cases hv : vk = 0 ∧ vn = 0 ∧ vt.toList = []
  · obtain ⟨rfl, rfl, hv⟩ := hv
    by_cases h10 : k = 10
    · subst h10; exact partS10 n nm of vt ks ka kc w hrow hv
    by_cases h11 : k = 11
    · subst h11; exact partS11 n nm of vt ks ka kc w hv
    by_cases h5 : k = 5
    · subst h5
      by_cases h0 : n = 0
      · subst h0; exact partS5 nm of vt ks ka kc w hrow ht' hv
      · exact partBadN5 n nm of vt ks _ w hv h0
    by_cases h6 : k = 6
    · subst h6
      by_cases h0 : n = 0
      · subst h0; exact partS6 nm of vt ks ka kc w ht' hv
      · exact partBadN6 n nm of vt ks _ w hv h0
    by_cases h7 : k = 7
    · subst h7
      by_cases h0 : n = 0
      · subst h0; exact partS7 nm of vt ks ka kc w hrow hv
      · exact partBadN7 n nm of vt ks _ w hv h0
    by_cases h8 : k = 8
    · subst h8
      by_cases h0 : n = 0
      · subst h0; exact partS8 nm of vt ks ka kc w hrow hv
      · exact partBadN8 n nm of vt ks _ w hv h0
    by_cases h9 : k = 9
    · subst h9
      by_cases h0 : n = 0
      · subst h0; exact partS9 nm of vt ks ka kc w hrow hlen hv
      · exact partBadN9 n nm of vt ks _ w hv h0
    by_cases h12 : k = 12
    · subst h12
      by_cases h0 : n = 0
      · subst h0; exact partS12 nm of vt ks ka kc w hrow ht' hv
      · exact partBadN12 n nm of vt ks _ w hv h0
    exact partNo k n nm of vt ks _ w hv h5 h6 h7 h8 h9 h10 h11 h12
  · exact partBadV k n nm of vk vn vt ks _ w hv
end Go.Proofs.YteejkmcljokloaaGreatDoor
