/- The specification's l10Expr: aggregates, and all kinds (stage 11). -/
import Derived.Test.YteejkmcljokloaaGreatDoorSqD
namespace Go.Proofs.YteejkmcljokloaaGreatDoor
open Go.RowKit

set_option maxRecDepth 100000 in
set_option maxHeartbeats 4000000 in
theorem exprBad17 (n : Int) (nm of : ByteArray) (vk vn : Int) (vt : ByteArray) (ks : Fo) (v : Value) (w : World) (h : ¬ (n = 0 ∧ vk = 0 ∧ vn = 0 ∧ vt.toList = [])) :
    Calls Tryz.prog 43 #[ValT ⟨17, n, nm, of, vk, vn, vt⟩ v, .bool true] w fun e w' => e = .returned (.bool (exprB ⟨17, n, nm, of, vk, vn, vt⟩ ks true)) ∧ Below w.heap.size w w' := by
  have HE : Hid (exprB ⟨17, n, nm, of, vk, vn, vt⟩ ks true = false) := by
    show _ = _
    have : fieldB ⟨17, n, nm, of, vk, vn, vt⟩ = false := by
      cases hf : fieldB ⟨17, n, nm, of, vk, vn, vt⟩ with
      | false => rfl
      | true => exact absurd (by simp [fieldB, noV, emp] at hf; simp_all) h
    unfold exprB exB
    rw [this]
    rfl
  have HB : Hid (∀ o o', Below w.heap.size w ((w.alloc o).alloc o')) := fun o o' => ((Below.refl _ _).alloc (Nat.le_refl _) _).alloc (by simp) _
  by_cases h1 : n = 0
  · subst h1
    by_cases h2 : vk = 0
    · subst h2
      by_cases h3 : vn = 0
      · subst h3
        have h4 : ¬ vt.toList = [] := fun e => h ⟨rfl, rfl, rfl, e⟩
        clear h
        go_enter Tryz.func43, Tryz.ntmps43
        go_wp2
        all_goals
          go_ret
          exact ⟨ret_bool' HE.out.symm, HB.out _ _⟩
      · clear h
        go_enter Tryz.func43, Tryz.ntmps43
        go_wp2
        all_goals
          go_ret
          exact ⟨ret_bool' HE.out.symm, HB.out _ _⟩
    · clear h
      go_enter Tryz.func43, Tryz.ntmps43
      go_wp2
      all_goals
        go_ret
        exact ⟨ret_bool' HE.out.symm, HB.out _ _⟩
  · clear h
    go_enter Tryz.func43, Tryz.ntmps43
    go_wp2
    all_goals
      go_ret
      exact ⟨ret_bool' HE.out.symm, HB.out _ _⟩

set_option maxRecDepth 100000 in
set_option maxHeartbeats 4000000 in
theorem exprS17 (nm of vt : ByteArray) (ks : Fo) (ih : ∀ i, i < ks.len → ExS (ks.node i) (ks.kids i)) (ka : Option Addr) (kc : Nat) (w : World) (hrow : RowT 0 w ka 0 ks) (hv : vt.toList = []) :
    Calls Tryz.prog 43 #[ValT ⟨17, 0, nm, of, 0, 0, vt⟩ (.slice ka ks.len kc), .bool true] w fun e w' => e = .returned (.bool (exprB ⟨17, 0, nm, of, 0, 0, vt⟩ ks true)) ∧ Below w.heap.size w w' := by
  obtain ⟨len, hL⟩ : ∃ m, ks.len = m := ⟨_, rfl⟩
  have HE : Hid (exprB ⟨17, 0, nm, of, 0, 0, vt⟩ ks true = ((nm.toList == [99, 111, 117, 110, 116] || nm.toList == [115, 117, 109] || nm.toList == [109, 105, 110] || nm.toList == [109, 97, 120]) && emp of && ((len == 0 && nm.toList == [99, 111, 117, 110, 116]) || (len == 1 && allE ks false)))) := by
    show _ = _
    unfold exprB exB
    rw [hL]
    simp [fieldB, noV, emp, hv, agS]
  have HR : Hid (RowT 0 w ka 0 ks) := hrow
  have HL : Hid (ks.len = len) := hL
  have IH : Hid (∀ i, i < ks.len → ExS (ks.node i) (ks.kids i)) := ih
  rw [hL]
  clear hL hrow ih
  have X0 : Hid (TwoB w w.heap.size ⟨17, 0, nm, of, 0, 0, vt⟩ (.slice ka len kc) _) := TwoB.new (x := ⟨17, 0, nm, of, 0, 0, vt⟩)
  by_cases h1 : len = 1
  · subst h1
    obtain ⟨b, off, ca, cc, rfl, hlb, hc, hkr, htx⟩ := el_cells HR.out HL.out (i := 0) (by omega)
    have hcall := IH.out 0 (by rw [HL.out]; omega) ca cc false _ (hkr.below X0.out.2.2) htx
    have HO : Hid (allE ks false = exprB (ks.node 0) (ks.kids 0) false) := allE_one HL.out
    rw [Nat.zero_mul, Nat.add_zero] at hc
    obtain ⟨c0, c1, c2, c3, c4, c5, c6, c7⟩ := hc
    clear hkr htx HR IH
    cases h0 : exprB (ks.node 0) (ks.kids 0) false with
    | false =>
      have HF : Hid (exprB ⟨17, 0, nm, of, 0, 0, vt⟩ ks true = false) := by show _ = _; rw [HE.out, HO.out, h0]; simp
      rw [h0] at hcall
      clear h0
      go_enter Tryz.func43, Tryz.ntmps43
      go_wp2_with (first | (go_at_call 43; refine hcall.mono ?_; rintro e w' ⟨rfl, hb⟩; have X := X0.out.keep hb; have XH : Hid (TwoB w w.heap.size _ (.slice (some ⟨b, off, none⟩) 1 kc) w') := X; obtain ⟨⟨y0, y1, y2, y3, y4, y5, y6, y7⟩, z0, z1, z2⟩ := X.facts; clear X hb) | fail)
      all_goals
        go_ret
        exact ⟨ret_bool' HF.out.symm, (Hid.out (p := TwoB w w.heap.size _ (.slice (some ⟨b, off, none⟩) 1 kc) _) (by assumption)).2.2⟩
    | true =>
      have HF : Hid (exprB ⟨17, 0, nm, of, 0, 0, vt⟩ ks true = ((nm.toList == [99, 111, 117, 110, 116] || nm.toList == [115, 117, 109] || nm.toList == [109, 105, 110] || nm.toList == [109, 97, 120]) && emp of)) := by show _ = _; rw [HE.out, HO.out, h0]; simp
      rw [h0] at hcall
      clear h0 HE
      go_enter Tryz.func43, Tryz.ntmps43
      go_wp2_with (first | (go_at_call 43; refine hcall.mono ?_; rintro e w' ⟨rfl, hb⟩; have XH : Hid (TwoB w w.heap.size _ (.slice (some ⟨b, off, none⟩) 1 kc) w') := X0.out.keep hb; clear hb) | fail)
      all_goals
        go_ret
        refine ⟨ret_bool' ?_, (Hid.out (p := TwoB w w.heap.size _ (.slice (some ⟨b, off, none⟩) 1 kc) _) (by assumption)).2.2⟩
        rw [HF.out]
        clear c0 c1 c2 c3 c4 c5 c6 c7 hcall
        simp_all [emp]
  · have h1' : ¬ ((len : Int) = 1) := by omega
    have HZ : Hid ((len == 1) = false) := by show _ = _; simpa using h1
    by_cases h0 : len = 0
    · subst h0
      go_enter Tryz.func43, Tryz.ntmps43
      go_wp2
      all_goals
        go_ret
        refine ⟨ret_bool' ?_, X0.out.2.2⟩
        rw [HE.out]
        simp_all [emp]
    · have h0' : ¬ ((len : Int) = 0) := by omega
      have HZ0 : Hid ((len == 0) = false) := by show _ = _; simpa using h0
      go_enter Tryz.func43, Tryz.ntmps43
      go_wp2
      all_goals
        go_ret
        exact ⟨ret_bool' (by rw [HE.out, HZ.out, HZ0.out]; simp), X0.out.2.2⟩

set_option maxRecDepth 100000 in
set_option maxHeartbeats 4000000 in
theorem exprNoG (x : ND) (hx : x.k = 17) (ks : Fo) (v : Value) (w : World) : Calls Tryz.prog 43 #[ValT x v, .bool false] w fun e w' => e = .returned (.bool (exprB x ks false)) ∧ Below w.heap.size w w' := by
  have HE : Hid (exprB x ks false = false) := by show _ = _; unfold exprB exB; simp [hx]
  have HB : Hid (∀ o o', Below w.heap.size w ((w.alloc o).alloc o')) := fun o o' => ((Below.refl _ _).alloc (Nat.le_refl _) _).alloc (by simp) _
  obtain ⟨k, n, nm, of, vk, vn, vt⟩ := x
  simp only at hx
  subst hx
  go_enter Tryz.func43, Tryz.ntmps43
  go_wp2
  all_goals
    go_ret
    exact ⟨ret_bool' HE.out.symm, HB.out _ _⟩
set_option maxRecDepth 100000 in
set_option maxHeartbeats 4000000 in
theorem exprNo (x : ND) (h13 : ¬ x.k = 13) (h14 : ¬ x.k = 14) (h15 : ¬ x.k = 15) (h16 : ¬ x.k = 16) (h17 : ¬ x.k = 17) (ks : Fo) (v : Value) (g : Bool) (w : World) : Calls Tryz.prog 43 #[ValT x v, .bool g] w fun e w' => e = .returned (.bool (exprB x ks g)) ∧ Below w.heap.size w w' := by
  have HE : Hid (exprB x ks g = false) := by show _ = _; unfold exprB exB; simp [h13, h14, h15, h16, h17]
  have HB : Hid (∀ o o', Below w.heap.size w ((w.alloc o).alloc o')) := fun o o' => ((Below.refl _ _).alloc (Nat.le_refl _) _).alloc (by simp) _
  go_enter Tryz.func43, Tryz.ntmps43
  go_wp2
  go_ret
  exact ⟨ret_bool' HE.out.symm, HB.out _ _⟩
theorem exprS_step (x : ND) (ks : Fo) (ih : ∀ i, i < ks.len → ExS (ks.node i) (ks.kids i)) : ExS x ks := by
  intro ka kc g w hrow ht
  by_cases h13 : x.k = 13
  · obtain ⟨k, n, nm, of, vk, vn, vt⟩ := x
    subst h13
    exact exprS13 n nm of vk vn vt ks ka kc g w
  by_cases h17 : x.k = 17
  · cases g with
    | false => exact exprNoG x h17 ks _ w
    | true =>
      obtain ⟨k, n, nm, of, vk, vn, vt⟩ := x
      subst h17
      by_cases hb : n = 0 ∧ vk = 0 ∧ vn = 0 ∧ vt.toList = []
      · obtain ⟨rfl, rfl, rfl, hv⟩ := hb
        exact exprS17 nm of vt ks ih ka kc w hrow hv
      · exact exprBad17 n nm of vk vn vt ks _ w hb
  by_cases h14 : x.k = 14
  · obtain ⟨k, n, nm, of, vk, vn, vt⟩ := x
    subst h14
    by_cases hb : n = 0 ∧ vk = 0 ∧ vn = 0 ∧ vt.toList = []
    · obtain ⟨rfl, rfl, rfl, hv⟩ := hb
      exact exprS14 nm of vt ks ka kc g w ⟨ht.1, ht.2.1⟩ hv
    · exact exprBad14 n nm of vk vn vt ks _ g w hb
  by_cases h15 : x.k = 15
  · obtain ⟨k, n, nm, of, vk, vn, vt⟩ := x
    subst h15
    by_cases hb : n = 0 ∧ vk = 0 ∧ vn = 0 ∧ vt.toList = []
    · obtain ⟨rfl, rfl, rfl, hv⟩ := hb
      exact exprS15 nm of vt ks ih ka kc g w hrow hv
    · exact exprBad15 n nm of vk vn vt ks _ g w hb
  by_cases h16 : x.k = 16
  · obtain ⟨k, n, nm, of, vk, vn, vt⟩ := x
    subst h16
    by_cases hb : n = 0 ∧ vk = 0 ∧ vn = 0 ∧ vt.toList = []
    · obtain ⟨rfl, rfl, rfl, hv⟩ := hb
      exact exprS16 nm of vt ks ih ka kc g w hrow hv
    · exact exprBad16 n nm of vk vn vt ks _ g w hb
  exact exprNo x h13 h14 h15 h16 h17 ks _ g w
theorem exS_all : ∀ (m : Nat) (x : ND) (ks : Fo), ks.size ≤ m → ExS x ks
  | 0, x, ks, h => exprS_step x ks fun i hi => by have := ks.len_le; omega
  | m + 1, x, ks, h => exprS_step x ks fun i hi => exS_all m _ _ (by have := ks.kids_lt i hi; omega)
theorem exS_any (x : ND) (ks : Fo) : ExS x ks := exS_all _ x ks (Nat.le_refl _)
end Go.Proofs.YteejkmcljokloaaGreatDoor
