/- The specification's l10Expr (stage 11). -/
import Derived.Test.YteejkmcljokloaaGreatDoorSqC
namespace Go.Proofs.YteejkmcljokloaaGreatDoor
open Go.RowKit

/-- A tree lies in block b, no value behind it; what lay in w lies there still. -/
def TwoB (w : World) (b : Nat) (x : ND) (s : Value) (W : World) : Prop :=
  BoxN b x s W ∧ W.heap[b + 1]? = some (.cells #[.int .i64 0, .int .i64 0, .string ⟨#[]⟩] 35 (0, 0)) ∧ Below w.heap.size w W
theorem TwoB.keep {w : World} {b : Nat} {x : ND} {s : Value} {W W' : World} (h : TwoB w b x s W) (hb : Below W.heap.size W W') : TwoB w b x s W' :=
  ⟨h.1.below hb, (hb.block _ (slab_lt h.2.1)).trans h.2.1, below_step h.2.2 (Nat.le_refl _) hb⟩
theorem TwoB.facts {w : World} {b : Nat} {x : ND} {s : Value} {W : World} (h : TwoB w b x s W) : (W.cell? ⟨b, 0, none⟩ = some (.int .i64 x.k) ∧ W.cell? ⟨b, 1, none⟩ = some (.int .i64 x.n) ∧ W.cell? ⟨b, 2, none⟩ = some (.string x.nm) ∧ W.cell? ⟨b, 3, none⟩ = some (.string x.of) ∧ W.cell? ⟨b, 4, none⟩ = some (.int .i64 x.vk) ∧ W.cell? ⟨b, 5, none⟩ = some (.int .i64 x.vn) ∧ W.cell? ⟨b, 6, none⟩ = some (.string x.vt) ∧ W.cell? ⟨b, 7, none⟩ = some s) ∧ W.cell? ⟨b + 1, 0, none⟩ = some (.int .i64 0) ∧ W.cell? ⟨b + 1, 1, none⟩ = some (.int .i64 0) ∧ W.cell? ⟨b + 1, 2, none⟩ = some (.string ⟨#[]⟩) :=
  ⟨h.1.1, (slab_cell h.2.1).trans rfl, (slab_cell h.2.1).trans rfl, (slab_cell h.2.1).trans rfl⟩
theorem TwoB.new {w : World} {x : ND} {s : Value} : TwoB w w.heap.size x s ((w.alloc (.cells #[.int .i64 x.k, .int .i64 x.n, .string x.nm, .string x.of, .int .i64 x.vk, .int .i64 x.vn, .string x.vt, s] 38)).alloc (.cells #[.int .i64 0, .int .i64 0, .string ⟨#[]⟩] 35)) :=
  ⟨(BoxN.new 38).below ((Below.refl _ _).alloc (Nat.le_refl _) _), heap_new' _ _ _ (by simp), ((Below.refl _ _).alloc (Nat.le_refl _) _).alloc (by simp) _⟩

/-- What the specification's l10Expr answers of this tree. -/
def ExS (x : ND) (ks : Fo) : Prop := ∀ (ka : Option Addr) (kc : Nat) (g : Bool) (w : World), RowT 0 w ka 0 ks → TextsN maxLen x →
    Calls Tryz.prog 43 #[ValT x (.slice ka ks.len kc), .bool g] w fun e w' => e = .returned (.bool (exprB x ks g)) ∧ Below w.heap.size w w'
theorem unS_pos (s : ByteArray) : decide (0 < unS s) = (s.toList == [45] || s.toList == [110, 111, 116] || s.toList == [105, 115, 110, 117, 108, 108] || s.toList == [105, 115, 110, 111, 116, 110, 117, 108, 108]) := by
  unfold unS
  by_cases h1 : s.toList = [110, 111, 116]
  · simp [h1]
  by_cases h2 : s.toList = [105, 115, 110, 117, 108, 108]
  · simp [h2]
  by_cases h3 : s.toList = [105, 115, 110, 111, 116, 110, 117, 108, 108]
  · simp [h3]
  by_cases h4 : s.toList = [45]
  · simp [h4]
  simp [h1, h2, h3, h4]
theorem allE_two {f : Fo} {g : Bool} (h : f.len = 2) : allE f g = (exprB (f.node 0) (f.kids 0) g && exprB (f.node 1) (f.kids 1) g) := by
  cases ha : exprB (f.node 0) (f.kids 0) g with
  | false => rw [allE_false 0 (by omega) ha]; rfl
  | true =>
    cases hb : exprB (f.node 1) (f.kids 1) g with
    | false => rw [allE_false 1 (by omega) hb]; rfl
    | true =>
      rw [allE_true fun i hi => ?_]
      · rfl
      · by_cases e : i = 0
        · subst e; exact ha
        · obtain rfl : i = 1 := (by omega); exact hb
/-- A tree of a list that is read: its cells. -/
theorem el_cells {w : World} {a : Option Addr} {f : Fo} {i n : Nat} (h : RowT 0 w a 0 f) (hn : f.len = n) (hi : i < n) : ∃ b off ka kc, a = some ⟨b, off, none⟩ ∧ b < w.heap.size ∧ CellT w b (off + i * 8) (f.node i) (.slice ka (f.kids i).len kc) ∧ RowT 0 w ka 0 (f.kids i) ∧ TextsN maxLen (f.node i) := by
  obtain ⟨b, off, ka, kc, e, _, hb, hc, ⟨_, _, ht⟩, hr⟩ := h.at i (by omega)
  exact ⟨b, off, ka, kc, e, hb, hc, hr, ht⟩

set_option maxRecDepth 100000 in
set_option maxHeartbeats 4000000 in
theorem exprBad14 (n : Int) (nm of : ByteArray) (vk vn : Int) (vt : ByteArray) (ks : Fo) (v : Value) (g : Bool) (w : World) (h : ¬ (n = 0 ∧ vk = 0 ∧ vn = 0 ∧ vt.toList = [])) :
    Calls Tryz.prog 43 #[ValT ⟨14, n, nm, of, vk, vn, vt⟩ v, .bool g] w fun e w' => e = .returned (.bool (exprB ⟨14, n, nm, of, vk, vn, vt⟩ ks g)) ∧ Below w.heap.size w w' := by
  have HE : Hid (exprB ⟨14, n, nm, of, vk, vn, vt⟩ ks g = false) := by
    show _ = _
    have : fieldB ⟨14, n, nm, of, vk, vn, vt⟩ = false := by
      cases hf : fieldB ⟨14, n, nm, of, vk, vn, vt⟩ with
      | false => rfl
      | true => exact absurd (by simp [fieldB, noV, emp] at hf; simp_all) h
    unfold exprB exB
    rw [this]
    rfl
  have HB : Hid (∀ o o', Below w.heap.size w ((w.alloc o).alloc o')) := fun o o' => ((Below.refl _ _).alloc (Nat.le_refl _) _).alloc (by simp) _
  by_cases h1 : n = 0
  · subst h1
    by_cases h2 : vk = 0
    · subst h2
      by_cases h3 : vn = 0
      · subst h3
        have h4 : ¬ vt.toList = [] := fun e => h ⟨rfl, rfl, rfl, e⟩
        clear h
        go_enter Tryz.func43, Tryz.ntmps43
        go_wp2
        all_goals
          go_ret
          exact ⟨ret_bool' HE.out.symm, HB.out _ _⟩
      · clear h
        go_enter Tryz.func43, Tryz.ntmps43
        go_wp2
        all_goals
          go_ret
          exact ⟨ret_bool' HE.out.symm, HB.out _ _⟩
    · clear h
      go_enter Tryz.func43, Tryz.ntmps43
      go_wp2
      all_goals
        go_ret
        exact ⟨ret_bool' HE.out.symm, HB.out _ _⟩
  · clear h
    go_enter Tryz.func43, Tryz.ntmps43
    go_wp2
    all_goals
      go_ret
      exact ⟨ret_bool' HE.out.symm, HB.out _ _⟩

set_option maxRecDepth 100000 in
set_option maxHeartbeats 4000000 in
theorem exprBad15 (n : Int) (nm of : ByteArray) (vk vn : Int) (vt : ByteArray) (ks : Fo) (v : Value) (g : Bool) (w : World) (h : ¬ (n = 0 ∧ vk = 0 ∧ vn = 0 ∧ vt.toList = [])) :
    Calls Tryz.prog 43 #[ValT ⟨15, n, nm, of, vk, vn, vt⟩ v, .bool g] w fun e w' => e = .returned (.bool (exprB ⟨15, n, nm, of, vk, vn, vt⟩ ks g)) ∧ Below w.heap.size w w' := by
  have HE : Hid (exprB ⟨15, n, nm, of, vk, vn, vt⟩ ks g = false) := by
    show _ = _
    have : fieldB ⟨15, n, nm, of, vk, vn, vt⟩ = false := by
      cases hf : fieldB ⟨15, n, nm, of, vk, vn, vt⟩ with
      | false => rfl
      | true => exact absurd (by simp [fieldB, noV, emp] at hf; simp_all) h
    unfold exprB exB
    rw [this]
    rfl
  have HB : Hid (∀ o o', Below w.heap.size w ((w.alloc o).alloc o')) := fun o o' => ((Below.refl _ _).alloc (Nat.le_refl _) _).alloc (by simp) _
  by_cases h1 : n = 0
  · subst h1
    by_cases h2 : vk = 0
    · subst h2
      by_cases h3 : vn = 0
      · subst h3
        have h4 : ¬ vt.toList = [] := fun e => h ⟨rfl, rfl, rfl, e⟩
        clear h
        go_enter Tryz.func43, Tryz.ntmps43
        go_wp2
        all_goals
          go_ret
          exact ⟨ret_bool' HE.out.symm, HB.out _ _⟩
      · clear h
        go_enter Tryz.func43, Tryz.ntmps43
        go_wp2
        all_goals
          go_ret
          exact ⟨ret_bool' HE.out.symm, HB.out _ _⟩
    · clear h
      go_enter Tryz.func43, Tryz.ntmps43
      go_wp2
      all_goals
        go_ret
        exact ⟨ret_bool' HE.out.symm, HB.out _ _⟩
  · clear h
    go_enter Tryz.func43, Tryz.ntmps43
    go_wp2
    all_goals
      go_ret
      exact ⟨ret_bool' HE.out.symm, HB.out _ _⟩

set_option maxRecDepth 100000 in
set_option maxHeartbeats 4000000 in
theorem exprBad16 (n : Int) (nm of : ByteArray) (vk vn : Int) (vt : ByteArray) (ks : Fo) (v : Value) (g : Bool) (w : World) (h : ¬ (n = 0 ∧ vk = 0 ∧ vn = 0 ∧ vt.toList = [])) :
    Calls Tryz.prog 43 #[ValT ⟨16, n, nm, of, vk, vn, vt⟩ v, .bool g] w fun e w' => e = .returned (.bool (exprB ⟨16, n, nm, of, vk, vn, vt⟩ ks g)) ∧ Below w.heap.size w w' := by
  have HE : Hid (exprB ⟨16, n, nm, of, vk, vn, vt⟩ ks g = false) := by
    show _ = _
    have : fieldB ⟨16, n, nm, of, vk, vn, vt⟩ = false := by
      cases hf : fieldB ⟨16, n, nm, of, vk, vn, vt⟩ with
      | false => rfl
      | true => exact absurd (by simp [fieldB, noV, emp] at hf; simp_all) h
    unfold exprB exB
    rw [this]
    rfl
  have HB : Hid (∀ o o', Below w.heap.size w ((w.alloc o).alloc o')) := fun o o' => ((Below.refl _ _).alloc (Nat.le_refl _) _).alloc (by simp) _
  by_cases h1 : n = 0
  · subst h1
    by_cases h2 : vk = 0
    · subst h2
      by_cases h3 : vn = 0
      · subst h3
        have h4 : ¬ vt.toList = [] := fun e => h ⟨rfl, rfl, rfl, e⟩
        clear h
        go_enter Tryz.func43, Tryz.ntmps43
        go_wp2
        all_goals
          go_ret
          exact ⟨ret_bool' HE.out.symm, HB.out _ _⟩
      · clear h
        go_enter Tryz.func43, Tryz.ntmps43
        go_wp2
        all_goals
          go_ret
          exact ⟨ret_bool' HE.out.symm, HB.out _ _⟩
    · clear h
      go_enter Tryz.func43, Tryz.ntmps43
      go_wp2
      all_goals
        go_ret
        exact ⟨ret_bool' HE.out.symm, HB.out _ _⟩
  · clear h
    go_enter Tryz.func43, Tryz.ntmps43
    go_wp2
    all_goals
      go_ret
      exact ⟨ret_bool' HE.out.symm, HB.out _ _⟩

set_option maxRecDepth 100000 in
set_option maxHeartbeats 4000000 in
theorem exprS13 (n : Int) (nm of : ByteArray) (vk vn : Int) (vt : ByteArray) (ks : Fo) (ka : Option Addr) (kc : Nat) (g : Bool) (w : World) :
    Calls Tryz.prog 43 #[ValT ⟨13, n, nm, of, vk, vn, vt⟩ (.slice ka ks.len kc), .bool g] w fun e w' => e = .returned (.bool (exprB ⟨13, n, nm, of, vk, vn, vt⟩ ks g)) ∧ Below w.heap.size w w' := by
  obtain ⟨len, hL⟩ : ∃ m, ks.len = m := ⟨_, rfl⟩
  have HE : Hid (exprB ⟨13, n, nm, of, vk, vn, vt⟩ ks g = (okV vk vn vt && (vk != 2 || inB vn 0 999999999999999999) && n == 0 && emp nm && emp of && ((len : Int) == 0))) := by
    show _ = _
    have h0 : (len == 0) = ((len : Int) == 0) := by rw [Bool.eq_iff_iff]; simp
    unfold exprB exB
    rw [hL, h0]
    simp [fieldB]
  rw [hL]
  clear hL
  by_cases hn : n = 0
  · subst hn
    by_cases hz : len = 0
    · subst hz
      have X0 : Hid (TwoB w w.heap.size ⟨13, 0, nm, of, vk, vn, vt⟩ (.slice ka 0 kc) _) := TwoB.new (x := ⟨13, 0, nm, of, vk, vn, vt⟩)
      go_enter Tryz.func43, Tryz.ntmps43
      go_wp2_with (first | (go_at_call 67; refine (specValueOK_any _ _ _ _).mono ?_; rintro e w' ⟨rfl, hb⟩; have X := TwoB.keep (Hid.out (p := TwoB w w.heap.size _ (.slice ka 0 kc) _) (by assumption)) hb; have XH : Hid (TwoB w w.heap.size _ (.slice ka 0 kc) _) := X; obtain ⟨⟨y0, y1, y2, y3, y4, y5, y6, y7⟩, z0, z1, z2⟩ := X.facts; clear X hb) | (go_at_call 60; refine (l01In_any _ _ _ _).mono ?_; rintro e w' ⟨rfl, hq⟩; obtain rfl := hq.symm) | fail)
      all_goals
        go_ret
        refine ⟨ret_bool' ?_, (Hid.out (p := TwoB w w.heap.size _ (.slice ka 0 kc) _) (by assumption)).2.2⟩
        rw [HE.out]
        simp_all [emp]
    · have hz' : ¬ ((len : Int) = 0) := by omega
      have HB : Hid (∀ o o', Below w.heap.size w ((w.alloc o).alloc o')) := fun o o' => ((Below.refl _ _).alloc (Nat.le_refl _) _).alloc (by simp) _
      have HF : Hid (exprB ⟨13, 0, nm, of, vk, vn, vt⟩ ks g = false) := by show _ = _; rw [HE.out]; simp [hz]
      clear HE
      go_enter Tryz.func43, Tryz.ntmps43
      go_wp2
      all_goals
        go_ret
        exact ⟨ret_bool' HF.out.symm, HB.out _ _⟩
  · have HB : Hid (∀ o o', Below w.heap.size w ((w.alloc o).alloc o')) := fun o o' => ((Below.refl _ _).alloc (Nat.le_refl _) _).alloc (by simp) _
    have HF : Hid (exprB ⟨13, n, nm, of, vk, vn, vt⟩ ks g = false) := by show _ = _; rw [HE.out]; simp [hn]
    clear HE
    go_enter Tryz.func43, Tryz.ntmps43
    go_wp2
    go_ret
    exact ⟨ret_bool' HF.out.symm, HB.out _ _⟩

set_option maxRecDepth 100000 in
set_option maxHeartbeats 4000000 in
theorem exprS14 (nm of vt : ByteArray) (ks : Fo) (ka : Option Addr) (kc : Nat) (g : Bool) (w : World) (ht : nm.size ≤ maxLen ∧ of.size ≤ maxLen) (hv : vt.toList = []) :
    Calls Tryz.prog 43 #[ValT ⟨14, 0, nm, of, 0, 0, vt⟩ (.slice ka ks.len kc), .bool g] w fun e w' => e = .returned (.bool (exprB ⟨14, 0, nm, of, 0, 0, vt⟩ ks g)) ∧ Below w.heap.size w w' := by
  have HT : Hid (nm.size ≤ maxLen ∧ of.size ≤ maxLen) := ht
  obtain ⟨len, hL⟩ : ∃ m, ks.len = m := ⟨_, rfl⟩
  have HE : Hid (exprB ⟨14, 0, nm, of, 0, 0, vt⟩ ks g = (givenB nm && (emp of || givenB of) && ((len : Int) == 0))) := by
    show _ = _
    have h0 : (len == 0) = ((len : Int) == 0) := by rw [Bool.eq_iff_iff]; simp
    unfold exprB exB
    rw [hL, h0]
    simp [fieldB, noV, emp, hv]
  rw [hL]
  clear hL ht
  have X0 : Hid (TwoB w w.heap.size ⟨14, 0, nm, of, 0, 0, vt⟩ (.slice ka len kc) _) := TwoB.new (x := ⟨14, 0, nm, of, 0, 0, vt⟩)
  go_enter Tryz.func43, Tryz.ntmps43
  go_wp2_with (first | (go_at_call 42; refine (l09Name_any _ _ (by first | exact HT.out.1 | exact HT.out.2)).mono ?_; rintro e w' ⟨rfl, hb⟩; have X := TwoB.keep (Hid.out (p := TwoB w w.heap.size _ (.slice ka len kc) _) (by assumption)) hb; have XH : Hid (TwoB w w.heap.size _ (.slice ka len kc) _) := X; obtain ⟨⟨y0, y1, y2, y3, y4, y5, y6, y7⟩, z0, z1, z2⟩ := X.facts; clear X hb) | fail)
  all_goals
    go_ret
    refine ⟨ret_bool' ?_, (Hid.out (p := TwoB w w.heap.size _ (.slice ka len kc) _) (by assumption)).2.2⟩
    rw [HE.out]
    simp_all [emp]

set_option maxRecDepth 100000 in
set_option maxHeartbeats 4000000 in
theorem exprS15 (nm of vt : ByteArray) (ks : Fo) (ih : ∀ i, i < ks.len → ExS (ks.node i) (ks.kids i)) (ka : Option Addr) (kc : Nat) (g : Bool) (w : World) (hrow : RowT 0 w ka 0 ks) (hv : vt.toList = []) :
    Calls Tryz.prog 43 #[ValT ⟨15, 0, nm, of, 0, 0, vt⟩ (.slice ka ks.len kc), .bool g] w fun e w' => e = .returned (.bool (exprB ⟨15, 0, nm, of, 0, 0, vt⟩ ks g)) ∧ Below w.heap.size w w' := by
  obtain ⟨len, hL⟩ : ∃ m, ks.len = m := ⟨_, rfl⟩
  have HE : Hid (exprB ⟨15, 0, nm, of, 0, 0, vt⟩ ks g = ((nm.toList == [45] || nm.toList == [110, 111, 116] || nm.toList == [105, 115, 110, 117, 108, 108] || nm.toList == [105, 115, 110, 111, 116, 110, 117, 108, 108]) && emp of && (len == 1 && allE ks g))) := by
    show _ = _
    unfold exprB exB
    rw [hL, ← unS_pos]
    simp [fieldB, noV, emp, hv]
  have HR : Hid (RowT 0 w ka 0 ks) := hrow
  have HL : Hid (ks.len = len) := hL
  have IH : Hid (∀ i, i < ks.len → ExS (ks.node i) (ks.kids i)) := ih
  rw [hL]
  clear hL hrow ih
  have X0 : Hid (TwoB w w.heap.size ⟨15, 0, nm, of, 0, 0, vt⟩ (.slice ka len kc) _) := TwoB.new (x := ⟨15, 0, nm, of, 0, 0, vt⟩)
  by_cases h1 : len = 1
  · subst h1
    obtain ⟨b, off, ca, cc, rfl, hlb, hc, hkr, htx⟩ := el_cells HR.out HL.out (i := 0) (by omega)
    have hcall := IH.out 0 (by rw [HL.out]; omega) ca cc g _ (hkr.below X0.out.2.2) htx
    have HO : Hid (allE ks g = exprB (ks.node 0) (ks.kids 0) g) := allE_one HL.out
    rw [Nat.zero_mul, Nat.add_zero] at hc
    obtain ⟨c0, c1, c2, c3, c4, c5, c6, c7⟩ := hc
    clear hkr htx HR IH
    go_enter Tryz.func43, Tryz.ntmps43
    go_wp2_with (first | (go_at_call 43; refine hcall.mono ?_; rintro e w' ⟨rfl, hb⟩; have HB : Hid (Below w.heap.size w w') := below_step X0.out.2.2 (Nat.le_refl _) hb; clear hb) | fail)
    all_goals
      go_ret
      refine ⟨ret_bool' ?_, by first | exact X0.out.2.2 | exact Hid.out (by assumption)⟩
      rw [HE.out, HO.out]
      clear c0 c1 c2 c3 c4 c5 c6 c7 hcall
      simp_all [emp]
  · have h1' : ¬ ((len : Int) = 1) := by omega
    have HZ : Hid ((len == 1) = false) := by show _ = _; simpa using h1
    go_enter Tryz.func43, Tryz.ntmps43
    go_wp2
    all_goals
      go_ret
      exact ⟨ret_bool' (by rw [HE.out, HZ.out]; simp), X0.out.2.2⟩

set_option maxRecDepth 100000 in
set_option maxHeartbeats 4000000 in
theorem exprS16 (nm of vt : ByteArray) (ks : Fo) (ih : ∀ i, i < ks.len → ExS (ks.node i) (ks.kids i)) (ka : Option Addr) (kc : Nat) (g : Bool) (w : World) (hrow : RowT 0 w ka 0 ks) (hv : vt.toList = []) :
    Calls Tryz.prog 43 #[ValT ⟨16, 0, nm, of, 0, 0, vt⟩ (.slice ka ks.len kc), .bool g] w fun e w' => e = .returned (.bool (exprB ⟨16, 0, nm, of, 0, 0, vt⟩ ks g)) ∧ Below w.heap.size w w' := by
  obtain ⟨len, hL⟩ : ∃ m, ks.len = m := ⟨_, rfl⟩
  have HE : Hid (exprB ⟨16, 0, nm, of, 0, 0, vt⟩ ks g = (decide (0 < levS nm) && emp of && (len == 2 && allE ks g))) := by
    show _ = _
    unfold exprB exB
    rw [hL]
    simp [fieldB, noV, emp, hv]
  have HR : Hid (RowT 0 w ka 0 ks) := hrow
  have HL : Hid (ks.len = len) := hL
  have IH : Hid (∀ i, i < ks.len → ExS (ks.node i) (ks.kids i)) := ih
  rw [hL]
  clear hL hrow ih
  have X0 : Hid (TwoB w w.heap.size ⟨16, 0, nm, of, 0, 0, vt⟩ (.slice ka len kc) _) := TwoB.new (x := ⟨16, 0, nm, of, 0, 0, vt⟩)
  have hlv := l10Level_any nm ((w.alloc (.cells #[.int .i64 16, .int .i64 0, .string nm, .string of, .int .i64 0, .int .i64 0, .string vt, .slice ka len kc] 38)).alloc (.cells #[.int .i64 0, .int .i64 0, .string ⟨#[]⟩] 35))
  obtain ⟨lv, hlev⟩ : ∃ z, levS nm = z := ⟨_, rfl⟩
  rw [hlev] at hlv HE
  clear hlev
  by_cases hok : len = 2 ∧ of.toList = [] ∧ 0 < lv
  · obtain ⟨rfl, hof, hlp⟩ := hok
    obtain ⟨b, off, ca, cc, rfl, hlb, hc, hkr, htx⟩ := el_cells HR.out HL.out (i := 0) (by omega)
    have hcall := IH.out 0 (by rw [HL.out]; omega) ca cc g _ (hkr.below X0.out.2.2) htx
    have HO : Hid (allE ks g = (exprB (ks.node 0) (ks.kids 0) g && exprB (ks.node 1) (ks.kids 1) g)) := allE_two HL.out
    rw [Nat.zero_mul, Nat.add_zero] at hc
    obtain ⟨c0, c1, c2, c3, c4, c5, c6, c7⟩ := hc
    clear hkr htx
    go_enter Tryz.func43, Tryz.ntmps43
    go_wp2_with (first | (go_at_call 68; refine hlv.mono ?_; rintro e w' ⟨rfl, hq⟩; obtain rfl := hq.symm) | fail)
    refine hcall.mono ?_
    rintro e w' ⟨rfl, hb⟩
    have X1 : Hid (TwoB w w.heap.size _ (.slice (some ⟨b, off, none⟩) 2 kc) w') := X0.out.keep hb
    obtain ⟨⟨y0, y1, y2, y3, y4, y5, y6, y7⟩, z0, z1, z2⟩ := X1.out.facts
    simp only at y0 y1 y2 y3 y4 y5 y6 y7
    clear c0 c1 c2 c3 c4 c5 c6 c7 hb hcall X0 hlv
    cases h0 : exprB (ks.node 0) (ks.kids 0) g with
    | false =>
      have HF : Hid (exprB ⟨16, 0, nm, of, 0, 0, vt⟩ ks g = false) := by show _ = _; rw [HE.out, HO.out, h0]; simp
      clear h0
      go_wp2
      go_ret
      exact ⟨ret_bool' HF.out.symm, X1.out.2.2⟩
    | true =>
      have HF : Hid (exprB ⟨16, 0, nm, of, 0, 0, vt⟩ ks g = exprB (ks.node 1) (ks.kids 1) g) := by show _ = _; rw [HE.out, HO.out, h0]; simp [emp, hof, hlp]
      clear h0
      obtain ⟨b', off', ca', cc', he, hlb', hc', hkr, htx⟩ := el_cells (HR.out.below X1.out.2.2) HL.out (i := 1) (by omega)
      obtain ⟨rfl, rfl⟩ : b = b' ∧ off = off' := by simpa using he
      rw [Nat.one_mul] at hc'
      obtain ⟨c0, c1, c2, c3, c4, c5, c6, c7⟩ := hc'
      have hcall := IH.out 1 (by rw [HL.out]; omega) ca' cc' g _ hkr htx
      clear hkr htx he
      go_wp2_with fail
      refine hcall.mono ?_
      rintro e w2 ⟨rfl, hb⟩
      have HB : Hid (Below w.heap.size w w2) := below_step X1.out.2.2 (Nat.le_refl _) hb
      clear c0 c1 c2 c3 c4 c5 c6 c7 y0 y1 y2 y3 y4 y5 y6 y7 z0 z1 z2 hcall hb
      go_wp2
      go_ret
      exact ⟨ret_bool' HF.out.symm, HB.out⟩
  · have HF : Hid (exprB ⟨16, 0, nm, of, 0, 0, vt⟩ ks g = false) := by
      show _ = _
      rw [HE.out]
      rcases Decidable.em (len = 2) with h | h
      · by_cases h' : of.toList = []
        · have : ¬ 0 < lv := fun e => hok ⟨h, h', e⟩
          simp [this]
        · simp [emp, h']
      · have : (len == 2) = false := by simpa using h
        rw [this]; simp
    by_cases h2 : (len : Int) = 2
    · by_cases h' : of.toList = []
      · have hlp : ¬ 0 < lv := fun e => hok ⟨by omega, h', e⟩
        clear hok
        go_enter Tryz.func43, Tryz.ntmps43
        go_wp2_with (first | (go_at_call 68; refine hlv.mono ?_; rintro e w' ⟨rfl, hq⟩; obtain rfl := hq.symm) | fail)
        all_goals
          go_ret
          exact ⟨ret_bool' HF.out.symm, X0.out.2.2⟩
      · clear hok
        go_enter Tryz.func43, Tryz.ntmps43
        go_wp2
        all_goals
          go_ret
          exact ⟨ret_bool' HF.out.symm, X0.out.2.2⟩
    · clear hok
      go_enter Tryz.func43, Tryz.ntmps43
      go_wp2_with (first | (go_at_call 68; refine hlv.mono ?_; rintro e w' ⟨rfl, hq⟩; obtain rfl := hq.symm) | fail)
      all_goals
        go_ret
        exact ⟨ret_bool' HF.out.symm, X0.out.2.2⟩
end Go.Proofs.YteejkmcljokloaaGreatDoor
