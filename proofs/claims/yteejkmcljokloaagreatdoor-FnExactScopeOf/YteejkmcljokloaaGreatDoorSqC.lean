/- Which expressions are right, and impl's exprOK and allRight (stage 11). -/
import Derived.Test.YteejkmcljokloaaGreatDoorSqB
namespace Go.Proofs.YteejkmcljokloaaGreatDoor
open Go.RowKit

/-- An expression's node is right, where a and b say whether its kids are (b: without aggregates). -/
def exB (x : ND) (n : Nat) (g a b : Bool) : Bool :=
  fieldB x && (if x.k = 13 ∨ x.k = 14 then n == 0 else if x.k = 15 then n == 1 && a else if x.k = 16 then n == 2 && a
    else if x.k = 17 then g && ((n == 0 && x.nm.toList == [99, 111, 117, 110, 116]) || (n == 1 && b)) else false)
/-- All of these are right expressions; g says whether an aggregate may stand in them. -/
def allE : Fo → Bool → Bool
  | .nil, _ => true
  | .cons x ks r, g => exB x ks.len g (allE ks g) (allE ks false) && allE r g
/-- The expression is right. -/
def exprB (x : ND) (ks : Fo) (g : Bool) : Bool := exB x ks.len g (allE ks g) (allE ks false)
theorem allE_true : ∀ {f : Fo} {g : Bool}, (∀ i, i < f.len → exprB (f.node i) (f.kids i) g = true) → allE f g = true
  | .nil, _, _ => rfl
  | .cons x ks r, g, h => by
    have h0 := h 0 (by simp [Fo.len])
    have hr := allE_true (f := r) (g := g) fun i hi => h (i + 1) (by simp only [Fo.len]; omega)
    unfold allE
    rw [hr]
    simpa [exprB, Fo.node, Fo.kids] using h0
theorem allE_false : ∀ {f : Fo} {g : Bool} (i : Nat), i < f.len → exprB (f.node i) (f.kids i) g = false → allE f g = false
  | .nil, _, i, hi, _ => by simp [Fo.len] at hi
  | .cons x ks r, g, 0, _, h => by
    unfold allE
    have : exB x ks.len g (allE ks g) (allE ks false) = false := h
    rw [this]; rfl
  | .cons x ks r, g, i + 1, hi, h => by
    have := allE_false (f := r) (g := g) i (by simp only [Fo.len] at hi; omega) h
    unfold allE
    rw [this, Bool.and_false]
/-- One expression alone. -/
theorem allE_one {f : Fo} {g : Bool} (h : f.len = 1) : allE f g = exprB (f.node 0) (f.kids 0) g := by
  cases hb : exprB (f.node 0) (f.kids 0) g with
  | true => exact allE_true fun i hi => by obtain rfl : i = 0 := (by omega); exact hb
  | false => exact allE_false 0 (by omega) hb

/-- What impl's exprOK answers of this tree. -/
def ExI (x : ND) (ks : Fo) : Prop := ∀ (ka : Option Addr) (kc : Nat) (g : Bool) (w : World), RowT 0 w ka 0 ks → ks.len ≤ maxLen → TextsN maxLen x →
    Calls Tryz.prog 102 #[ValT x (.slice ka ks.len kc), .bool g] w fun e w' => e = .returned (.bool (exprB x ks g)) ∧ Below w.heap.size w w'
set_option maxRecDepth 100000 in
set_option maxHeartbeats 2000000 in
theorem allRight_of (f : Fo) (ih : ∀ i, i < f.len → ExI (f.node i) (f.kids i)) (a : Option Addr) (cap : Nat) (g : Bool) (w : World) (hrow : RowT 0 w a 0 f) (hlen : f.len ≤ maxLen) :
    Calls Tryz.prog 75 #[.slice a f.len cap, .bool g] w fun e w' => e = .returned (.bool (allE f g)) ∧ Below w.heap.size w w' := by
  have HR : Hid (RowT 0 w a 0 f) := hrow
  have IH : Hid (∀ i, i < f.len → ExI (f.node i) (f.kids i)) := ih
  clear hrow ih
  unfold maxLen at hlen
  obtain ⟨len, hL⟩ : ∃ m, f.len = m := ⟨_, rfl⟩
  have HL : Hid (f.len = len) := hL
  rw [hL] at hlen ⊢
  clear hL
  go_enter Tryz.func75, Tryz.ntmps75
  go_wp2
  go_loopw [9] (fun i wr => ∃ k : Nat, k ≤ len ∧ i = .int .i64 k ∧ Hid (∀ i, i < k → exprB (f.node i) (f.kids i) g = true) ∧ Below w.heap.size w wr) (fun i _ => len - (intOf i).toNat)
  case atStart => exact ⟨0, by omega, rfl, fun i hi => by omega, Below.refl _ _⟩
  case round =>
    obtain ⟨k, hk, rfl, HS, hbl⟩ := hrel
    by_cases hlt : k < len
    · have hkf : k < f.len := by rw [HL.out]; exact hlt
      obtain ⟨b, off, ka, kc, rfl, _, hlb, ⟨c0, c1, c2, c3, c4, c5, c6, c7⟩, ⟨_, hkl, htx⟩, hkr⟩ := (HR.out.below hbl).at k hkf
      obtain ⟨W1, hW1⟩ : ∃ W1, wr.alloc (.cells #[.int .i64 (f.node k).k, .int .i64 (f.node k).n, .string (f.node k).nm, .string (f.node k).of, .int .i64 (f.node k).vk, .int .i64 (f.node k).vn, .string (f.node k).vt, .slice ka (f.kids k).len kc] 38) = W1 := ⟨_, rfl⟩
      have b1 : Below wr.heap.size wr W1 := hW1 ▸ (Below.refl _ _).alloc (Nat.le_refl _) _
      have X1 : BoxN wr.heap.size (f.node k) (.slice ka (f.kids k).len kc) W1 := hW1 ▸ BoxN.new 38
      obtain ⟨⟨y0, y1, y2, y3, y4, y5, y6, y7⟩, _⟩ := X1
      have hB1 := below_step hbl (Nat.le_refl _) b1
      have hc := IH.out k hkf ka kc g W1 (hkr.below b1) hkl htx
      have HS' : Hid (exprB (f.node k) (f.kids k) g = true → ∀ i, i < k + 1 → exprB (f.node i) (f.kids i) g = true) := fun h i hi => by
        by_cases e : i = k
        · rw [e]; exact h
        · exact HS.out i (by omega)
      have HF : Hid (exprB (f.node k) (f.kids k) g = false → allE f g = false) := fun h => allE_false k hkf h
      clear hkr hkl htx b1 HS hkf
      go_wp2_with fail
      refine hc.mono ?_
      rintro e w2 ⟨rfl, b2⟩
      have hB2 := below_step hB1 (Nat.le_refl _) b2
      clear hc c0 c1 c2 c3 c4 c5 c6 c7 y0 y1 y2 y3 y4 y5 y6 y7 b2 hB1 hlb hW1
      cases hx : exprB (f.node k) (f.kids k) g with
      | false =>
        have HE : Hid (allE f g = false) := HF.out hx
        clear hx HF HS'
        go_wp2
        go_ret
        exact ⟨ret_bool' HE.out.symm, hB2⟩
      | true =>
        have HN : Hid (∀ i, i < k + 1 → exprB (f.node i) (f.kids i) g = true) := HS'.out hx
        clear hx HF HS'
        go_wp2
        go_roundw
        case rel => exact ⟨k + 1, by omega, by go_num, HN, hB2⟩
        case measure => simp [intOf]; omega
    · obtain rfl : k = len := by omega
      have HE : Hid (allE f g = true) := allE_true (by rw [HL.out]; exact HS.out)
      go_wp2
      go_ret
      exact ⟨ret_bool' HE.out.symm, hbl⟩

set_option maxRecDepth 100000 in
set_option maxHeartbeats 4000000 in
theorem exprOK_step (x : ND) (ks : Fo) (ih : ∀ i, i < ks.len → ExI (ks.node i) (ks.kids i)) : ExI x ks := by
  intro ka kc g w hrow hlen ht
  have B0 : Below w.heap.size w (w.alloc (.cells #[.int .i64 x.k, .int .i64 x.n, .string x.nm, .string x.of, .int .i64 x.vk, .int .i64 x.vn, .string x.vt, .slice ka ks.len kc] 38)) := (Below.refl _ _).alloc (Nat.le_refl _) _
  have X0 : Hid (BoxN w.heap.size x (.slice ka ks.len kc) (w.alloc (.cells #[.int .i64 x.k, .int .i64 x.n, .string x.nm, .string x.of, .int .i64 x.vk, .int .i64 x.vn, .string x.vt, .slice ka ks.len kc] 38))) := BoxN.new 38
  have HF := fieldsOK_any x (.slice ka ks.len kc) (w.alloc (.cells #[.int .i64 x.k, .int .i64 x.n, .string x.nm, .string x.of, .int .i64 x.vk, .int .i64 x.vn, .string x.vt, .slice ka ks.len kc] 38)) ht
  have HR : Hid (RowT 0 w ka 0 ks ∧ ks.len ≤ maxLen) := ⟨hrow, hlen⟩
  have IH : Hid (∀ i, i < ks.len → ExI (ks.node i) (ks.kids i)) := ih
  have HE : Hid (exprB x ks g = exB x ks.len g (allE ks g) (allE ks false)) := rfl
  clear hrow ih ht
  unfold maxLen at hlen
  go_enter Tryz.func102, Tryz.ntmps102
  go_wp2_with fail
  refine HF.mono ?_
  rintro e w1 ⟨rfl, b1⟩
  have B1 := B0.trans (b1.mono B0.size)
  have X1 := X0.out.below b1
  clear B0 X0 b1 HF
  cases hf : fieldB x with
  | false =>
    have HN : Hid (exprB x ks g = false) := by show _ = _; rw [HE.out, exB, hf]; rfl
    clear hf X1
    go_wp2
    go_ret
    exact ⟨ret_bool' HN.out.symm, B1⟩
  | true =>
    have HN : Hid (exprB x ks g = if x.k = 13 ∨ x.k = 14 then ks.len == 0 else if x.k = 15 then ks.len == 1 && allE ks g else if x.k = 16 then ks.len == 2 && allE ks g
        else if x.k = 17 then g && ((ks.len == 0 && x.nm.toList == [99, 111, 117, 110, 116]) || (ks.len == 1 && allE ks false)) else false) := by
      show _ = _
      rw [HE.out, exB, hf, Bool.true_and]
    have HA : Hid (∀ g, Calls Tryz.prog 75 #[.slice ka ks.len kc, .bool g] w1 fun e w' => e = .returned (.bool (allE ks g)) ∧ Below w1.heap.size w1 w') := fun g => allRight_of ks IH.out ka kc g w1 (HR.out.1.below B1) HR.out.2
    have HB : Hid (∀ w2, Below w1.heap.size w1 w2 → Below w.heap.size w w2) := fun w2 b => below_step B1 (Nat.le_refl _) b
    clear hf HE
    obtain ⟨⟨y0, y1, y2, y3, y4, y5, y6, y7⟩, _⟩ := X1
    obtain ⟨k, n, nm, of, vk, vn, vt⟩ := x
    simp only at y0 y1 y2 y3 y4 y5 y6 HN
    obtain ⟨len, hL⟩ : ∃ m, ks.len = m := ⟨_, rfl⟩
    have HL : Hid (ks.len = len) := hL
    rw [hL] at y7 hlen HN HA ⊢
    by_cases h13 : k = 13 ∨ k = 14
    · have HQ : Hid (exprB ⟨k, n, nm, of, vk, vn, vt⟩ ks g = (len == 0)) := by show _ = _; rw [HN.out, if_pos h13]
      clear HN HA hL
      by_cases h0 : len = 0
      · subst h0
        rcases h13 with rfl | rfl <;> go_wp2 <;> go_ret <;> exact ⟨ret_bool' (by rw [HQ.out]; rfl), B1⟩
      · have h0' : ¬ ((len : Int) = 0) := by omega
        have HZ : Hid ((len == 0) = false) := by show _ = _; simpa using h0
        rcases h13 with rfl | rfl <;> go_wp2 <;> go_ret <;> exact ⟨ret_bool' (by rw [HQ.out, HZ.out]; simpa using h0), B1⟩
    have h13a : ¬ k = 13 := fun h => h13 (.inl h)
    have h13b : ¬ k = 14 := fun h => h13 (.inr h)
    by_cases h15 : k = 15
    · subst h15
      have HQ : Hid (exprB ⟨15, n, nm, of, vk, vn, vt⟩ ks g = (len == 1 && allE ks g)) := by show _ = _; rw [HN.out, if_neg h13, if_pos rfl]
      clear HN hL h13 h13a h13b
      by_cases h0 : len = 1
      · subst h0
        go_wp2_with fail
        refine (HA.out g).mono ?_
        rintro e w2 ⟨rfl, b2⟩
        have B2 := HB.out w2 b2
        clear b2 HA
        go_wp2
        go_ret
        exact ⟨ret_bool' (by rw [HQ.out]; rfl), B2⟩
      · have h0' : ¬ ((len : Int) = 1) := by omega
        have HZ : Hid ((len == 1) = false) := by show _ = _; simpa using h0
        clear HA
        go_wp2
        go_ret
        exact ⟨ret_bool' (by rw [HQ.out, HZ.out]; rfl), B1⟩
    by_cases h16 : k = 16
    · subst h16
      have HQ : Hid (exprB ⟨16, n, nm, of, vk, vn, vt⟩ ks g = (len == 2 && allE ks g)) := by show _ = _; rw [HN.out, if_neg h13, if_neg h15, if_pos rfl]
      clear HN hL h13 h13a h13b h15
      by_cases h0 : len = 2
      · subst h0
        go_wp2_with fail
        refine (HA.out g).mono ?_
        rintro e w2 ⟨rfl, b2⟩
        have B2 := HB.out w2 b2
        clear b2 HA
        go_wp2
        go_ret
        exact ⟨ret_bool' (by rw [HQ.out]; rfl), B2⟩
      · have h0' : ¬ ((len : Int) = 2) := by omega
        have HZ : Hid ((len == 2) = false) := by show _ = _; simpa using h0
        clear HA
        go_wp2
        go_ret
        exact ⟨ret_bool' (by rw [HQ.out, HZ.out]; rfl), B1⟩
    by_cases h17 : k = 17
    · subst h17
      have HQ : Hid (exprB ⟨17, n, nm, of, vk, vn, vt⟩ ks g = (g && ((len == 0 && nm.toList == [99, 111, 117, 110, 116]) || (len == 1 && allE ks false)))) := by show _ = _; rw [HN.out, if_neg h13, if_neg h15, if_neg h16, if_pos rfl]
      clear HN hL h13 h13a h13b h15 h16 HA
      cases g with
      | false =>
        go_wp2
        all_goals
          go_ret
          exact ⟨ret_bool' (by rw [HQ.out]; rfl), B1⟩
      | true =>
        by_cases h0 : len = 0
        · subst h0
          go_wp2
          all_goals
            go_ret
            exact ⟨ret_bool' (by rw [HQ.out]; simp_all), B1⟩
        · by_cases h1 : len = 1
          · subst h1
            have hkf : 0 < ks.len := by rw [HL.out]; omega
            obtain ⟨b, off, ca, cc, rfl, _, hlb, ⟨c0, c1, c2, c3, c4, c5, c6, c7⟩, ⟨_, hkl, htx⟩, hkr⟩ := (HR.out.1.below B1).at 0 hkf
            have hc := IH.out 0 hkf ca cc false w1 hkr hkl htx
            have HO : Hid (allE ks false = exprB (ks.node 0) (ks.kids 0) false) := allE_one HL.out
            simp only [Nat.zero_mul, Nat.add_zero] at c0 c1 c2 c3 c4 c5 c6 c7
            clear hkr hkl htx hkf
            go_wp2_with fail
            refine hc.mono ?_
            rintro e w2 ⟨rfl, b2⟩
            have B2 := HB.out w2 b2
            clear b2 hc c0 c1 c2 c3 c4 c5 c6 c7
            go_wp2
            go_ret
            exact ⟨ret_bool' (by rw [HQ.out, HO.out]; rfl), B2⟩
          · have h0' : ¬ ((len : Int) = 0) := by omega
            have h1' : ¬ ((len : Int) = 1) := by omega
            have HZ : Hid ((len == 0) = false ∧ (len == 1) = false) := ⟨by simpa using h0, by simpa using h1⟩
            go_wp2
            all_goals
              go_ret
              exact ⟨ret_bool' (by rw [HQ.out, HZ.out.1, HZ.out.2]; rfl), B1⟩
    · have HQ : Hid (exprB ⟨k, n, nm, of, vk, vn, vt⟩ ks g = false) := by show _ = _; rw [HN.out, if_neg h13, if_neg h15, if_neg h16, if_neg h17]
      clear HN HA hL
      go_wp2
      go_ret
      exact ⟨ret_bool' HQ.out.symm, B1⟩
theorem exI_all : ∀ (m : Nat) (x : ND) (ks : Fo), ks.size ≤ m → ExI x ks
  | 0, x, ks, h => exprOK_step x ks fun i hi => by have := ks.len_le; omega
  | m + 1, x, ks, h => exprOK_step x ks fun i hi => exI_all m _ _ (by have := ks.kids_lt i hi; omega)
theorem exI_any (x : ND) (ks : Fo) : ExI x ks := exI_all _ x ks (Nat.le_refl _)
theorem allRight_any (f : Fo) (a : Option Addr) (cap : Nat) (g : Bool) (w : World) (hrow : RowT 0 w a 0 f) (hlen : f.len ≤ maxLen) :
    Calls Tryz.prog 75 #[.slice a f.len cap, .bool g] w fun e w' => e = .returned (.bool (allE f g)) ∧ Below w.heap.size w w' := allRight_of f (fun _ _ => exI_any _ _) a cap g w hrow hlen
end Go.Proofs.YteejkmcljokloaaGreatDoor
