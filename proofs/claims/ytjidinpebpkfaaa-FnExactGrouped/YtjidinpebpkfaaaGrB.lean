/- spec's l11HasAgg and l11Grouped (stage 11). -/
import Derived.Test.YtjidinpebpkfaaaGrA
namespace Go.Proofs.Ytjidinpebpkfaaa
open Go.RowKit

/-- What spec's l11HasAgg answers of this tree. -/
def HaS (x : ND) (ks : Fo) : Prop := ∀ (ka : Option Addr) (kc : Nat) (w : World), RowT 0 w ka 0 ks → ks.len ≤ maxLen →
    Calls Try.prog 42 #[ValT x (.slice ka ks.len kc)] w fun e w' => e = .returned (.bool (hasN x ks 17)) ∧ Below w.heap.size w w'
theorem cellT_new {w : World} (x : ND) (s : Value) (ty : TypeId) : CellT (w.alloc (.cells #[.int .i64 x.k, .int .i64 x.n, .string x.nm, .string x.of, .int .i64 x.vk, .int .i64 x.vn, .string x.vt, s] ty)) w.heap.size 0 x s := by
  refine ⟨?_, ?_, ?_, ?_, ?_, ?_, ?_, ?_⟩ <;> exact slab_cell (heap_new' _ _ _ rfl)
set_option maxRecDepth 100000 in
set_option maxHeartbeats 2000000 in
theorem hasAgg_of (x : ND) (ks : Fo) (ih : ∀ i, i < ks.len → HaS (ks.node i) (ks.kids i)) : HaS x ks := by
  intro ka kc w hrow hlen
  have HR : Hid (RowT 0 w ka 0 ks) := hrow
  have IH : Hid (∀ i, i < ks.len → HaS (ks.node i) (ks.kids i)) := ih
  clear hrow ih
  unfold maxLen at hlen
  obtain ⟨len, hL⟩ : ∃ m, ks.len = m := ⟨_, rfl⟩
  have HL : Hid (ks.len = len) := hL
  rw [hL] at hlen ⊢
  clear hL
  obtain ⟨W1, hW1⟩ : ∃ W1, w.alloc (.cells #[.int .i64 x.k, .int .i64 x.n, .string x.nm, .string x.of, .int .i64 x.vk, .int .i64 x.vn, .string x.vt, .slice ka len kc] 41) = W1 := ⟨_, rfl⟩
  have B1 : Below w.heap.size w W1 := hW1 ▸ (Below.refl _ _).alloc (Nat.le_refl _) _
  have X1 : Hid (CellT W1 w.heap.size 0 x (.slice ka len kc)) := hW1 ▸ cellT_new x _ 41
  have S1 : w.heap.size < W1.heap.size := by rw [← hW1]; simp
  by_cases h17 : x.k = 17
  · have HT : Hid (hasN x ks 17 = true) := by show _ = _; unfold hasN; rw [h17]; rfl
    have B1' := B1
    rw [← hW1, h17] at B1'
    clear B1 X1 S1
    go_enter Try.func42, Try.ntmps42
    go_wp2
    go_ret
    exact ⟨ret_bool' HT.out.symm, B1'⟩
  have HN : Hid (hasN x ks 17 = hasK ks 17) := by show _ = _; unfold hasN; rw [beq_eq_false_iff_ne.2 h17]; simp
  obtain ⟨y0, y1, y2, y3, y4, y5, y6, y7⟩ := X1.out
  have hB17 : (x.k == 17) = false := beq_eq_false_iff_ne.2 h17
  go_enter Try.func42, Try.ntmps42
  go_wp2
  go_loopw [3] (fun i wr => ∃ k : Nat, k ≤ len ∧ i = .int .i64 k ∧ Hid (∀ i, i < k → hasN (ks.node i) (ks.kids i) 17 = false) ∧ Below W1.heap.size W1 wr) (fun i _ => len - (intOf i).toNat)
  case atStart => exact ⟨0, by omega, rfl, fun i hi => by omega, Below.refl _ _⟩
  case round =>
    obtain ⟨k, hk, rfl, HS, hbl⟩ := hrel
    clear y0 y1 y2 y3 y4 y5 y6 y7
    obtain ⟨y0, y1, y2, y3, y4, y5, y6, y7⟩ := X1.out.same (hbl.block _ S1)
    have hB := B1.trans (hbl.mono B1.size)
    by_cases hlt : k < len
    · have hkf : k < ks.len := by rw [HL.out]; exact hlt
      obtain ⟨b, off, ka', kc', rfl, _, hlb, ⟨c0, c1, c2, c3, c4, c5, c6, c7⟩, ⟨_, hkl, htx⟩, hkr⟩ := (HR.out.below hB).at k hkf
      have hc := IH.out k hkf ka' kc' wr hkr hkl
      go_wp2_with fail
      refine hc.mono ?_
      rintro e w2 ⟨rfl, b2⟩
      have hB2 := below_step hB (Nat.le_refl _) b2
      have hbl2 := below_step hbl (Nat.le_refl _) b2
      clear hc c0 c1 c2 c3 c4 c5 c6 c7 y0 y1 y2 y3 y4 y5 y6 y7 b2 hB hlb hbl hkr htx hkl
      cases hx : hasN (ks.node k) (ks.kids k) 17 with
      | true =>
        have HE : Hid (hasK ks 17 = true) := hasK_true k hkf hx
        clear hx HS
        go_wp2
        go_ret
        exact ⟨ret_bool' (HN.out.trans HE.out).symm, hB2⟩
      | false =>
        have HS' : Hid (∀ i, i < k + 1 → hasN (ks.node i) (ks.kids i) 17 = false) := fun i hi => by
          by_cases e : i = k
          · rw [e]; exact hx
          · exact HS.out i (by omega)
        clear hx HS
        go_wp2
        go_roundw
        case rel => exact ⟨k + 1, by omega, by go_num, HS', hbl2⟩
        case measure => simp [intOf]; omega
    · obtain rfl : k = len := by omega
      have HE : Hid (hasK ks 17 = false) := hasK_false (by rw [HL.out]; exact HS.out)
      go_wp2
      go_ret
      exact ⟨ret_bool' (HN.out.trans HE.out).symm, hB⟩
theorem hasAgg_size : ∀ (n : Nat) (x : ND) (ks : Fo), ks.size < n → HaS x ks
  | 0, _, _, h => by omega
  | n + 1, x, ks, h => hasAgg_of x ks fun i hi => hasAgg_size n _ _ (by have := ks.kids_lt i hi; omega)
theorem hasAgg_any (x : ND) (ks : Fo) : HaS x ks := hasAgg_size _ x ks (Nat.lt_succ_self _)
/-- This part makes a query's rows groups. -/
def grpP (x : ND) (ks : Fo) : Bool := x.k == 9 || ((x.k == 5 || x.k == 10) && hasN x ks 17)
/-- One of these parts does. -/
def grpF : Fo → Bool
  | .nil => false
  | .cons x ks r => grpP x ks || grpF r
theorem grpF_true : ∀ {f : Fo} (i : Nat), i < f.len → grpP (f.node i) (f.kids i) = true → grpF f = true
  | .nil, i, hi, _ => by simp [Fo.len] at hi
  | .cons x ks r, 0, _, h => by
    unfold grpF
    have : grpP x ks = true := h
    rw [this]; rfl
  | .cons x ks r, i + 1, hi, h => by
    have := grpF_true (f := r) i (by simp only [Fo.len] at hi; omega) h
    unfold grpF
    rw [this, Bool.or_true]
theorem grpF_false : ∀ {f : Fo}, (∀ i, i < f.len → grpP (f.node i) (f.kids i) = false) → grpF f = false
  | .nil, _ => rfl
  | .cons x ks r, h => by
    have h0 : grpP x ks = false := h 0 (by simp [Fo.len])
    have hr := grpF_false (f := r) fun i hi => h (i + 1) (by simp only [Fo.len]; omega)
    unfold grpF
    rw [hr, h0]; rfl
set_option maxRecDepth 100000 in
set_option maxHeartbeats 2000000 in
theorem l11Grouped_any (x : ND) (ks : Fo) (ka : Option Addr) (kc : Nat) (w : World) (hrow : RowT 0 w ka 0 ks) (hlen : ks.len ≤ maxLen) :
    Calls Try.prog 25 #[ValT x (.slice ka ks.len kc)] w fun e w' => e = .returned (.bool (grpF ks)) ∧ Below w.heap.size w w' := by
  have HR : Hid (RowT 0 w ka 0 ks) := hrow
  clear hrow
  unfold maxLen at hlen
  obtain ⟨len, hL⟩ : ∃ m, ks.len = m := ⟨_, rfl⟩
  have HL : Hid (ks.len = len) := hL
  rw [hL] at hlen ⊢
  clear hL
  obtain ⟨W1, hW1⟩ : ∃ W1, w.alloc (.cells #[.int .i64 x.k, .int .i64 x.n, .string x.nm, .string x.of, .int .i64 x.vk, .int .i64 x.vn, .string x.vt, .slice ka len kc] 41) = W1 := ⟨_, rfl⟩
  have B1 : Below w.heap.size w W1 := hW1 ▸ (Below.refl _ _).alloc (Nat.le_refl _) _
  have X1 : Hid (CellT W1 w.heap.size 0 x (.slice ka len kc)) := hW1 ▸ cellT_new x _ 41
  have S1 : w.heap.size < W1.heap.size := by rw [← hW1]; simp
  obtain ⟨y0, y1, y2, y3, y4, y5, y6, y7⟩ := X1.out
  go_enter Try.func25, Try.ntmps25
  go_wp2
  go_loopw [3, 4] (fun i _ wr => ∃ k : Nat, k ≤ len ∧ i = .int .i64 k ∧ Hid (∀ i, i < k → grpP (ks.node i) (ks.kids i) = false) ∧ Below W1.heap.size W1 wr) (fun i _ _ => len - (intOf i).toNat)
  case atStart => exact ⟨0, by omega, rfl, fun i hi => by omega, Below.refl _ _⟩
  case round =>
    obtain ⟨k, hk, rfl, HS, hbl⟩ := hrel
    clear y0 y1 y2 y3 y4 y5 y6 y7
    obtain ⟨y0, y1, y2, y3, y4, y5, y6, y7⟩ := X1.out.same (hbl.block _ S1)
    have hB := B1.trans (hbl.mono B1.size)
    by_cases hlt : k < len
    · have hkf : k < ks.len := by rw [HL.out]; exact hlt
      obtain ⟨b, off, ka', kc', rfl, _, hlb, ⟨c0, c1, c2, c3, c4, c5, c6, c7⟩, ⟨_, hkl, htx⟩, hkr⟩ := (HR.out.below hB).at k hkf
      have hc := hasAgg_any (ks.node k) (ks.kids k) ka' kc' wr hkr hkl
      have HS1 : Hid (grpP (ks.node k) (ks.kids k) = false → ∀ i, i < k + 1 → grpP (ks.node i) (ks.kids i) = false) := fun hx i hi => by
          by_cases e : i = k
          · rw [e]; exact hx
          · exact HS.out i (by omega)
      have HT1 : Hid (grpP (ks.node k) (ks.kids k) = true → grpF ks = true) := fun hx => grpF_true k hkf hx
      clear HS
      obtain ⟨q, hq⟩ : ∃ q, (ks.node k).k = q := ⟨_, rfl⟩
      have hc' : Calls Try.prog 42 #[.agg #[.int .i64 q, .int .i64 (ks.node k).n, .string (ks.node k).nm, .string (ks.node k).of, .int .i64 (ks.node k).vk, .int .i64 (ks.node k).vn, .string (ks.node k).vt, .slice ka' (ks.kids k).len kc']] wr fun e w' => e = .returned (.bool (hasN (ks.node k) (ks.kids k) 17)) ∧ Below wr.heap.size wr w' := by rw [← hq]; exact hc
      clear hc
      rw [hq] at c0
      have HG : Hid (grpP (ks.node k) (ks.kids k) = (q == 9 || ((q == 5 || q == 10) && hasN (ks.node k) (ks.kids k) 17))) := by show _ = _; rw [← hq]; rfl
      clear hq
      by_cases q9 : q = 9
      · subst q9
        go_wp2
        go_ret
        exact ⟨ret_bool' (HT1.out (by rw [HG.out]; rfl)).symm, hB⟩
      by_cases q5 : q = 5 ∨ q = 10
      · have HG2 : Hid (grpP (ks.node k) (ks.kids k) = hasN (ks.node k) (ks.kids k) 17) := by
          show _ = _
          rw [HG.out]
          rcases q5 with rfl | rfl <;> simp
        clear HG
        generalize hasN (ks.node k) (ks.kids k) 17 = ans at *
        rcases q5 with rfl | rfl
        all_goals
          go_wp2_with fail
          refine hc'.mono ?_
          rintro e w2 ⟨rfl, b2⟩
          have hB2 := below_step hB (Nat.le_refl _) b2
          have hbl2 := below_step hbl (Nat.le_refl _) b2
          clear hc' c0 c1 c2 c3 c4 c5 c6 c7 y0 y1 y2 y3 y4 y5 y6 y7 b2 hB hlb hbl hkr htx hkl
          cases ans with
          | true =>
            have HT : Hid (grpF ks = true) := HT1.out HG2.out
            clear HT1 HS1 HG2
            go_wp2
            go_ret
            exact ⟨ret_bool' HT.out.symm, hB2⟩
          | false =>
            have HT : Hid (∀ i, i < k + 1 → grpP (ks.node i) (ks.kids i) = false) := HS1.out HG2.out
            clear HT1 HS1 HG2
            go_wp2
            go_roundw
            case rel => exact ⟨k + 1, by omega, by go_num, HT, hbl2⟩
            case measure => simp [intOf]; omega
      · have HT : Hid (∀ i, i < k + 1 → grpP (ks.node i) (ks.kids i) = false) := HS1.out (by
          rw [HG.out]
          have h1 : (q == 9) = false := beq_eq_false_iff_ne.2 q9
          have h2 : (q == 5) = false := beq_eq_false_iff_ne.2 fun e => q5 (.inl e)
          have h3 : (q == 10) = false := beq_eq_false_iff_ne.2 fun e => q5 (.inr e)
          rw [h1, h2, h3]; rfl)
        have q5a : ¬ q = 5 := fun e => q5 (.inl e)
        have q5b : ¬ q = 10 := fun e => q5 (.inr e)
        clear HT1 HS1 HG q5 hc'
        go_wp2
        go_roundw
        case rel => exact ⟨k + 1, by omega, by go_num, HT, hbl⟩
        case measure => simp [intOf]; omega
    · obtain rfl : k = len := by omega
      have HE : Hid (grpF ks = false) := grpF_false (by rw [HL.out]; exact HS.out)
      go_wp2
      go_ret
      exact ⟨ret_bool' HE.out.symm, hB⟩
end Go.Proofs.Ytjidinpebpkfaaa
