/- Which parts of a statement are right, and impl's partOK and allPartsRight (stage 11). -/
import Derived.Test.YteejkmcljokloaaGreatDoorSqC
import Derived.Test.YteejkmcljokloaaGreatDoorSqF
namespace Go.Proofs.YteejkmcljokloaaGreatDoor
open Go.RowKit

/-- A part of a statement is right. -/
def partB (x : ND) (ks : Fo) : Bool :=
  fieldB x && (if x.k = 6 ∨ x.k = 11 then ks.len == 0 else if x.k = 5 ∨ x.k = 10 then ks.len == 1 && allE ks true else if x.k = 7 ∨ x.k = 8 ∨ x.k = 12 then ks.len == 1 && allE ks false
    else if x.k = 9 then (kindsF ks).all (· == 14) && decide (0 < ks.len) && allE ks false else false)
theorem el_cellsI {w : World} {a : Option Addr} {f : Fo} {i n : Nat} (h : RowT 0 w a 0 f) (hn : f.len = n) (hi : i < n) : ∃ b off ka kc, a = some ⟨b, off, none⟩ ∧ b < w.heap.size ∧ CellT w b (off + i * 8) (f.node i) (.slice ka (f.kids i).len kc) ∧ RowT 0 w ka 0 (f.kids i) ∧ TextsN maxLen (f.node i) ∧ (f.kids i).len ≤ maxLen := by
  obtain ⟨b, off, ka, kc, e, _, hb, hc, ⟨_, hl, ht⟩, hr⟩ := h.at i (by omega)
  exact ⟨b, off, ka, kc, e, hb, hc, hr, ht, hl⟩

set_option maxRecDepth 100000 in
set_option maxHeartbeats 4000000 in
theorem partOK_any (x : ND) (ks : Fo) (hk : 5 ≤ x.k ∧ x.k ≤ 12) (ka : Option Addr) (kc : Nat) (w : World) (hrow : RowT 0 w ka 0 ks) (hlen : ks.len ≤ 1048576) (ht : TextsN maxLen x) :
    Calls Tryz.prog 103 #[ValT x (.slice ka ks.len kc)] w fun e w' => e = .returned (.bool (partB x ks)) ∧ Below w.heap.size w w' := by
  have B0 : Below w.heap.size w (w.alloc (.cells #[.int .i64 x.k, .int .i64 x.n, .string x.nm, .string x.of, .int .i64 x.vk, .int .i64 x.vn, .string x.vt, .slice ka ks.len kc] 38)) := (Below.refl _ _).alloc (Nat.le_refl _) _
  have X0 : Hid (BoxN w.heap.size x (.slice ka ks.len kc) (w.alloc (.cells #[.int .i64 x.k, .int .i64 x.n, .string x.nm, .string x.of, .int .i64 x.vk, .int .i64 x.vn, .string x.vt, .slice ka ks.len kc] 38))) := BoxN.new 38
  have HF := fieldsOK_any x (.slice ka ks.len kc) (w.alloc (.cells #[.int .i64 x.k, .int .i64 x.n, .string x.nm, .string x.of, .int .i64 x.vk, .int .i64 x.vn, .string x.vt, .slice ka ks.len kc] 38)) ht
  have HR : Hid (RowT 0 w ka 0 ks ∧ ks.len ≤ 1048576) := ⟨hrow, hlen⟩
  have HE : Hid (partB x ks = (fieldB x && (if x.k = 6 ∨ x.k = 11 then ks.len == 0 else if x.k = 5 ∨ x.k = 10 then ks.len == 1 && allE ks true else if x.k = 7 ∨ x.k = 8 ∨ x.k = 12 then ks.len == 1 && allE ks false else if x.k = 9 then (kindsF ks).all (· == 14) && decide (0 < ks.len) && allE ks false else false))) := rfl
  have HK : Hid (5 ≤ x.k ∧ x.k ≤ 12) := hk
  clear hrow ht hk
  go_enter Tryz.func103, Tryz.ntmps103
  go_wp2_with fail
  refine HF.mono ?_
  rintro e w1 ⟨rfl, b1⟩
  have B1 := B0.trans (b1.mono B0.size)
  have X1 := X0.out.below b1
  clear B0 X0 b1 HF
  cases hf : fieldB x with
  | false =>
    have HN : Hid (partB x ks = false) := by show _ = _; rw [HE.out, hf]; rfl
    clear hf X1
    go_wp2
    go_ret
    exact ⟨ret_bool' HN.out.symm, B1⟩
  | true =>
    have HN : Hid (partB x ks = if x.k = 6 ∨ x.k = 11 then ks.len == 0 else if x.k = 5 ∨ x.k = 10 then ks.len == 1 && allE ks true else if x.k = 7 ∨ x.k = 8 ∨ x.k = 12 then ks.len == 1 && allE ks false else if x.k = 9 then (kindsF ks).all (· == 14) && decide (0 < ks.len) && allE ks false else false) := by
      show _ = _
      rw [HE.out, hf, Bool.true_and]
    have HB : Hid (∀ w2, Below w1.heap.size w1 w2 → Below w.heap.size w w2) := fun w2 b => below_step B1 (Nat.le_refl _) b
    have XH : Hid (BoxN w.heap.size x (.slice ka ks.len kc) w1) := X1
    clear hf HE
    obtain ⟨⟨y0, y1, y2, y3, y4, y5, y6, y7⟩, _⟩ := X1
    obtain ⟨k, n, nm, of, vk, vn, vt⟩ := x
    simp only at y0 y1 y2 y3 y4 y5 y6 HN HK
    obtain ⟨len, hL⟩ : ∃ m, ks.len = m := ⟨_, rfl⟩
    have HL : Hid (ks.len = len) := hL
    rw [hL] at y7 hlen HN XH ⊢
    by_cases h6 : k = 6 ∨ k = 11
    · have HQ : Hid (partB ⟨k, n, nm, of, vk, vn, vt⟩ ks = (len == 0)) := by show _ = _; rw [HN.out, if_pos h6]
      clear HN hL HK
      by_cases h0 : len = 0
      · subst h0
        rcases h6 with rfl | rfl <;> go_wp2 <;> go_ret <;> exact ⟨ret_bool' (by rw [HQ.out]; rfl), B1⟩
      · have h0' : ¬ ((len : Int) = 0) := by omega
        have HZ : Hid ((len == 0) = false) := by show _ = _; simpa using h0
        rcases h6 with rfl | rfl <;> go_wp2 <;> go_ret <;> exact ⟨ret_bool' (by rw [HQ.out, HZ.out]; simpa using h0), B1⟩
    have h6a : ¬ k = 6 := fun h => h6 (.inl h)
    have h6b : ¬ k = 11 := fun h => h6 (.inr h)
    by_cases h9 : k = 9
    · subst h9
      have HQ : Hid (partB ⟨9, n, nm, of, vk, vn, vt⟩ ks = ((kindsF ks).all (· == 14) && decide (0 < len) && allE ks false)) := by show _ = _; rw [HN.out, if_neg h6, if_neg (by decide), if_neg (by decide), if_pos rfl]
      have b2 : Below w1.heap.size w1 (w1.alloc (.cells #[.int .i64 14] 3)) := (Below.refl _ _).alloc (Nat.le_refl _) _
      have hcl : Calls Tryz.prog 76 #[.slice ka len kc, .slice (some ⟨w1.heap.size, 0, none⟩) 1 1] (w1.alloc (.cells #[.int .i64 14] 3)) (RetC (w1.alloc (.cells #[.int .i64 14] 3)) ks [14]) := by
        rw [← hL]
        exact countParts_any ks ka kc [14] (some ⟨w1.heap.size, 0, none⟩) 1 _ ((HR.out.1.below B1).below b2) HR.out.2 (fun j hj => by
          obtain rfl : j = 0 := (by simp at hj; omega)
          exact ⟨w1.heap.size, 0, rfl, by simp, slab_cell (heap_new' _ _ _ rfl)⟩) (by decide)
      have HB2 : Hid (Below w1.heap.size w1 (w1.alloc (.cells #[.int .i64 14] 3))) := b2
      clear HN hL HK h6 b2 h6a h6b
      go_wp2_with fail
      refine hcl.mono ?_
      rintro e w3 ⟨g, c, i, rfl, hg, hC, hi, hJ, b3⟩
      have b13 : Below w1.heap.size w1 w3 := HB2.out.trans (b3.mono HB2.out.size)
      have B3 := HB.out w3 b13
      obtain ⟨⟨_, _, _, _, _, _, _, z7⟩, _⟩ := XH.out.below b13
      have m0 := hC.cell (j := 0) (by decide)
      have hrn : rn [14] (kindsF ks) = if i = (kindsF ks).length then some [c 0] else none := hJ.last (by rw [kindsF_len]; exact hi)
      rw [rn_one, kindsF_len, HL.out] at hrn
      rw [HL.out] at hi
      have hal : Calls Tryz.prog 75 #[.slice ka len kc, .bool false] w3 fun e w' => e = .returned (.bool (allE ks false)) ∧ Below w3.heap.size w3 w' := by
        rw [← HL.out]
        exact allRight_any ks ka kc false w3 (HR.out.1.below B3) (by have := HR.out.2; unfold maxLen; omega)
      rw [HL.out]
      clear hC hJ b3 hcl b13 y0 y1 y2 y3 y4 y5 y6 y7
      cases hall : (kindsF ks).all (· == 14) with
      | false =>
        have hil : ¬ ((i : Int) = (len : Int)) := by
          intro e
          rw [hall, if_neg (by simp), if_pos (by omega)] at hrn
          cases hrn
        have HF : Hid (partB ⟨9, n, nm, of, vk, vn, vt⟩ ks = false) := by show _ = _; rw [HQ.out, hall]; rfl
        clear hall hrn hal
        go_wp2
        go_ret
        exact ⟨ret_bool' HF.out.symm, B3⟩
      | true =>
        have hil : i = len := by
          by_cases e : i = len
          · exact e
          · rw [hall, if_pos rfl, if_neg e] at hrn
            cases hrn
        rw [hall, if_pos rfl, if_pos hil] at hrn
        have hc0 : c 0 = len := by simpa using hrn.symm
        rw [hc0] at m0
        subst hil
        have HF : Hid (partB ⟨9, n, nm, of, vk, vn, vt⟩ ks = (decide (0 < i) && allE ks false)) := by show _ = _; rw [HQ.out, hall]; rfl
        clear hall hrn hc0
        by_cases hz : 0 < i
        · have hzI : (0 : Int) < (i : Int) := by omega
          have HF2 : Hid (partB ⟨9, n, nm, of, vk, vn, vt⟩ ks = allE ks false) := by show _ = _; rw [HF.out, decide_eq_true hz]; rfl
          go_wp2_with fail
          refine hal.mono ?_
          rintro e w4 ⟨rfl, b4⟩
          have B4 := below_step B3 (Nat.le_refl _) b4
          clear hal b4 m0 z7
          go_wp2
          go_ret
          exact ⟨ret_bool' HF2.out.symm, B4⟩
        · have hzI : ¬ (0 : Int) < (i : Int) := by omega
          have HF2 : Hid (partB ⟨9, n, nm, of, vk, vn, vt⟩ ks = false) := by show _ = _; rw [HF.out, decide_eq_false hz]; rfl
          clear hal
          go_wp2
          go_ret
          exact ⟨ret_bool' HF2.out.symm, B3⟩
    by_cases h1 : len = 1
    · subst h1
      obtain ⟨b, off, ca, cc, rfl, hlb, hc, hkr, htx, hkl⟩ := el_cellsI (HR.out.1.below B1) HL.out (i := 0) (by omega)
      have HC : Hid (∀ g, Calls Tryz.prog 102 #[ValT (ks.node 0) (.slice ca (ks.kids 0).len cc), .bool g] w1 fun e w' => e = .returned (.bool (exprB (ks.node 0) (ks.kids 0) g)) ∧ Below w1.heap.size w1 w') := fun g => exI_any _ _ ca cc g w1 hkr hkl htx
      have HO : Hid (∀ g, allE ks g = exprB (ks.node 0) (ks.kids 0) g) := fun g => allE_one HL.out
      rw [Nat.zero_mul, Nat.add_zero] at hc
      obtain ⟨c0, c1, c2, c3, c4, c5, c6, c7⟩ := hc
      clear hkr htx hkl
      by_cases h5 : k = 5 ∨ k = 10
      · have HQ : Hid (partB ⟨k, n, nm, of, vk, vn, vt⟩ ks = exprB (ks.node 0) (ks.kids 0) true) := by show _ = _; rw [HN.out, if_neg h6, if_pos h5, HO.out]; rfl
        clear HN hL HK h6
        rcases h5 with rfl | rfl
        all_goals
          go_wp2_with fail
          refine (HC.out true).mono ?_
          rintro e w2 ⟨rfl, b2⟩
          have B2 := HB.out w2 b2
          clear b2 HC c0 c1 c2 c3 c4 c5 c6 c7 y0 y1 y2 y3 y4 y5 y6 y7
          go_wp2
          go_ret
          exact ⟨ret_bool' HQ.out.symm, B2⟩
      have h5a : ¬ k = 5 := fun h => h5 (.inl h)
      have h5b : ¬ k = 10 := fun h => h5 (.inr h)
      by_cases h7 : k = 7 ∨ k = 8 ∨ k = 12
      · have HQ : Hid (partB ⟨k, n, nm, of, vk, vn, vt⟩ ks = exprB (ks.node 0) (ks.kids 0) false) := by show _ = _; rw [HN.out, if_neg h6, if_neg h5, if_pos h7, HO.out]; rfl
        clear HN hL HK h6 h5
        rcases h7 with rfl | rfl | rfl
        all_goals
          go_wp2_with fail
          refine (HC.out false).mono ?_
          rintro e w2 ⟨rfl, b2⟩
          have B2 := HB.out w2 b2
          clear b2 HC c0 c1 c2 c3 c4 c5 c6 c7 y0 y1 y2 y3 y4 y5 y6 y7
          go_wp2
          go_ret
          exact ⟨ret_bool' HQ.out.symm, B2⟩
      exact absurd (by have := HK.out; omega) h9
    have h1' : ¬ ((len : Int) = 1) := by omega
    have HZ : Hid ((len == 1) = false) := by show _ = _; simpa using h1
    by_cases h5 : k = 5 ∨ k = 10
    · have HQ : Hid (partB ⟨k, n, nm, of, vk, vn, vt⟩ ks = false) := by show _ = _; rw [HN.out, if_neg h6, if_pos h5, HZ.out]; rfl
      clear HN hL HK h6
      rcases h5 with rfl | rfl <;> go_wp2 <;> go_ret <;> exact ⟨ret_bool' HQ.out.symm, B1⟩
    by_cases h7 : k = 7 ∨ k = 8 ∨ k = 12
    · have HQ : Hid (partB ⟨k, n, nm, of, vk, vn, vt⟩ ks = false) := by show _ = _; rw [HN.out, if_neg h6, if_neg h5, if_pos h7, HZ.out]; rfl
      clear HN hL HK h6 h5
      rcases h7 with rfl | rfl | rfl <;> go_wp2 <;> go_ret <;> exact ⟨ret_bool' HQ.out.symm, B1⟩
    exact absurd (by have := HK.out; omega) h9
/-- All of these are right parts. -/
def allP : Fo → Bool
  | .nil => true
  | .cons x ks r => partB x ks && allP r
theorem allP_true : ∀ {f : Fo}, (∀ i, i < f.len → partB (f.node i) (f.kids i) = true) → allP f = true
  | .nil, _ => rfl
  | .cons x ks r, h => by
    have h0 : partB x ks = true := h 0 (by simp [Fo.len])
    have hr := allP_true (f := r) fun i hi => h (i + 1) (by simp only [Fo.len]; omega)
    unfold allP
    rw [hr, h0]
    rfl
theorem allP_false : ∀ {f : Fo} (i : Nat), i < f.len → partB (f.node i) (f.kids i) = false → allP f = false
  | .nil, i, hi, _ => by simp [Fo.len] at hi
  | .cons x ks r, 0, _, h => by
    unfold allP
    have : partB x ks = false := h
    rw [this]; rfl
  | .cons x ks r, i + 1, hi, h => by
    have := allP_false (f := r) i (by simp only [Fo.len] at hi; omega) h
    unfold allP
    rw [this, Bool.and_false]
set_option maxRecDepth 100000 in
set_option maxHeartbeats 2000000 in
theorem allParts_any (f : Fo) (hk : ∀ i, i < f.len → 5 ≤ (f.node i).k ∧ (f.node i).k ≤ 12) (a : Option Addr) (cap : Nat) (w : World) (hrow : RowT 0 w a 0 f) (hsz : f.size ≤ 1048576) :
    Calls Tryz.prog 77 #[.slice a f.len cap] w fun e w' => e = .returned (.bool (allP f)) ∧ Below w.heap.size w w' := by
  have HR : Hid (RowT 0 w a 0 f) := hrow
  have IH : Hid (∀ i, i < f.len → (5 ≤ (f.node i).k ∧ (f.node i).k ≤ 12) ∧ (f.kids i).len ≤ 1048576) := fun i hi => ⟨hk i hi, by have := f.kids_lt i hi; have := (f.kids i).len_le; omega⟩
  have hlen : f.len ≤ 1048576 := by have := f.len_le; omega
  clear hrow hk hsz
  obtain ⟨len, hL⟩ : ∃ m, f.len = m := ⟨_, rfl⟩
  have HL : Hid (f.len = len) := hL
  rw [hL] at hlen ⊢
  clear hL
  go_enter Tryz.func77, Tryz.ntmps77
  go_wp2
  go_loopw [7] (fun i wr => ∃ k : Nat, k ≤ len ∧ i = .int .i64 k ∧ Hid (∀ i, i < k → partB (f.node i) (f.kids i) = true) ∧ Below w.heap.size w wr) (fun i _ => len - (intOf i).toNat)
  case atStart => exact ⟨0, by omega, rfl, fun i hi => by omega, Below.refl _ _⟩
  case round =>
    obtain ⟨k, hk, rfl, HS, hbl⟩ := hrel
    by_cases hlt : k < len
    · have hkf : k < f.len := by rw [HL.out]; exact hlt
      obtain ⟨b, off, ka, kc, rfl, _, hlb, ⟨c0, c1, c2, c3, c4, c5, c6, c7⟩, ⟨_, hkl, htx⟩, hkr⟩ := (HR.out.below hbl).at k hkf
      obtain ⟨W1, hW1⟩ : ∃ W1, wr.alloc (.cells #[.int .i64 (f.node k).k, .int .i64 (f.node k).n, .string (f.node k).nm, .string (f.node k).of, .int .i64 (f.node k).vk, .int .i64 (f.node k).vn, .string (f.node k).vt, .slice ka (f.kids k).len kc] 38) = W1 := ⟨_, rfl⟩
      have b1 : Below wr.heap.size wr W1 := hW1 ▸ (Below.refl _ _).alloc (Nat.le_refl _) _
      have X1 : BoxN wr.heap.size (f.node k) (.slice ka (f.kids k).len kc) W1 := hW1 ▸ BoxN.new 38
      obtain ⟨⟨y0, y1, y2, y3, y4, y5, y6, y7⟩, _⟩ := X1
      have hB1 := below_step hbl (Nat.le_refl _) b1
      have hc := partOK_any (f.node k) (f.kids k) (IH.out k hkf).1 ka kc W1 (hkr.below b1) (IH.out k hkf).2 htx
      have HS' : Hid (partB (f.node k) (f.kids k) = true → ∀ i, i < k + 1 → partB (f.node i) (f.kids i) = true) := fun h i hi => by
        by_cases e : i = k
        · rw [e]; exact h
        · exact HS.out i (by omega)
      have HF : Hid (partB (f.node k) (f.kids k) = false → allP f = false) := fun h => allP_false k hkf h
      clear hkr hkl htx b1 HS hkf
      go_wp2_with fail
      refine hc.mono ?_
      rintro e w2 ⟨rfl, b2⟩
      have hB2 := below_step hB1 (Nat.le_refl _) b2
      clear hc c0 c1 c2 c3 c4 c5 c6 c7 y0 y1 y2 y3 y4 y5 y6 y7 b2 hB1 hlb hW1
      cases hx : partB (f.node k) (f.kids k) with
      | false =>
        have HE : Hid (allP f = false) := HF.out hx
        clear hx HF HS'
        go_wp2
        go_ret
        exact ⟨ret_bool' HE.out.symm, hB2⟩
      | true =>
        have HN : Hid (∀ i, i < k + 1 → partB (f.node i) (f.kids i) = true) := HS'.out hx
        clear hx HF HS'
        go_wp2
        go_roundw
        case rel => exact ⟨k + 1, by omega, by go_num, HN, hB2⟩
        case measure => simp [intOf]; omega
    · obtain rfl : k = len := by omega
      have HE : Hid (allP f = true) := allP_true (by rw [HL.out]; exact HS.out)
      go_wp2
      go_ret
      exact ⟨ret_bool' HE.out.symm, hbl⟩
end Go.Proofs.YteejkmcljokloaaGreatDoor
