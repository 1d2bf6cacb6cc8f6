/- A node of a kind within a tree: impl's hasNode (stage 11). -/
import Derived.Test.YtjidinpebpkfaaaTrA
namespace Go.Proofs.Ytjidinpebpkfaaa
open Go.RowKit

/-- A node of kind k stands in one of these trees. -/
def hasK : Fo → Int → Bool
  | .nil, _ => false
  | .cons x ks r, k => (x.k == k || hasK ks k) || hasK r k
/-- A node of kind k stands in this tree. -/
def hasN (x : ND) (ks : Fo) (k : Int) : Bool := x.k == k || hasK ks k
theorem hasK_true : ∀ {f : Fo} {k : Int} (i : Nat), i < f.len → hasN (f.node i) (f.kids i) k = true → hasK f k = true
  | .nil, _, i, hi, _ => by simp [Fo.len] at hi
  | .cons x ks r, k, 0, _, h => by
    unfold hasK
    have : (x.k == k || hasK ks k) = true := h
    rw [this]; rfl
  | .cons x ks r, k, i + 1, hi, h => by
    have := hasK_true (f := r) (k := k) i (by simp only [Fo.len] at hi; omega) h
    unfold hasK
    rw [this, Bool.or_true]
theorem hasK_false : ∀ {f : Fo} {k : Int}, (∀ i, i < f.len → hasN (f.node i) (f.kids i) k = false) → hasK f k = false
  | .nil, _, _ => rfl
  | .cons x ks r, k, h => by
    have h0 : (x.k == k || hasK ks k) = false := h 0 (by simp [Fo.len])
    have hr := hasK_false (f := r) (k := k) fun i hi => h (i + 1) (by simp only [Fo.len]; omega)
    unfold hasK
    rw [hr, h0]; rfl

/-- What impl's hasNode answers of this tree. -/
def HnI (x : ND) (ks : Fo) : Prop := ∀ (ka : Option Addr) (kc : Nat) (k : Int) (w : World), RowT 0 w ka 0 ks → ks.len ≤ maxLen →
    Calls Try.prog 49 #[ValT x (.slice ka ks.len kc), .int .i64 k] w fun e w' => e = .returned (.bool (hasN x ks k)) ∧ Below w.heap.size w w'
set_option maxRecDepth 100000 in
set_option maxHeartbeats 2000000 in
theorem hasFit (x : ND) (ks : Fo) (ih : HnI x ks) (ka : Option Addr) (kc : Nat) (k : Int) (kb : Nat) (w : World) (hrow : RowT 0 w ka 0 ks) (hlen : ks.len ≤ maxLen) (hkl : kb < w.heap.size) (hkb : w.cell? ⟨kb, 0, none⟩ = some (.int .i64 k)) :
    Calls Try.prog 67 #[ValT x (.slice ka ks.len kc), .pointer (some ⟨kb, 0, none⟩)] w fun e w' => e = .returned (.bool (hasN x ks k)) ∧ Below w.heap.size w w' := by
  have B0 : Below w.heap.size w (w.alloc (.cells #[.int .i64 x.k, .int .i64 x.n, .string x.nm, .string x.of, .int .i64 x.vk, .int .i64 x.vn, .string x.vt, .slice ka ks.len kc] 41)) := (Below.refl _ _).alloc (Nat.le_refl _) _
  have hc := ih ka kc k _ (hrow.below B0) hlen
  clear hrow ih hlen
  go_enter Try.func67, Try.ntmps67
  go_wp2_with fail
  refine hc.mono ?_
  rintro e w1 ⟨rfl, b1⟩
  have B1 := B0.trans (b1.mono B0.size)
  clear B0 b1 hc
  go_wp2
  go_ret
  exact ⟨rfl, B1⟩

set_option maxRecDepth 100000 in
set_option maxHeartbeats 2000000 in
theorem indexFunc_of (f : Fo) (ih : ∀ i, i < f.len → HnI (f.node i) (f.kids i)) (a : Option Addr) (cap : Nat) (k : Int) (kb : Nat) (w : World) (hrow : RowT 0 w a 0 f) (hlen : f.len ≤ maxLen) (hkl : kb < w.heap.size) (hkb : w.cell? ⟨kb, 0, none⟩ = some (.int .i64 k)) :
    Calls Try.prog 71 #[.slice a f.len cap, .func (.func 67) #[] #[.pointer (some ⟨kb, 0, none⟩)]] w fun e w' => (∃ z : Int, e = .returned (.int .i64 z) ∧ decide (z ≥ 0) = hasK f k) ∧ Below w.heap.size w w' := by
  have HR : Hid (RowT 0 w a 0 f) := hrow
  have IH : Hid (∀ i, i < f.len → HnI (f.node i) (f.kids i)) := ih
  clear hrow ih
  unfold maxLen at hlen
  obtain ⟨len, hL⟩ : ∃ m, f.len = m := ⟨_, rfl⟩
  have HL : Hid (f.len = len) := hL
  rw [hL] at hlen ⊢
  clear hL
  go_enter Try.func71, Try.ntmps71
  go_wp2
  go_loopw [8] (fun i wr => ∃ k' : Nat, k' ≤ len ∧ i = .int .i64 k' ∧ Hid (∀ i, i < k' → hasN (f.node i) (f.kids i) k = false) ∧ Below w.heap.size w wr) (fun i _ => len - (intOf i).toNat)
  case atStart => exact ⟨0, by omega, rfl, fun i hi => by omega, Below.refl _ _⟩
  case round =>
    obtain ⟨j, hj, rfl, HS, hbl⟩ := hrel
    by_cases hjl : j < len
    · obtain ⟨b, off, ka, kc, rfl, _, hb, ⟨c0, c1, c2, c3, c4, c5, c6, c7⟩, ⟨_, hl1, ht1⟩, hr1⟩ := (HR.out.below hbl).at j (by rw [HL.out]; exact hjl)
      go_wp2_with fail
      refine (hasFit _ _ (IH.out j (by rw [HL.out]; exact hjl)) ka kc k kb wr hr1 hl1 (Nat.lt_of_lt_of_le hkl hbl.size) ((hbl.cell (p := ⟨kb, 0, none⟩) hkl).trans hkb)).mono ?_
      rintro e w1 ⟨rfl, b1⟩
      have B1 := below_step hbl (Nat.le_refl _) b1
      clear b1 hbl hr1 c0 c1 c2 c3 c4 c5 c6 c7
      cases hn : hasN (f.node j) (f.kids j) k with
      | true =>
        have HT : Hid (hasK f k = true) := hasK_true j (by rw [HL.out]; exact hjl) hn
        clear hn HS
        go_wp2
        go_ret
        exact ⟨⟨_, rfl, by rw [HT.out]; exact decide_eq_true (by omega)⟩, B1⟩
      | false =>
        have HS' : Hid (∀ i, i < j + 1 → hasN (f.node i) (f.kids i) k = false) := fun i hi => by
          rcases Nat.lt_or_ge i j with h | h
          · exact HS.out i h
          · obtain rfl : i = j := by omega
            exact hn
        clear hn HS
        go_wp2
        go_roundw
        case rel => exact ⟨j + 1, by omega, by go_num, HS', B1⟩
        case measure => simp [intOf]; omega
    · obtain rfl : j = len := by omega
      have HF : Hid (hasK f k = false) := hasK_false fun i hi => HS.out i (by rw [HL.out] at hi; exact hi)
      clear HS
      go_wp2
      go_ret
      exact ⟨⟨_, rfl, by rw [HF.out]; rfl⟩, hbl⟩
set_option maxRecDepth 100000 in
set_option maxHeartbeats 2000000 in
theorem containsFunc_of (f : Fo) (ih : ∀ i, i < f.len → HnI (f.node i) (f.kids i)) (a : Option Addr) (cap : Nat) (k : Int) (kb : Nat) (w : World) (hrow : RowT 0 w a 0 f) (hlen : f.len ≤ maxLen) (hkl : kb < w.heap.size) (hkb : w.cell? ⟨kb, 0, none⟩ = some (.int .i64 k)) :
    Calls Try.prog 66 #[.slice a f.len cap, .func (.func 67) #[] #[.pointer (some ⟨kb, 0, none⟩)]] w fun e w' => e = .returned (.bool (hasK f k)) ∧ Below w.heap.size w w' := by
  have hc := indexFunc_of f ih a cap k kb w hrow hlen hkl hkb
  clear ih hrow hkb
  go_enter Try.func66, Try.ntmps66
  go_wp2_with fail
  refine hc.mono ?_
  rintro e w1 ⟨⟨z, rfl, hz⟩, b1⟩
  have HZ : Hid (decide (z ≥ 0) = hasK f k) := hz
  clear hz hc
  go_wp2
  go_ret
  exact ⟨ret_bool' HZ.out, b1⟩

set_option maxRecDepth 100000 in
set_option maxHeartbeats 2000000 in
theorem hasNode_of (x : ND) (ks : Fo) (ih : ∀ i, i < ks.len → HnI (ks.node i) (ks.kids i)) : HnI x ks := by
  intro ka kc k w hrow hlen
  have B1 : Below w.heap.size w (w.alloc (.cells #[.int .i64 x.k, .int .i64 x.n, .string x.nm, .string x.of, .int .i64 x.vk, .int .i64 x.vn, .string x.vt, .slice ka ks.len kc] 41)) := (Below.refl _ _).alloc (Nat.le_refl _) _
  have B2 : Below w.heap.size w ((w.alloc (.cells #[.int .i64 x.k, .int .i64 x.n, .string x.nm, .string x.of, .int .i64 x.vk, .int .i64 x.vn, .string x.vt, .slice ka ks.len kc] 41)).alloc (.cells #[.int .i64 k] 3)) := B1.alloc (Nat.le_of_lt (by simp)) _
  have HC := fun w1 (b : Below w.heap.size w w1) => containsFunc_of ks ih ka kc k (w.heap.size + 1) w1 (hrow.below b) hlen
  have HI : Hid (∀ w1, Below w.heap.size w w1 → w.heap.size + 1 < w1.heap.size → w1.cell? ⟨w.heap.size + 1, 0, none⟩ = some (.int .i64 k) → Calls Try.prog 66 #[.slice ka ks.len kc, .func (.func 67) #[] #[.pointer (some ⟨w.heap.size + 1, 0, none⟩)]] w1 fun e w' => e = .returned (.bool (hasK ks k)) ∧ Below w1.heap.size w1 w') := fun w1 b h1 h2 => HC w1 b h1 h2
  clear HC hrow ih
  by_cases hk : x.k = k
  · subst hk
    have HT : Hid (hasN x ks x.k = true) := by show _ = _; unfold hasN; simp
    go_enter Try.func49, Try.ntmps49
    go_wp2
    go_ret
    exact ⟨ret_bool' HT.out.symm, B2⟩
  · have HT : Hid (hasN x ks k = hasK ks k) := by show _ = _; unfold hasN; rw [beq_eq_false_iff_ne.2 hk]; simp
    go_enter Try.func49, Try.ntmps49
    go_wp2_with fail
    refine (HI.out _ B2 (by simp) (slab_cell (heap_new' _ _ _ (by simp)))).mono ?_
    rintro e w1 ⟨rfl, b1⟩
    have B3 := B2.trans (b1.mono B2.size)
    clear b1
    have hk' : (x.k == k) = false := beq_eq_false_iff_ne.2 hk
    rw [hk']
    go_wp2
    go_ret
    exact ⟨ret_bool' HT.out.symm, B3⟩
theorem hasNode_size : ∀ (n : Nat) (x : ND) (ks : Fo), ks.size < n → HnI x ks
  | 0, _, _, h => by omega
  | n + 1, x, ks, h => hasNode_of x ks fun i hi => hasNode_size n _ _ (by have := ks.kids_lt i hi; omega)
theorem hasNode_any (x : ND) (ks : Fo) : HnI x ks := hasNode_size _ x ks (Nat.lt_succ_self _)

set_option maxRecDepth 100000 in
set_option maxHeartbeats 2000000 in
theorem isGrouped_any (x : ND) (ks : Fo) (ka : Option Addr) (kc : Nat) (w : World) (hrow : RowT 0 w ka 0 ks) (hlen : ks.len ≤ maxLen) :
    Calls Try.prog 29 #[ValT x (.slice ka ks.len kc)] w fun e w' => e = .returned (.bool (hasN x ks 9 || hasN x ks 17)) ∧ Below w.heap.size w w' := by
  have B1 : Below w.heap.size w (w.alloc (.cells #[.int .i64 x.k, .int .i64 x.n, .string x.nm, .string x.of, .int .i64 x.vk, .int .i64 x.vn, .string x.vt, .slice ka ks.len kc] 41)) := (Below.refl _ _).alloc (Nat.le_refl _) _
  have X0 : CellT (w.alloc (.cells #[.int .i64 x.k, .int .i64 x.n, .string x.nm, .string x.of, .int .i64 x.vk, .int .i64 x.vn, .string x.vt, .slice ka ks.len kc] 41)) w.heap.size 0 x (.slice ka ks.len kc) := by
    refine ⟨?_, ?_, ?_, ?_, ?_, ?_, ?_, ?_⟩ <;> exact slab_cell (heap_new' _ _ _ rfl)
  have HC : Hid (∀ k w1, Below w.heap.size w w1 → Calls Try.prog 49 #[ValT x (.slice ka ks.len kc), .int .i64 k] w1 fun e w' => e = .returned (.bool (hasN x ks k)) ∧ Below w1.heap.size w1 w') := fun k w1 b => hasNode_any x ks ka kc k w1 (hrow.below b) hlen
  clear hrow
  have X1 : Hid (CellT (w.alloc (.cells #[.int .i64 x.k, .int .i64 x.n, .string x.nm, .string x.of, .int .i64 x.vk, .int .i64 x.vn, .string x.vt, .slice ka ks.len kc] 41)) w.heap.size 0 x (.slice ka ks.len kc)) := X0
  clear X0
  go_enter Try.func29, Try.ntmps29
  go_wp2_with fail
  refine (HC.out 9 _ B1).mono ?_
  rintro e w1 ⟨rfl, b1⟩
  have B2 := B1.trans (b1.mono B1.size)
  have X2 := X1.out.same (b1.block w.heap.size (by simp))
  obtain ⟨y0, y1, y2, y3, y4, y5, y6, y7⟩ := X2
  clear X1 b1 B1
  cases h9 : hasN x ks 9 with
  | true =>
    go_wp2
    go_ret
    exact ⟨ret_bool' (by rw [h9]; rfl), B2⟩
  | false =>
    go_wp2_with fail
    refine (HC.out 17 _ B2).mono ?_
    rintro e w2 ⟨rfl, b2⟩
    have B3 := B2.trans (b2.mono B2.size)
    clear b2
    go_wp2
    go_ret
    exact ⟨ret_bool' (by rw [h9]; rfl), B3⟩
end Go.Proofs.Ytjidinpebpkfaaa
