/- Which expressions are safe: impl's isSafe, spec's l14Safe (stage 14). -/
import Derived.Test.YthjibgnhpkonbaaSqC
namespace Go.Proofs.Ythjibgnhpkonbaa
open Go.RowKit

/-- This node may fail: it reckons, or is an aggregate. -/
def badN (x : ND) : Bool := x.k == 17 || (x.k == 15 && x.nm.toList == [45]) || (x.k == 16 && decide (4 < levS x.nm))
/-- All of these trees are safe. -/
def safeF : Fo → Bool
  | .nil => true
  | .cons x ks r => (!badN x && safeF ks) && safeF r
/-- The tree is safe. -/
def safeT (x : ND) (ks : Fo) : Bool := !badN x && safeF ks
theorem safeF_true : ∀ {f : Fo}, (∀ i, i < f.len → safeT (f.node i) (f.kids i) = true) → safeF f = true
  | .nil, _ => rfl
  | .cons x ks r, h => by
    have h0 : (!badN x && safeF ks) = true := h 0 (by simp [Fo.len])
    have hr := safeF_true (f := r) fun i hi => h (i + 1) (by simp only [Fo.len]; omega)
    unfold safeF
    rw [hr, h0]; rfl
theorem safeF_false : ∀ {f : Fo} (i : Nat), i < f.len → safeT (f.node i) (f.kids i) = false → safeF f = false
  | .nil, i, hi, _ => by simp [Fo.len] at hi
  | .cons x ks r, 0, _, h => by
    unfold safeF
    have : (!badN x && safeF ks) = false := h
    rw [this]; rfl
  | .cons x ks r, i + 1, hi, h => by
    have := safeF_false (f := r) i (by simp only [Fo.len] at hi; omega) h
    unfold safeF
    rw [this, Bool.and_false]
theorem badN_17 {x : ND} (h : x.k = 17) : badN x = true := by unfold badN; rw [h]; rfl
theorem badN_15 {x : ND} (h : x.k = 15) : badN x = (x.nm.toList == [45]) := by unfold badN; rw [h]; simp
theorem badN_16 {x : ND} (h : x.k = 16) : badN x = decide (4 < levS x.nm) := by unfold badN; rw [h]; simp
theorem badN_no {x : ND} (h15 : ¬ x.k = 15) (h16 : ¬ x.k = 16) (h17 : ¬ x.k = 17) : badN x = false := by
  unfold badN
  rw [beq_eq_false_iff_ne.2 h15, beq_eq_false_iff_ne.2 h16, beq_eq_false_iff_ne.2 h17]; rfl
theorem unS_ge (s : ByteArray) : decide (unS s ≥ 5) = (s.toList == [45]) := by
  unfold unS
  by_cases h1 : s.toList = [110, 111, 116]
  · simp [h1]
  by_cases h2 : s.toList = [105, 115, 110, 117, 108, 108]
  · simp [h2]
  by_cases h3 : s.toList = [105, 115, 110, 111, 116, 110, 117, 108, 108]
  · simp [h3]
  by_cases h4 : s.toList = [45]
  · simp [h4]
  · simp [h1, h2, h3, h4]
theorem levS_ge (s : ByteArray) : decide (levS s ≥ 5) = decide (4 < levS s) := decide_eq_decide.2 (by omega)

theorem cellT_new {w : World} (x : ND) (s : Value) (ty : TypeId) : CellT (w.alloc (.cells #[.int .i64 x.k, .int .i64 x.n, .string x.nm, .string x.of, .int .i64 x.vk, .int .i64 x.vn, .string x.vt, s] ty)) w.heap.size 0 x s := by
  refine ⟨?_, ?_, ?_, ?_, ?_, ?_, ?_, ?_⟩ <;> exact slab_cell (heap_new' _ _ _ rfl)

/-- The level of a sign's node, as impl has it. -/
def levN (x : ND) : Int := if x.k = 15 then unS x.nm else if x.k = 16 then levS x.nm else 7
set_option maxRecDepth 100000 in
set_option maxHeartbeats 2000000 in
theorem levelOf_any (x : ND) (s : Value) (w : World) : Calls Try.prog 35 #[ValT x s] w fun e w' => e = .returned (.int .i64 (levN x)) ∧ Below w.heap.size w w' := by
  have B1 : Below w.heap.size w (w.alloc (.cells #[.int .i64 x.k, .int .i64 x.n, .string x.nm, .string x.of, .int .i64 x.vk, .int .i64 x.vn, .string x.vt, s] 33)) := (Below.refl _ _).alloc (Nat.le_refl _) _
  obtain ⟨k, n, nm, of, vk, vn, vt⟩ := x
  by_cases h5 : k = 15
  · subst h5
    have HZ : Hid (levN ⟨15, n, nm, of, vk, vn, vt⟩ = unS nm) := if_pos rfl
    go_enter Try.func35, Try.ntmps35
    go_wp2_with fail
    refine (unaryLevel_any _ _).mono ?_
    rintro e w1 ⟨rfl, hq⟩
    obtain rfl := hq.symm
    go_wp2
    go_ret
    exact ⟨ret_int' HZ.out.symm, B1⟩
  by_cases h6 : k = 16
  · subst h6
    have HZ : Hid (levN ⟨16, n, nm, of, vk, vn, vt⟩ = levS nm) := rfl
    go_enter Try.func35, Try.ntmps35
    go_wp2_with fail
    refine (signLevel_any _ _).mono ?_
    rintro e w1 ⟨rfl, hq⟩
    obtain rfl := hq.symm
    go_wp2
    go_ret
    exact ⟨ret_int' HZ.out.symm, B1⟩
  · have HZ : Hid (levN ⟨k, n, nm, of, vk, vn, vt⟩ = 7) := by show _ = _; unfold levN; rw [if_neg h5, if_neg h6]
    go_enter Try.func35, Try.ntmps35
    go_wp2
    go_ret
    exact ⟨ret_int' HZ.out.symm, B1⟩

/-- What impl's isSafe answers of this tree. -/
def SaI (x : ND) (ks : Fo) : Prop := ∀ (ka : Option Addr) (kc : Nat) (w : World), RowT 0 w ka 0 ks → ks.len ≤ maxLen →
    Calls Try.prog 23 #[ValT x (.slice ka ks.len kc)] w fun e w' => e = .returned (.bool (safeT x ks)) ∧ Below w.heap.size w w'
set_option maxRecDepth 100000 in
set_option maxHeartbeats 2000000 in
theorem safeFit (x : ND) (ks : Fo) (ih : SaI x ks) (ka : Option Addr) (kc : Nat) (w : World) (hrow : RowT 0 w ka 0 ks) (hlen : ks.len ≤ maxLen) :
    Calls Try.prog 37 #[ValT x (.slice ka ks.len kc)] w fun e w' => e = .returned (.bool (!safeT x ks)) ∧ Below w.heap.size w w' := by
  have B0 : Below w.heap.size w (w.alloc (.cells #[.int .i64 x.k, .int .i64 x.n, .string x.nm, .string x.of, .int .i64 x.vk, .int .i64 x.vn, .string x.vt, .slice ka ks.len kc] 33)) := (Below.refl _ _).alloc (Nat.le_refl _) _
  have hc := ih ka kc _ (hrow.below B0) hlen
  clear hrow ih hlen
  generalize safeT x ks = ans at hc ⊢
  go_enter Try.func37, Try.ntmps37
  go_wp2_with fail
  refine hc.mono ?_
  rintro e w1 ⟨rfl, b1⟩
  have B1 := B0.trans (b1.mono B0.size)
  clear B0 b1 hc
  go_wp2
  go_ret
  exact ⟨rfl, B1⟩

set_option maxRecDepth 100000 in
set_option maxHeartbeats 2000000 in
theorem safeIndex_of (f : Fo) (ih : ∀ i, i < f.len → SaI (f.node i) (f.kids i)) (a : Option Addr) (cap : Nat) (w : World) (hrow : RowT 0 w a 0 f) (hlen : f.len ≤ maxLen) :
    Calls Try.prog 49 #[.slice a f.len cap, .func (.func 37) #[] #[]] w fun e w' => (∃ z : Int, e = .returned (.int .i64 z) ∧ decide (z ≥ 0) = !safeF f) ∧ Below w.heap.size w w' := by
  have HR : Hid (RowT 0 w a 0 f) := hrow
  have IH : Hid (∀ i, i < f.len → SaI (f.node i) (f.kids i)) := ih
  clear hrow ih
  unfold maxLen at hlen
  obtain ⟨len, hL⟩ : ∃ m, f.len = m := ⟨_, rfl⟩
  have HL : Hid (f.len = len) := hL
  rw [hL] at hlen ⊢
  clear hL
  go_enter Try.func49, Try.ntmps49
  go_wp2
  go_loopw [8] (fun i wr => ∃ k' : Nat, k' ≤ len ∧ i = .int .i64 k' ∧ Hid (∀ i, i < k' → safeT (f.node i) (f.kids i) = true) ∧ Below w.heap.size w wr) (fun i _ => len - (intOf i).toNat)
  case atStart => exact ⟨0, by omega, rfl, fun i hi => by omega, Below.refl _ _⟩
  case round =>
    obtain ⟨j, hj, rfl, HS, hbl⟩ := hrel
    by_cases hjl : j < len
    · obtain ⟨b, off, ka, kc, rfl, _, hb, ⟨c0, c1, c2, c3, c4, c5, c6, c7⟩, ⟨_, hl1, ht1⟩, hr1⟩ := (HR.out.below hbl).at j (by rw [HL.out]; exact hjl)
      have hc := safeFit _ _ (IH.out j (by rw [HL.out]; exact hjl)) ka kc wr hr1 hl1
      have HT0 : Hid (safeT (f.node j) (f.kids j) = false → (!safeF f) = true) := fun h => by rw [safeF_false j (by rw [HL.out]; exact hjl) h]; rfl
      have HS0 : Hid (safeT (f.node j) (f.kids j) = true → ∀ i, i < j + 1 → safeT (f.node i) (f.kids i) = true) := fun hn i hi => by
          rcases Nat.lt_or_ge i j with h | h
          · exact HS.out i h
          · obtain rfl : i = j := by omega
            exact hn
      clear HS hr1
      generalize hn : safeT (f.node j) (f.kids j) = ans at hc HT0 HS0
      clear hn
      go_wp2_with fail
      refine hc.mono ?_
      rintro e w1 ⟨rfl, b1⟩
      have B1 := below_step hbl (Nat.le_refl _) b1
      clear b1 hbl hc c0 c1 c2 c3 c4 c5 c6 c7
      cases ans with
      | false =>
        have HT : Hid ((!safeF f) = true) := HT0.out rfl
        clear HT0 HS0
        go_wp2
        go_ret
        exact ⟨⟨_, rfl, by rw [HT.out]; exact decide_eq_true (by omega)⟩, B1⟩
      | true =>
        have HS' : Hid (∀ i, i < j + 1 → safeT (f.node i) (f.kids i) = true) := HS0.out rfl
        clear HT0 HS0
        go_wp2
        go_roundw
        case rel => exact ⟨j + 1, by omega, by go_num, HS', B1⟩
        case measure => simp [intOf]; omega
    · obtain rfl : j = len := by omega
      have HF : Hid ((!safeF f) = false) := by show _ = _; rw [safeF_true fun i hi => HS.out i (by rw [HL.out] at hi; exact hi)]; rfl
      clear HS
      go_wp2
      go_ret
      exact ⟨⟨_, rfl, by rw [HF.out]; rfl⟩, hbl⟩
set_option maxRecDepth 100000 in
set_option maxHeartbeats 2000000 in
theorem safeContains_of (f : Fo) (ih : ∀ i, i < f.len → SaI (f.node i) (f.kids i)) (a : Option Addr) (cap : Nat) (w : World) (hrow : RowT 0 w a 0 f) (hlen : f.len ≤ maxLen) :
    Calls Try.prog 36 #[.slice a f.len cap, .func (.func 37) #[] #[]] w fun e w' => e = .returned (.bool (!safeF f)) ∧ Below w.heap.size w w' := by
  have hc := safeIndex_of f ih a cap w hrow hlen
  clear ih hrow
  go_enter Try.func36, Try.ntmps36
  go_wp2_with fail
  refine hc.mono ?_
  rintro e w1 ⟨⟨z, rfl, hz⟩, b1⟩
  have HZ : Hid (decide (z ≥ 0) = !safeF f) := hz
  clear hz hc
  go_wp2
  go_ret
  exact ⟨ret_bool' HZ.out, b1⟩

/-- The part of isSafe behind the node's own look. -/
theorem safe_step (x : ND) (ks : Fo) (hb : badN x = false) : safeT x ks = safeF ks := by unfold safeT; rw [hb]; rfl
theorem safe_bad (x : ND) (ks : Fo) (hb : badN x = true) : safeT x ks = false := by unfold safeT; rw [hb]; rfl

set_option maxRecDepth 100000 in
set_option maxHeartbeats 4000000 in
theorem isSafe_of (x : ND) (ks : Fo) (ih : ∀ i, i < ks.len → SaI (ks.node i) (ks.kids i)) : SaI x ks := by
  intro ka kc w hrow hlen
  have B1 : Below w.heap.size w (w.alloc (.cells #[.int .i64 x.k, .int .i64 x.n, .string x.nm, .string x.of, .int .i64 x.vk, .int .i64 x.vn, .string x.vt, .slice ka ks.len kc] 33)) := (Below.refl _ _).alloc (Nat.le_refl _) _
  have X1 : Hid (CellT (w.alloc (.cells #[.int .i64 x.k, .int .i64 x.n, .string x.nm, .string x.of, .int .i64 x.vk, .int .i64 x.vn, .string x.vt, .slice ka ks.len kc] 33)) w.heap.size 0 x (.slice ka ks.len kc)) := cellT_new x _ 33
  have HC : Hid (∀ w1, Below w.heap.size w w1 → Calls Try.prog 36 #[.slice ka ks.len kc, .func (.func 37) #[] #[]] w1 fun e w' => e = .returned (.bool (!safeF ks)) ∧ Below w1.heap.size w1 w') := fun w1 b => safeContains_of ks ih ka kc w1 (hrow.below b) hlen
  clear hrow ih
  have HB1 : Hid (badN x = true → safeT x ks = false) := safe_bad x ks
  have HB0 : Hid (badN x = false → safeT x ks = safeF ks) := safe_step x ks
  generalize safeT x ks = ans at HB1 HB0 ⊢
  obtain ⟨k, n, nm, of, vk, vn, vt⟩ := x
  simp only at B1 X1 ⊢
  by_cases h17 : k = 17
  · subst h17
    have HA : Hid (ans = false) := HB1.out (badN_17 rfl)
    clear HB1 HB0 HC X1
    go_enter Try.func23, Try.ntmps23
    go_wp2
    go_ret
    exact ⟨ret_bool' HA.out.symm, B1⟩
  by_cases hs : k = 15 ∨ k = 16
  · have HL : Hid (∃ z : Int, decide (z ≥ 5) = badN ⟨k, n, nm, of, vk, vn, vt⟩ ∧ ∀ w1, Calls Try.prog 35 #[ValT ⟨k, n, nm, of, vk, vn, vt⟩ (.slice ka ks.len kc)] w1 fun e w' => e = .returned (.int .i64 z) ∧ Below w1.heap.size w1 w') := by
      refine ⟨_, ?_, fun w1 => levelOf_any ⟨k, n, nm, of, vk, vn, vt⟩ _ w1⟩
      rcases hs with rfl | rfl
      · rw [badN_15 rfl]; exact unS_ge _
      · rw [badN_16 rfl]; exact levS_ge _
    obtain ⟨z, hz, hl⟩ := HL.out
    clear HL
    have hL := hl (w.alloc (.cells #[.int .i64 k, .int .i64 n, .string nm, .string of, .int .i64 vk, .int .i64 vn, .string vt, .slice ka ks.len kc] 33))
    clear hl
    cases hb : badN ⟨k, n, nm, of, vk, vn, vt⟩ with
    | true =>
      have HA : Hid (ans = false) := HB1.out hb
      rw [hb] at hz
      clear hb HB1 HB0 HC X1
      rcases hs with rfl | rfl
      all_goals
        go_enter Try.func23, Try.ntmps23
        go_wp2_with fail
        refine hL.mono ?_
        rintro e w1 ⟨rfl, b1⟩
        have B2 := B1.trans (b1.mono B1.size)
        clear b1 hL B1
        go_wp2
        go_ret
        exact ⟨ret_bool' HA.out.symm, B2⟩
    | false =>
      have HA : Hid (ans = safeF ks) := HB0.out hb
      rw [hb] at hz
      clear hb HB1 HB0
      rcases hs with rfl | rfl
      all_goals
        go_enter Try.func23, Try.ntmps23
        go_wp2_with fail
        refine hL.mono ?_
        rintro e w1 ⟨rfl, b1⟩
        have B2 := B1.trans (b1.mono B1.size)
        have X2 := X1.out.same (b1.block w.heap.size (by simp))
        clear b1 hL B1 X1
        obtain ⟨y0, y1, y2, y3, y4, y5, y6, y7⟩ := X2
        have hc := HC.out _ B2
        clear HC
        go_wp2_with fail
        refine hc.mono ?_
        rintro e w2 ⟨rfl, b2⟩
        have B3 := B2.trans (b2.mono B2.size)
        clear b2 hc B2 y0 y1 y2 y3 y4 y5 y6 y7
        go_wp2
        go_ret
        exact ⟨ret_bool' (by rw [HA.out]), B3⟩
  · have h15 : ¬ k = 15 := fun h => hs (.inl h)
    have h16 : ¬ k = 16 := fun h => hs (.inr h)
    have HA : Hid (ans = safeF ks) := HB0.out (badN_no h15 h16 h17)
    clear HB1 HB0 hs
    obtain ⟨y0, y1, y2, y3, y4, y5, y6, y7⟩ := X1.out
    have hc := HC.out _ B1
    clear HC X1
    go_enter Try.func23, Try.ntmps23
    go_wp2_with fail
    refine hc.mono ?_
    rintro e w2 ⟨rfl, b2⟩
    have B3 := B1.trans (b2.mono B1.size)
    clear b2 hc B1 y0 y1 y2 y3 y4 y5 y6 y7
    go_wp2
    go_ret
    exact ⟨ret_bool' (by rw [HA.out]), B3⟩
theorem isSafe_size : ∀ (n : Nat) (x : ND) (ks : Fo), ks.size < n → SaI x ks
  | 0, _, _, h => by omega
  | n + 1, x, ks, h => isSafe_of x ks fun i hi => isSafe_size n _ _ (by have := ks.kids_lt i hi; omega)
theorem isSafe_any (x : ND) (ks : Fo) : SaI x ks := isSafe_size _ x ks (Nat.lt_succ_self _)
end Go.Proofs.Ythjibgnhpkonbaa
