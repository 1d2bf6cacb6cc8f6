/- Which expressions are right, both sides, and both SafeExpr (stage 14). -/
import Derived.Test.YthjibgnhpkonbaaSfB
import Derived.Test.YthjibgnhpkonbaaSqN
namespace Go.Proofs.Ythjibgnhpkonbaa
open Go.RowKit

/-- The expression is right and within its bounds. -/
def okE (x : ND) (ks : Fo) : Bool := bndB ks && exprB x ks true
theorem okE_bnd {x : ND} {ks : Fo} (h : bndB ks = false) : okE x ks = false := by unfold okE; rw [h]; rfl
theorem okE_in {x : ND} {ks : Fo} (h : bndB ks = true) : okE x ks = exprB x ks true := by unfold okE; rw [h]; rfl
theorem bndB_left {ks : Fo} : bndB ks = true ↔ LeftOK ks 120 1 := by
  unfold bndB LeftOK
  rw [Bool.and_eq_true, decide_eq_true_iff, decide_eq_true_iff]
  constructor <;> rintro ⟨h1, h2⟩ <;> exact ⟨by omega, by omega⟩

set_option maxRecDepth 100000 in
set_option maxHeartbeats 4000000 in
theorem isExpression_any (x : ND) (ks : Fo) (ka : Option Addr) (kc : Nat) (w : World) (hrow : RowT 0 w ka 0 ks) (hsz : ks.size ≤ 1048576) (ht : TextsN maxLen x) :
    Calls Try.prog 22 #[ValT x (.slice ka ks.len kc)] w fun e w' => e = .returned (.bool (okE x ks)) ∧ Below w.heap.size w w' := by
  have hlen : ks.len ≤ maxLen := by have := ks.len_le; unfold maxLen; omega
  have B1 : Below w.heap.size w (w.alloc (.cells #[.int .i64 x.k, .int .i64 x.n, .string x.nm, .string x.of, .int .i64 x.vk, .int .i64 x.vn, .string x.vt, .slice ka ks.len kc] 33)) := (Below.refl _ _).alloc (Nat.le_refl _) _
  have X1 : Hid (CellT (w.alloc (.cells #[.int .i64 x.k, .int .i64 x.n, .string x.nm, .string x.of, .int .i64 x.vk, .int .i64 x.vn, .string x.vt, .slice ka ks.len kc] 33)) w.heap.size 0 x (.slice ka ks.len kc)) := cellT_new x _ 33
  have hw := within_any x ks ka kc _ hsz (hrow.below B1)
  have HE : Hid (∀ w1, Below w.heap.size w w1 → Calls Try.prog 34 #[ValT x (.slice ka ks.len kc), .bool true] w1 fun e w' => e = .returned (.bool (exprB x ks true)) ∧ Below w1.heap.size w1 w') := fun w1 b => exI_any x ks ka kc true w1 (hrow.below b) hlen ht
  have HF : Hid (bndB ks = false → okE x ks = false) := okE_bnd
  have HT : Hid (bndB ks = true → okE x ks = exprB x ks true) := okE_in
  clear hrow hsz ht hlen
  generalize okE x ks = ans at HF HT ⊢
  generalize hb' : bndB ks = bnd at hw HF HT
  clear hb'
  generalize he' : exprB x ks true = ex at HE HT
  clear he'
  cases bnd with
  | false =>
    have HA : Hid (ans = false) := HF.out rfl
    clear HF HT HE X1
    go_enter Try.func22, Try.ntmps22
    go_wp2_with fail
    refine hw.mono ?_
    rintro e w1 ⟨rfl, b1⟩
    have B2 := B1.trans (b1.mono B1.size)
    clear b1 hw B1
    go_wp2
    go_ret
    exact ⟨ret_bool' HA.out.symm, B2⟩
  | true =>
    have HA : Hid (ans = ex) := HT.out rfl
    clear HF HT
    go_enter Try.func22, Try.ntmps22
    go_wp2_with fail
    refine hw.mono ?_
    rintro e w1 ⟨rfl, b1⟩
    have B2 := B1.trans (b1.mono B1.size)
    obtain ⟨y0, y1, y2, y3, y4, y5, y6, y7⟩ := X1.out.same (b1.block w.heap.size (by simp))
    have he := HE.out _ B2
    clear b1 hw B1 X1 HE
    go_wp2_with fail
    refine he.mono ?_
    rintro e w2 ⟨rfl, b2⟩
    have B3 := B2.trans (b2.mono B2.size)
    clear b2 he B2 y0 y1 y2 y3 y4 y5 y6 y7
    go_wp2
    go_ret
    exact ⟨ret_bool' HA.out.symm, B3⟩

set_option maxRecDepth 100000 in
set_option maxHeartbeats 4000000 in
theorem l11ExprOK_any (x : ND) (ks : Fo) (ka : Option Addr) (kc : Nat) (w : World) (hrow : RowT 0 w ka 0 ks) (hsz : ks.size ≤ 1048576) (ht : TextsN maxLen x) :
    Calls Try.prog 18 #[ValT x (.slice ka ks.len kc)] w fun e w' => e = .returned (.bool (okE x ks)) ∧ Below w.heap.size w w' := by
  have B1 : Below w.heap.size w (w.alloc (.cells #[.int .i64 x.k, .int .i64 x.n, .string x.nm, .string x.of, .int .i64 x.vk, .int .i64 x.vn, .string x.vt, .slice ka ks.len kc] 33)) := (Below.refl _ _).alloc (Nat.le_refl _) _
  have X1 : Hid (CellT (w.alloc (.cells #[.int .i64 x.k, .int .i64 x.n, .string x.nm, .string x.of, .int .i64 x.vk, .int .i64 x.vn, .string x.vt, .slice ka ks.len kc] 33)) w.heap.size 0 x (.slice ka ks.len kc)) := cellT_new x _ 33
  have hw0 := l10Left_all _ x ks ka kc 120 1 _ (Nat.le_refl _) hsz (by omega) (by omega) (by omega) (by omega) (hrow.below B1)
  have hw : Calls Try.prog 30 #[ValT x (.slice ka ks.len kc), .int .i64 120, .int .i64 1] (w.alloc (.cells #[.int .i64 x.k, .int .i64 x.n, .string x.nm, .string x.of, .int .i64 x.vk, .int .i64 x.vn, .string x.vt, .slice ka ks.len kc] 33)) fun e w' => ∃ r : Int, e = .returned (.int .i64 r) ∧ decide (r ≥ 0) = bndB ks ∧ Below (w.alloc (.cells #[.int .i64 x.k, .int .i64 x.n, .string x.nm, .string x.of, .int .i64 x.vk, .int .i64 x.vn, .string x.vt, .slice ka ks.len kc] 33)).heap.size (w.alloc (.cells #[.int .i64 x.k, .int .i64 x.n, .string x.nm, .string x.of, .int .i64 x.vk, .int .i64 x.vn, .string x.vt, .slice ka ks.len kc] 33)) w' := by
    refine hw0.mono ?_
    rintro e w1 ⟨r, rfl, _, r1, r2, b1⟩
    refine ⟨r, rfl, ?_, b1⟩
    cases hb : bndB ks with
    | true =>
      have hl := bndB_left.1 hb
      have := r1 hl
      exact decide_eq_true (by have := hl.1; omega)
    | false =>
      have := r2 fun h => by rw [bndB_left.2 h] at hb; cases hb
      exact decide_eq_false (by omega)
  have HE : Hid (∀ w1, Below w.heap.size w w1 → Calls Try.prog 31 #[ValT x (.slice ka ks.len kc), .bool true] w1 fun e w' => e = .returned (.bool (exprB x ks true)) ∧ Below w1.heap.size w1 w') := fun w1 b => exS_any x ks ka kc true w1 (hrow.below b) ht
  have HF : Hid (bndB ks = false → okE x ks = false) := okE_bnd
  have HT : Hid (bndB ks = true → okE x ks = exprB x ks true) := okE_in
  clear hrow hsz ht hw0
  generalize okE x ks = ans at HF HT ⊢
  generalize hb' : bndB ks = bnd at hw HF HT
  clear hb'
  generalize he' : exprB x ks true = ex at HE HT
  clear he'
  cases bnd with
  | false =>
    have HA : Hid (ans = false) := HF.out rfl
    clear HF HT HE X1
    go_enter Try.func18, Try.ntmps18
    go_wp2_with fail
    refine hw.mono ?_
    rintro e w1 ⟨r, rfl, hr, b1⟩
    have B2 := B1.trans (b1.mono B1.size)
    clear b1 hw B1
    go_wp2
    go_ret
    exact ⟨ret_bool' HA.out.symm, B2⟩
  | true =>
    have HA : Hid (ans = ex) := HT.out rfl
    clear HF HT
    go_enter Try.func18, Try.ntmps18
    go_wp2_with fail
    refine hw.mono ?_
    rintro e w1 ⟨r, rfl, hr, b1⟩
    have B2 := B1.trans (b1.mono B1.size)
    obtain ⟨y0, y1, y2, y3, y4, y5, y6, y7⟩ := X1.out.same (b1.block w.heap.size (by simp))
    have he := HE.out _ B2
    clear b1 hw B1 X1 HE
    go_wp2_with fail
    refine he.mono ?_
    rintro e w2 ⟨rfl, b2⟩
    have B3 := B2.trans (b2.mono B2.size)
    clear b2 he B2 y0 y1 y2 y3 y4 y5 y6 y7
    go_wp2
    go_ret
    exact ⟨ret_bool' HA.out.symm, B3⟩

/-- What SafeExpr answers. -/
def sAns (x : ND) (ks : Fo) : Bool := okE x ks && safeT x ks
def sCode (x : ND) (ks : Fo) : Int := if okE x ks = true then 0 else 1
def RetSf (x : ND) (ks : Fo) (w : World) (e : Ending) (w' : World) : Prop := e = .returned (.tuple #[.bool (sAns x ks), .int .i64 (sCode x ks)]) ∧ Below w.heap.size w w'
theorem RetSf.bad {x : ND} {ks : Fo} {w w' : World} {e : Ending} (h : okE x ks = false) (he : e = .returned (.tuple #[.bool false, .int .i64 1])) (hb : Below w.heap.size w w') : RetSf x ks w e w' := by
  refine ⟨?_, hb⟩
  unfold sAns sCode
  rw [h]
  exact he
theorem RetSf.ok {x : ND} {ks : Fo} {w w' : World} {e : Ending} (h : okE x ks = true) (he : e = .returned (.tuple #[.bool (safeT x ks), .int .i64 0])) (hb : Below w.heap.size w w') : RetSf x ks w e w' := by
  refine ⟨?_, hb⟩
  unfold sAns sCode
  rw [h]
  exact he

set_option maxRecDepth 100000 in
set_option maxHeartbeats 4000000 in
theorem implSafe_any (x : ND) (ks : Fo) (ka : Option Addr) (kc : Nat) (w : World) (hrow : RowT 0 w ka 0 ks) (hsz : ks.size ≤ 1048576) (ht : TextsN maxLen x) :
    Calls Try.prog 8 #[ValT x (.slice ka ks.len kc)] w (RetSf x ks w) := by
  have hlen : ks.len ≤ maxLen := by have := ks.len_le; unfold maxLen; omega
  have B1 : Below w.heap.size w (w.alloc (.cells #[.int .i64 x.k, .int .i64 x.n, .string x.nm, .string x.of, .int .i64 x.vk, .int .i64 x.vn, .string x.vt, .slice ka ks.len kc] 33)) := (Below.refl _ _).alloc (Nat.le_refl _) _
  have X1 : Hid (CellT (w.alloc (.cells #[.int .i64 x.k, .int .i64 x.n, .string x.nm, .string x.of, .int .i64 x.vk, .int .i64 x.vn, .string x.vt, .slice ka ks.len kc] 33)) w.heap.size 0 x (.slice ka ks.len kc)) := cellT_new x _ 33
  have hw := isExpression_any x ks ka kc _ (hrow.below B1) hsz ht
  have HE : Hid (∀ w1, Below w.heap.size w w1 → Calls Try.prog 23 #[ValT x (.slice ka ks.len kc)] w1 fun e w' => e = .returned (.bool (safeT x ks)) ∧ Below w1.heap.size w1 w') := fun w1 b => isSafe_any x ks ka kc w1 (hrow.below b) hlen
  clear hrow hsz ht hlen
  have HF : Hid (∀ w', okE x ks = false → Below w.heap.size w w' → RetSf x ks w (.returned (.tuple #[.bool false, .int .i64 1])) w') := fun w' h b => RetSf.bad h rfl b
  have HT : Hid (∀ w', okE x ks = true → Below w.heap.size w w' → RetSf x ks w (.returned (.tuple #[.bool (safeT x ks), .int .i64 0])) w') := fun w' h b => RetSf.ok h rfl b
  generalize okE x ks = ok at hw HF HT
  generalize safeT x ks = sa at HE HT
  cases ok with
  | false =>
    clear HT HE X1
    go_enter Try.func8, Try.ntmps8
    go_wp2_with fail
    refine hw.mono ?_
    rintro e w1 ⟨rfl, b1⟩
    have B2 := B1.trans (b1.mono B1.size)
    clear b1 hw B1
    go_wp2
    go_ret2
    exact HF.out _ (by simp) B2
  | true =>
    clear HF
    go_enter Try.func8, Try.ntmps8
    go_wp2_with fail
    refine hw.mono ?_
    rintro e w1 ⟨rfl, b1⟩
    have B2 := B1.trans (b1.mono B1.size)
    obtain ⟨y0, y1, y2, y3, y4, y5, y6, y7⟩ := X1.out.same (b1.block w.heap.size (by simp))
    have he := HE.out _ B2
    clear b1 hw B1 X1 HE
    go_wp2_with fail
    refine he.mono ?_
    rintro e w2 ⟨rfl, b2⟩
    have B3 := B2.trans (b2.mono B2.size)
    clear b2 he B2 y0 y1 y2 y3 y4 y5 y6 y7
    go_wp2
    go_ret2
    exact HT.out _ (by simp) B3

set_option maxRecDepth 100000 in
set_option maxHeartbeats 4000000 in
theorem specSafe_any (x : ND) (ks : Fo) (ka : Option Addr) (kc : Nat) (w : World) (hrow : RowT 0 w ka 0 ks) (hsz : ks.size ≤ 1048576) (ht : TextsN maxLen x) :
    Calls Try.prog 6 #[ValT x (.slice ka ks.len kc)] w (RetSf x ks w) := by
  have hlen : ks.len ≤ maxLen := by have := ks.len_le; unfold maxLen; omega
  have B1 : Below w.heap.size w (w.alloc (.cells #[.int .i64 x.k, .int .i64 x.n, .string x.nm, .string x.of, .int .i64 x.vk, .int .i64 x.vn, .string x.vt, .slice ka ks.len kc] 33)) := (Below.refl _ _).alloc (Nat.le_refl _) _
  have X1 : Hid (CellT (w.alloc (.cells #[.int .i64 x.k, .int .i64 x.n, .string x.nm, .string x.of, .int .i64 x.vk, .int .i64 x.vn, .string x.vt, .slice ka ks.len kc] 33)) w.heap.size 0 x (.slice ka ks.len kc)) := cellT_new x _ 33
  have hw := l11ExprOK_any x ks ka kc _ (hrow.below B1) hsz ht
  have HE : Hid (∀ w1, Below w.heap.size w w1 → Calls Try.prog 19 #[ValT x (.slice ka ks.len kc)] w1 fun e w' => e = .returned (.bool (safeT x ks)) ∧ Below w1.heap.size w1 w') := fun w1 b => l14Safe_any x ks ka kc w1 (hrow.below b) hlen
  clear hrow hsz ht hlen
  have HF : Hid (∀ w', okE x ks = false → Below w.heap.size w w' → RetSf x ks w (.returned (.tuple #[.bool false, .int .i64 1])) w') := fun w' h b => RetSf.bad h rfl b
  have HT : Hid (∀ w', okE x ks = true → Below w.heap.size w w' → RetSf x ks w (.returned (.tuple #[.bool (safeT x ks), .int .i64 0])) w') := fun w' h b => RetSf.ok h rfl b
  generalize okE x ks = ok at hw HF HT
  generalize safeT x ks = sa at HE HT
  cases ok with
  | false =>
    clear HT HE X1
    go_enter Try.func6, Try.ntmps6
    go_wp2_with fail
    refine hw.mono ?_
    rintro e w1 ⟨rfl, b1⟩
    have B2 := B1.trans (b1.mono B1.size)
    clear b1 hw B1
    go_wp2
    go_ret2
    exact HF.out _ (by simp) B2
  | true =>
    clear HF
    go_enter Try.func6, Try.ntmps6
    go_wp2_with fail
    refine hw.mono ?_
    rintro e w1 ⟨rfl, b1⟩
    have B2 := B1.trans (b1.mono B1.size)
    obtain ⟨y0, y1, y2, y3, y4, y5, y6, y7⟩ := X1.out.same (b1.block w.heap.size (by simp))
    have he := HE.out _ B2
    clear b1 hw B1 X1 HE
    go_wp2_with fail
    refine he.mono ?_
    rintro e w2 ⟨rfl, b2⟩
    have B3 := B2.trans (b2.mono B2.size)
    clear b2 he B2 y0 y1 y2 y3 y4 y5 y6 y7
    go_wp2
    go_ret2
    exact HT.out _ (by simp) B3
end Go.Proofs.Ythjibgnhpkonbaa
