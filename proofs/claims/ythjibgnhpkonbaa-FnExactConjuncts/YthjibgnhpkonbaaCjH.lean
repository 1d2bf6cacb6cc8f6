/- impl's parts that and joins (stage 14). -/
import Derived.Test.YthjibgnhpkonbaaCjG
import Derived.Deep.RegionHeld3
namespace Go.Proofs.Ythjibgnhpkonbaa
open Go.RowKit

theorem andsF_pos : ∀ (n : Nat) (x : ND) (ks : Fo), ks.size < n → 0 < (andsF x ks).len
  | 0, _, _, h => by omega
  | n + 1, x, ks, h => by
    cases ha : isAnd x with
    | false => rw [andsF_no ha]; simp [Fo.len]
    | true =>
      match ks, h with
      | .nil, _ => unfold andsF; simp [Fo.len]
      | .cons y0 k0 .nil, _ => unfold andsF; simp [Fo.len]
      | .cons y0 k0 (.cons y1 k1 r), h =>
        unfold andsF
        rw [if_pos ha, Fo.app_len]
        have := andsF_pos n y0 k0 (by simp only [Fo.size] at h; omega)
        omega
/-- What conjunctsOf answers of this tree. -/
def AnI (x : ND) (ks : Fo) : Prop := ∀ (ka : Option Addr) (kc : Nat) (w : World), RowT 0 w ka 0 ks → ks.len ≤ kc → ks.size ≤ 1000 → TextsN maxLen x → exprB x ks true = true →
    Calls Try.prog 28 #[ValT x (.slice ka ks.len kc)] w fun e w' => ∃ g c es, e = .returned (.slice (some ⟨g, 0, none⟩) es.length c) ∧ RowE w' (some ⟨g, 0, none⟩) es ∧ KidE w' es (andsF x ks) ∧ Below w.heap.size w w'
/-- The tree in its block, and its two kids. -/
abbrev AndS (w : World) (y : Nat) (x : ND) (s : Value) (b o : Nat) (x0 x1 : ND) (s0 s1 : Value) (w' : World) : Prop := CellT w' y 0 x s ∧ CellT w' b o x0 s0 ∧ CellT w' b (o + 8) x1 s1 ∧ y < w'.heap.size ∧ b < w'.heap.size ∧ Below w.heap.size w w'
theorem AndS.keep {w : World} {y : Nat} {x : ND} {s : Value} {b o : Nat} {x0 x1 : ND} {s0 s1 : Value} {w1 w2 : World} (h : AndS w y x s b o x0 x1 s0 s1 w1) (hb : Below w1.heap.size w1 w2) : AndS w y x s b o x0 x1 s0 s1 w2 :=
  ⟨h.1.same (hb.block _ h.2.2.2.1), h.2.1.same (hb.block _ h.2.2.2.2.1), h.2.2.1.same (hb.block _ h.2.2.2.2.1), Nat.lt_of_lt_of_le h.2.2.2.1 hb.size, Nat.lt_of_lt_of_le h.2.2.2.2.1 hb.size, below_step h.2.2.2.2.2 (Nat.le_refl _) hb⟩
/-- A list of trees. -/
structure ListE (w : World) (g : Nat) (f : Fo) (es : List E) : Prop where
  row : RowE w (some ⟨g, 0, none⟩) es
  kids : KidE w es f
theorem ListE.below {w w' : World} {g : Nat} {f : Fo} {es : List E} (h : ListE w g f es) (hb : Below w.heap.size w w') : ListE w' g f es := ⟨h.row.below hb, h.kids.below hb⟩
theorem concatT {s g0 d0 g1 d1 : Nat} {f0 f1 : Fo} {es0 es1 : List E} {w : World} (h0 : ListE w g0 f0 es0) (h1 : ListE w g1 f1 es1) (l0 : f0.len ≤ 2048) (l1 : f1.len ≤ 2048) (hp : 0 < (f0.app f1).len)
    (c0 : w.cell? ⟨s, 0, none⟩ = some (.slice (some ⟨g0, 0, none⟩) f0.len d0)) (c1 : w.cell? ⟨s, 1, none⟩ = some (.slice (some ⟨g1, 0, none⟩) f1.len d1)) (hs : s < w.heap.size) :
    Calls Try.prog 39 #[.slice (some ⟨s, 0, none⟩) 2 2] w fun e w' => ∃ g c es, e = .returned (.slice (some ⟨g, 0, none⟩) (f0.app f1).len c) ∧ ListE w' g (f0.app f1) es ∧ Below w.heap.size w w' := by
  have e0 := h0.kids.1
  have e1 := h1.kids.1
  refine (concat_any s g0 0 d0 g1 0 d1 es0 es1 w (by rw [e0]; exact c0) (by rw [e1]; exact c1) hs h0.row h1.row (by omega) (by omega)).mono ?_
  rintro e w' ⟨u, rfl, ho, hb⟩
  have hk := (h0.kids.app h1.kids).below hb
  obtain ⟨a, c, rfl, _, hr, hz⟩ := ho.row
  obtain ⟨g, rfl, _⟩ := hz (by rw [hk.1]; exact hp)
  exact ⟨g, c, es0 ++ es1, by rw [hk.1], ⟨hr, hk⟩, hb⟩
set_option maxRecDepth 100000 in
set_option maxHeartbeats 8000000 in
theorem conjunctsOf_step (x : ND) (ks : Fo) (ih : ∀ i, i < ks.len → AnI (ks.node i) (ks.kids i)) : AnI x ks := by
  intro ka kc w hrow hkc hsz ht he
  have B1 : Below w.heap.size w (w.alloc (.cells #[.int .i64 x.k, .int .i64 x.n, .string x.nm, .string x.of, .int .i64 x.vk, .int .i64 x.vn, .string x.vt, .slice ka ks.len kc] 33)) := (Below.refl _ _).alloc (Nat.le_refl _) _
  have X1 : Hid (CellT (w.alloc (.cells #[.int .i64 x.k, .int .i64 x.n, .string x.nm, .string x.of, .int .i64 x.vk, .int .i64 x.vn, .string x.vt, .slice ka ks.len kc] 33)) w.heap.size 0 x (.slice ka ks.len kc)) := cellT_new x _ 33
  cases ha : isAnd x with
  | false =>
    have HO : Hid (∃ es, es = [((x, ka, ks.len, kc) : E)] ∧ KidE w es (andsF x ks)) := ⟨_, rfl, by rw [andsF_no ha]; exact KidE.one hrow hkc (by have := ks.len_le; unfold maxLen; omega) ht⟩
    clear ih hrow he
    have HB : Hid (∀ (W : World) (g : Nat), g = W.heap.size → RowE (W.alloc (.cells #[.int .i64 x.k, .int .i64 x.n, .string x.nm, .string x.of, .int .i64 x.vk, .int .i64 x.vn, .string x.vt, .slice ka ks.len kc] 33)) (some ⟨g, 0, none⟩) [((x, ka, ks.len, kc) : E)]) := fun W g hg i hi => by
      subst hg
      obtain rfl : i = 0 := by simp at hi; omega
      exact ⟨W.heap.size, 0, rfl, by simp, cellT_new x _ 33⟩
    have HK : Hid ((¬ x.k = 16) ∨ (x.k = 16 ∧ (x.nm.toList == [97, 110, 100]) = false)) := by
      show _ ∨ _
      unfold isAnd at ha
      cases hb : (x.k == 16) with
      | false => exact .inl (beq_eq_false_iff_ne.1 hb)
      | true =>
        rw [hb] at ha
        exact .inr ⟨beq_iff_eq.1 hb, by simpa using ha⟩
    obtain ⟨y0, y1, y2, y3, y4, y5, y6, y7⟩ := X1.out
    clear ha
    obtain ⟨k, n, nm, of, vk, vn, vt⟩ := x
    simp only at y0 y1 y2 y3 y4 y5 y6 y7
    have hk := HK.out
    simp only at hk
    clear HK
    rcases hk with hk | ⟨rfl, hn⟩
    all_goals
      go_enter Try.func28, Try.ntmps28
      go_wp2
      go_ret
      obtain ⟨es, rfl, hes⟩ := HO.out
      exact ⟨_, _, _, rfl, HB.out _ _ (by simp), hes.below (B1.alloc (by simp) _), B1.alloc (by simp) _⟩
  | true =>
    have h16 := isAnd_16 ha
    obtain ⟨h2, hek⟩ := exprB_kids he h16
    have hnm : (x.nm.toList == [97, 110, 100]) = true := by
      unfold isAnd at ha
      rw [Bool.and_eq_true] at ha
      exact ha.2
    obtain ⟨b, o, ka0, kc0, rfl, _, hlb, d0, ⟨m0, m1, m2⟩, r0⟩ := hrow.at 0 (by omega)
    obtain ⟨b', o', ka1, kc1, eb, _, _, d1, ⟨n0, n1, n2⟩, r1⟩ := hrow.at 1 (by omega)
    cases eb
    have hs0 := ks.kids_lt 0 (by omega)
    have hs1 := ks.kids_lt 1 (by omega)
    have C0 : Hid (∀ W, Below w.heap.size w W → Calls Try.prog 28 #[ValT (ks.node 0) (.slice ka0 (ks.kids 0).len kc0)] W fun e w' => ∃ g c es, e = .returned (.slice (some ⟨g, 0, none⟩) (andsF (ks.node 0) (ks.kids 0)).len c) ∧ ListE w' g (andsF (ks.node 0) (ks.kids 0)) es ∧ Below W.heap.size W w') := fun W hW => (ih 0 (by omega) ka0 kc0 W (r0.below hW) m0 (by omega) m2 (hek 0 (by omega))).mono fun e w' ⟨g, c, es, q1, q2, q3, q4⟩ => ⟨g, c, es, by rw [← q3.1]; exact q1, ⟨q2, q3⟩, q4⟩
    have C1 : Hid (∀ W, Below w.heap.size w W → Calls Try.prog 28 #[ValT (ks.node 1) (.slice ka1 (ks.kids 1).len kc1)] W fun e w' => ∃ g c es, e = .returned (.slice (some ⟨g, 0, none⟩) (andsF (ks.node 1) (ks.kids 1)).len c) ∧ ListE w' g (andsF (ks.node 1) (ks.kids 1)) es ∧ Below W.heap.size W w') := fun W hW => (ih 1 (by omega) ka1 kc1 W (r1.below hW) n0 (by omega) n2 (hek 1 (by omega))).mono fun e w' ⟨g, c, es, q1, q2, q3, q4⟩ => ⟨g, c, es, by rw [← q3.1]; exact q1, ⟨q2, q3⟩, q4⟩
    have hP : AndS w w.heap.size x (.slice (some ⟨b, o, none⟩) ks.len kc) b o (ks.node 0) (ks.node 1) (.slice ka0 (ks.kids 0).len kc0) (.slice ka1 (ks.kids 1).len kc1) (w.alloc (.cells #[.int .i64 x.k, .int .i64 x.n, .string x.nm, .string x.of, .int .i64 x.vk, .int .i64 x.vn, .string x.vt, .slice (some ⟨b, o, none⟩) ks.len kc] 33)).drew := by
      have h0 : AndS w w.heap.size x (.slice (some ⟨b, o, none⟩) ks.len kc) b o (ks.node 0) (ks.node 1) (.slice ka0 (ks.kids 0).len kc0) (.slice ka1 (ks.kids 1).len kc1) (w.alloc (.cells #[.int .i64 x.k, .int .i64 x.n, .string x.nm, .string x.of, .int .i64 x.vk, .int .i64 x.vn, .string x.vt, .slice (some ⟨b, o, none⟩) ks.len kc] 33)) :=
        ⟨X1.out, d0.same (B1.block b hlb), d1.same (B1.block b hlb), by simp, Nat.lt_of_lt_of_le hlb B1.size, B1⟩
      exact h0.keep (Below.refl _ _).drew
    have HL0 : Hid ((andsF (ks.node 0) (ks.kids 0)).len ≤ 2048 ∧ (andsF (ks.node 1) (ks.kids 1)).len ≤ 2048) := by
      have a0 := andsF_size _ (ks.node 0) (ks.kids 0) (Nat.lt_succ_self _) (hek 0 (by omega))
      have a1 := andsF_size _ (ks.node 1) (ks.kids 1) (Nat.lt_succ_self _) (hek 1 (by omega))
      have b0 := (andsF (ks.node 0) (ks.kids 0)).len_le
      have b1 := (andsF (ks.node 1) (ks.kids 1)).len_le
      exact ⟨by omega, by omega⟩
    have HA : Hid (andsF x ks = (andsF (ks.node 0) (ks.kids 0)).app (andsF (ks.node 1) (ks.kids 1)) ∧ 0 < (andsF x ks).len) := ⟨andsF_and ha h2, andsF_pos _ x ks (Nat.lt_succ_self _)⟩
    obtain ⟨y0, y1, y2, y3, y4, y5, y6, y7⟩ := X1.out
    clear ih hrow hkc hsz he ha hek d0 d1 m0 m1 m2 n0 n1 n2 r0 r1 hs0 hs1 hlb B1 X1 ht
    rw [h2] at y7 hP ⊢
    clear h2
    obtain ⟨k, n, nm, of, vk, vn, vt⟩ := x
    simp only at y0 y1 y2 y3 y4 y5 y6 y7 h16 hnm hP
    subst h16
    generalize andsF (ks.node 0) (ks.kids 0) = f0 at *
    generalize andsF (ks.node 1) (ks.kids 1) = f1 at *
    generalize andsF ⟨16, n, nm, of, vk, vn, vt⟩ ks = ff at *
    obtain ⟨x0, hx0⟩ : ∃ x0, ks.node 0 = x0 := ⟨_, rfl⟩
    obtain ⟨x1, hx1⟩ : ∃ x1, ks.node 1 = x1 := ⟨_, rfl⟩
    rw [hx0] at C0 hP
    rw [hx1] at C1 hP
    clear hx0 hx1
    generalize (ks.kids 0).len = l0 at *
    generalize (ks.kids 1).len = l1 at *
    go_enter Try.func28, Try.ntmps28
    go_wp2_with fail
    go_region_held3 (AndS w w.heap.size ⟨16, n, nm, of, vk, vn, vt⟩ (.slice (some ⟨b, o, none⟩) 2 kc) b o x0 x1 (.slice ka0 l0 kc0) (.slice ka1 l1 kc1)) (first | exact hP | exact AndS.keep (by assumption) hb | exact AndS.keep (by assumption) ((Below.refl _ _).alloc (Nat.le_refl _) _) | exact AndS.keep (by assumption) ((Below.refl _ _).alloc (Nat.le_refl _) _).drew)
      (first
        | (go_at_call 28; (with_reducible refine (C0.out _ (by have := (show AndS w w.heap.size ⟨16, n, nm, of, vk, vn, vt⟩ (.slice (some ⟨b, o, none⟩) 2 kc) b o x0 x1 (.slice ka0 l0 kc0) (.slice ka1 l1 kc1) _ by assumption); exact this.2.2.2.2.2)).mono ?_); rintro e wA ⟨g0, c0, es0, rfl, R0, hb⟩; (try have R1 := ListE.below (by assumption : ListE _ _ f1 _) hb))
        | (go_at_call 28; (with_reducible refine (C1.out _ (by have := (show AndS w w.heap.size ⟨16, n, nm, of, vk, vn, vt⟩ (.slice (some ⟨b, o, none⟩) 2 kc) b o x0 x1 (.slice ka0 l0 kc0) (.slice ka1 l1 kc1) _ by assumption); exact this.2.2.2.2.2)).mono ?_); rintro e wA ⟨g1, c1, es1, rfl, R1, hb⟩; (try have R0 := ListE.below (by assumption : ListE _ _ f0 _) hb))
        | (go_at_call 39; refine (concatT (ListE.below (by assumption : ListE _ _ f0 _) ((Below.refl _ _).alloc (Nat.le_refl _) _)) (ListE.below (by assumption : ListE _ _ f1 _) ((Below.refl _ _).alloc (Nat.le_refl _) _)) HL0.out.1 HL0.out.2 (by rw [← HA.out.1]; exact HA.out.2) (slab_cell (heap_new' _ _ _ rfl)) (slab_cell (heap_new' _ _ _ rfl)) (by simp)).mono ?_; rintro e wA ⟨gc, cc, esc, rfl, RC, hb⟩)
        | fail)
    rename_i hPL
    have hE := hPL.2.2.2.2.2
    clear hP hPL
    go_wp2
    go_ret
    exact ⟨gc, cc, esc, by rw [RC.kids.1]; rfl, RC.row, by rw [HA.out.1]; exact RC.kids, hE⟩
theorem conjunctsOf_size : ∀ (n : Nat) (x : ND) (ks : Fo), ks.size < n → AnI x ks
  | 0, _, _, h => by omega
  | n + 1, x, ks, h => conjunctsOf_step x ks fun i hi => conjunctsOf_size n _ _ (by have := ks.kids_lt i hi; omega)
theorem conjunctsOf_any (x : ND) (ks : Fo) : AnI x ks := conjunctsOf_size _ x ks (Nat.lt_succ_self _)
/-- The parts of a right expression, none of another. -/
def cjF (x : ND) (ks : Fo) : Fo := if okE x ks = true then andsF x ks else .nil
theorem okE_parts {x : ND} {ks : Fo} (h : okE x ks = true) : ks.size + 1 ≤ 120 ∧ exprB x ks true = true := by
  unfold okE bndB at h
  rw [Bool.and_eq_true, Bool.and_eq_true, decide_eq_true_iff] at h
  exact ⟨h.1.1, h.2⟩
theorem cjF_size {x : ND} {ks : Fo} : (cjF x ks).size ≤ 200 := by
  unfold cjF
  split
  · rename_i h
    obtain ⟨h1, h2⟩ := okE_parts h
    have := andsF_size _ x ks (Nat.lt_succ_self _) h2
    omega
  · simp [Fo.size]
theorem cjF_small {x : ND} {ks : Fo} (ht : TextsN 1048576 x) (hs : SmallF ks) : SmallF (cjF x ks) := by
  unfold cjF
  split
  · rename_i h
    exact andsF_small _ x ks (Nat.lt_succ_self _) (okE_parts h).2 ht hs
  · trivial
/-- What impl's Conjuncts answers. -/
def RetCj (x : ND) (ks : Fo) (w : World) (e : Ending) (w' : World) : Prop := ∃ a n c, e = .returned (.tuple #[.slice a n c, .int .i64 (sCode x ks)]) ∧ KidD w' w.heap.size w'.heap.size (.slice a n c) (cjF x ks) ∧ Below w.heap.size w w'
set_option maxRecDepth 100000 in
set_option maxHeartbeats 4000000 in
theorem implConj_any (x : ND) (ks : Fo) (ka : Option Addr) (kc : Nat) (w : World) (hrow : RowT 0 w ka 0 ks) (hkc : ks.len ≤ kc) (hsz : ks.size ≤ 1048576) (ht : TextsN maxLen x) :
    Calls Try.prog 11 #[ValT x (.slice ka ks.len kc)] w (RetCj x ks w) := by
  have B1 : Below w.heap.size w (w.alloc (.cells #[.int .i64 x.k, .int .i64 x.n, .string x.nm, .string x.of, .int .i64 x.vk, .int .i64 x.vn, .string x.vt, .slice ka ks.len kc] 33)) := (Below.refl _ _).alloc (Nat.le_refl _) _
  have X1 : Hid (CellT (w.alloc (.cells #[.int .i64 x.k, .int .i64 x.n, .string x.nm, .string x.of, .int .i64 x.vk, .int .i64 x.vn, .string x.vt, .slice ka ks.len kc] 33)) w.heap.size 0 x (.slice ka ks.len kc)) := cellT_new x _ 33
  have hw := isExpression_any x ks ka kc _ (hrow.below B1) hsz ht
  have HE : Hid (okE x ks = true → ∀ w1, Below w.heap.size w w1 → Calls Try.prog 28 #[ValT x (.slice ka ks.len kc)] w1 fun e w' => ∃ g c, e = .returned (.slice (some ⟨g, 0, none⟩) (andsF x ks).len c) ∧ RowT 0 w' (some ⟨g, 0, none⟩) 0 (andsF x ks) ∧ Below w1.heap.size w1 w') := fun h w1 b => by
    obtain ⟨h1, h2⟩ := okE_parts h
    exact (conjunctsOf_any x ks ka kc w1 (hrow.below b) hkc (by omega) ht h2).mono fun e w' ⟨g, c, es, q1, q2, q3, q4⟩ => ⟨g, c, by rw [← q3.1]; exact q1, q2.trees q3, q4⟩
  have HC : Hid (okE x ks = true → cjF x ks = andsF x ks ∧ sCode x ks = 0 ∧ (andsF x ks).size ≤ 4096) := fun h => by
    have h0 : cjF x ks = andsF x ks := if_pos h
    exact ⟨h0, if_pos h, by rw [← h0]; exact Nat.le_trans cjF_size (by omega)⟩
  have HF : Hid (okE x ks = false → cjF x ks = .nil ∧ sCode x ks = 1) := fun h => ⟨if_neg (by rw [h]; decide), if_neg (by rw [h]; decide)⟩
  clear hrow hsz ht hkc
  generalize hok : okE x ks = ok at hw HE HC HF
  clear hok
  unfold RetCj
  generalize cjF x ks = cj at HC HF ⊢
  generalize sCode x ks = cod at HC HF ⊢
  cases ok with
  | false =>
    have HA : Hid (cj = .nil ∧ cod = 1) := HF.out rfl
    clear HE HC HF X1
    go_enter Try.func11, Try.ntmps11
    go_wp2_with fail
    refine hw.mono ?_
    rintro e w1 ⟨rfl, b1⟩
    have B2 := B1.trans (b1.mono B1.size)
    clear b1 hw B1
    go_wp2
    go_ret2
    exact ⟨_, _, _, by rw [HA.out.2]; rfl, .inl ⟨rfl, by rw [HA.out.1]; rfl⟩, B2⟩
  | true =>
    have HE' : Hid (∀ w1, Below w.heap.size w w1 → Calls Try.prog 28 #[ValT x (.slice ka ks.len kc)] w1 fun e w' => ∃ g c, e = .returned (.slice (some ⟨g, 0, none⟩) (andsF x ks).len c) ∧ RowT 0 w' (some ⟨g, 0, none⟩) 0 (andsF x ks) ∧ Below w1.heap.size w1 w') := HE.out rfl
    have HA : Hid (cj = andsF x ks ∧ cod = 0 ∧ (andsF x ks).size ≤ 4096) := HC.out rfl
    clear HE HC HF
    generalize andsF x ks = ff at HE' HA
    go_enter Try.func11, Try.ntmps11
    go_wp2_with fail
    refine hw.mono ?_
    rintro e w1 ⟨rfl, b1⟩
    have B2 := B1.trans (b1.mono B1.size)
    obtain ⟨y0, y1, y2, y3, y4, y5, y6, y7⟩ := X1.out.same (b1.block w.heap.size (by simp))
    have he := HE'.out _ B2
    clear b1 hw B1 X1 HE'
    go_wp2_with fail
    refine he.mono ?_
    rintro e w2 ⟨g, c, rfl, hr, b2⟩
    have B3 := B2.trans (b2.mono B2.size)
    have hc := copyTrees_any ff (some ⟨g, 0, none⟩) c w2 hr HA.out.2.2
    clear b2 he B2 y0 y1 y2 y3 y4 y5 y6 y7 hr
    go_wp2_with fail
    refine hc.mono ?_
    rintro e w3 ⟨v, rfl, hk, b3⟩
    have HB : Hid (Below w.heap.size w w3) := B3.trans (b3.mono B3.size)
    have HK : Hid (KidD w3 w.heap.size w3.heap.size v ff) := hk.mono B3.size (Nat.le_refl _)
    obtain ⟨va, vn, vc, rfl⟩ := hk.shape
    clear hk b3 hc B3
    go_wp2
    go_ret2
    exact ⟨_, _, _, by rw [HA.out.2.1]; rfl, by rw [HA.out.1]; exact HK.out, HB.out⟩
end Go.Proofs.Ythjibgnhpkonbaa
