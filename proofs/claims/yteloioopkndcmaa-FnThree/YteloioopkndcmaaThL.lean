/- The law FnThree (stage 12). -/
import Derived.Test.YteloioopkndcmaaThC
namespace Go.Proofs.Yteloioopkndcmaa
open Go.RowKit

/-- Values in blocks; what lay in w lies there still. -/
def Bxs (w : World) (L : List (Nat × V3)) (w' : World) : Prop := (∀ p ∈ L, BoxV w' p.1 p.2.1 p.2.2.1 p.2.2.2) ∧ Below w.heap.size w w'
theorem Bxs.keep {w w1 w2 : World} {L : List (Nat × V3)} (h : Bxs w L w1) (hb : Below w1.heap.size w1 w2) : Bxs w L w2 :=
  ⟨fun p hp => keep_box (h.1 p hp) hb, h.2.trans (hb.mono h.2.size)⟩
theorem Bxs.push {w w1 : World} {L : List (Nat × V3)} (h : Bxs w L w1) (k n : Int) (t : ByteArray) : Bxs w ((w1.heap.size, (k, n, t)) :: L) (w1.alloc (.cells #[.int .i64 k, .int .i64 n, .string t] 24)) :=
  ⟨fun p hp => by
    rcases List.mem_cons.1 hp with rfl | hp
    · exact heap_alloc_new w1 _
    · exact keep_box (h.1 p hp) ((Below.refl _ _).alloc (Nat.le_refl _) _), h.2.alloc h.2.size _⟩
theorem Bxs.get {w w1 : World} {L : List (Nat × V3)} (h : Bxs w L w1) {g : Nat} {k n : Int} {t : ByteArray} (hp : (g, (k, n, t)) ∈ L) : w1.cell? ⟨g, 0, none⟩ = some (.int .i64 k) ∧ w1.cell? ⟨g, 1, none⟩ = some (.int .i64 n) ∧ w1.cell? ⟨g, 2, none⟩ = some (.string t) ∧ g < w1.heap.size := by
  have hb := h.1 _ hp
  obtain ⟨a, b, c, _, _, _⟩ := box_facts hb
  exact ⟨a, b, c, lt_blk hb⟩
theorem three_pack (a b : T3) : ∃ C L X Y : V3,
    (∀ w, Calls Try.prog 19 #[.string gAnd, VV (tv a).1 (tv a).2.1 (tv a).2.2, VV (tv b).1 (tv b).2.1 (tv b).2.2] w fun e w' => e = .returned (VC C.1 C.2.1 C.2.2 0) ∧ Below w.heap.size w w') ∧
    (∀ w, Calls Try.prog 20 #[.string gAnd, VV (tv a).1 (tv a).2.1 (tv a).2.2, VV (tv b).1 (tv b).2.1 (tv b).2.2] w fun e w' => e = .returned (VC C.1 C.2.1 C.2.2 0) ∧ Below w.heap.size w w') ∧
    (∀ w, Calls Try.prog 21 #[.string sNot, VV C.1 C.2.1 C.2.2] w fun e w' => e = .returned (VC L.1 L.2.1 L.2.2 0) ∧ Below w.heap.size w w') ∧
    (∀ w, Calls Try.prog 21 #[.string sNot, VV (tv a).1 (tv a).2.1 (tv a).2.2] w fun e w' => e = .returned (VC X.1 X.2.1 X.2.2 0) ∧ Below w.heap.size w w') ∧
    (∀ w, Calls Try.prog 21 #[.string sNot, VV (tv b).1 (tv b).2.1 (tv b).2.2] w fun e w' => e = .returned (VC Y.1 Y.2.1 Y.2.2 0) ∧ Below w.heap.size w w') ∧
    (∀ w, Calls Try.prog 19 #[.string gOr, VV X.1 X.2.1 X.2.2, VV Y.1 Y.2.1 Y.2.2] w fun e w' => e = .returned (VC L.1 L.2.1 L.2.2 0) ∧ Below w.heap.size w w') := by
  refine ⟨tv (and3 a b), tv (not3 (and3 a b)), tv (not3 a), tv (not3 b), ?_, ?_, ?_, ?_, ?_, ?_⟩
  · intro w
    have := implBin_any gAnd (tv a).1 (tv a).2.1 (tv a).2.2 (tv b).1 (tv b).2.1 (tv b).2.2 w (by decide) (tv_small a).2 (tv_small b).2 (tv_small a).1 (tv_small b).1
    rw [and_t3] at this
    exact this
  · intro w
    have := specBin_any gAnd (tv a).1 (tv a).2.1 (tv a).2.2 (tv b).1 (tv b).2.1 (tv b).2.2 w (by decide) (tv_small a).1 (tv_small b).1
    rw [and_t3] at this
    exact this
  · intro w
    have := implUnary_any sNot (tv (and3 a b)).1 (tv (and3 a b)).2.1 (tv (and3 a b)).2.2 w (by decide) (tv_small (and3 a b)).2 (tv_small (and3 a b)).1
    rw [not_t3] at this
    exact this
  · intro w
    have := implUnary_any sNot (tv a).1 (tv a).2.1 (tv a).2.2 w (by decide) (tv_small a).2 (tv_small a).1
    rw [not_t3] at this
    exact this
  · intro w
    have := implUnary_any sNot (tv b).1 (tv b).2.1 (tv b).2.2 w (by decide) (tv_small b).2 (tv_small b).1
    rw [not_t3] at this
    exact this
  · intro w
    have := implBin_any gOr (tv (not3 a)).1 (tv (not3 a)).2.1 (tv (not3 a)).2.2 (tv (not3 b)).1 (tv (not3 b)).2.1 (tv (not3 b)).2.2 w (by decide) (tv_small (not3 a)).2 (tv_small (not3 b)).2 (tv_small (not3 a)).1 (tv_small (not3 b)).1
    rw [or_t3, ← morgan] at this
    exact this
abbrev threeO : Obj := .cells #[.int .i64 0, .int .i64 0, .string noT, .int .i64 1, .int .i64 0, .string noT, .int .i64 1, .int .i64 1, .string noT] 24
theorem three_at {w : World} {g m : Nat} (h : w.heap[g]? = some threeO) (hm : m < 3) : ∃ a : T3, w.cell? ⟨g, m * 3, none⟩ = some (.int .i64 (tv a).1) ∧ w.cell? ⟨g, m * 3 + 1, none⟩ = some (.int .i64 (tv a).2.1) ∧ w.cell? ⟨g, m * 3 + 2, none⟩ = some (.string (tv a).2.2) := by
  rcases (show m = 0 ∨ m = 1 ∨ m = 2 by omega) with rfl | rfl | rfl
  · exact ⟨.n, by simp [World.cell?, h, tv], by simp [World.cell?, h, tv], by simp [World.cell?, h, tv]⟩
  · exact ⟨.f, by simp [World.cell?, h, tv], by simp [World.cell?, h, tv], by simp [World.cell?, h, tv]⟩
  · exact ⟨.t, by simp [World.cell?, h, tv], by simp [World.cell?, h, tv], by simp [World.cell?, h, tv]⟩
theorem eq_same (k n : Int) (t : ByteArray) (w : World) : (Op.equalIn 10000 24 (VV k n t) (VV k n t)).run Try.prog w = .ok true w := by
  rw [eq_val]
  have : eqV3 (k, n, t) (k, n, t) = true := (eqV3_iff _ _).2 rfl
  rw [this]
theorem Code.keep {w w' : World} {a : Option Addr} {len : Nat} (h : Code w a len) (hb : Below w.heap.size w w') : Code w' a len := h.below hb (fun x e hl => h.lt hl x e)
set_option maxRecDepth 100000 in
set_option maxHeartbeats 16000000 in
theorem lawThree_small (a0 : Option Addr) (len0 cap0 : Nat) (a1 : Option Addr) (len1 cap1 : Nat) (w : World) (c0 : Code w a0 len0) (c1 : Code w a1 len1) (hl0 : len0 ≤ 1048576) (hl1 : len1 ≤ 1048576) :
    Calls Try.prog 4 #[.slice a0 len0 cap0, .slice a1 len1 cap1] w fun e w' => e = .returned (.bool true) ∧ Below w.heap.size w w' := by
  have H0 : Hid (∀ w', Below w.heap.size w w' → Code w' a0 len0) := fun w' b => c0.keep b
  have H1 : Hid (∀ w', Below w.heap.size w w' → Code w' a1 len1) := fun w' b => c1.keep b
  clear c0 c1
  have BW : Hid (Bxs w [] (w.alloc threeO)) := ⟨(fun p hp => by cases hp), (Below.refl _ _).alloc (Nat.le_refl _) _⟩
  have TB : Hid ((w.alloc threeO).heap[w.heap.size]? = some threeO) := heap_alloc_new w _
  have hat := at_any (cap := cap0) (H0.out _ BW.out.2) (by omega) 0 3 (by omega) (by omega) (by omega)
  go_enter Try.func4, Try.ntmps4
  go_wp2_with fail
  refine hat.mono ?_
  rintro e w1 ⟨r, rfl, hr0, hr1, b1⟩
  clear hat
  obtain ⟨m, rfl⟩ : ∃ m : Nat, r = (m : Int) := ⟨r.toNat, by omega⟩
  have T1 : Hid (w1.heap[w.heap.size]? = some threeO) := (b1.block _ (lt_blk TB.out)).trans TB.out
  have B1 : Hid (Bxs w [] w1) := BW.out.keep b1
  clear b1 BW TB hr0
  obtain ⟨ta, e0, e1, e2⟩ := three_at T1.out (m := m) (by omega)
  have hat := at_any (cap := cap1) (H1.out _ (B1.out.push (tv ta).1 (tv ta).2.1 (tv ta).2.2).2) (by omega) 0 3 (by omega) (by omega) (by omega)
  go_wp2_with fail
  refine hat.mono ?_
  rintro e w2 ⟨r, rfl, hr0, hr2, b2⟩
  clear hat
  obtain ⟨m2, rfl⟩ : ∃ m : Nat, r = (m : Int) := ⟨r.toNat, by omega⟩
  have T2 : Hid (w2.heap[w.heap.size]? = some threeO) := (b2.block _ (by have := lt_blk T1.out; simp; omega)).trans ((Below.heap_alloc _ _ _ (lt_blk T1.out)).trans T1.out)
  have B2 : Hid (Bxs w [(w1.heap.size, tv ta)] w2) := (B1.out.push (tv ta).1 (tv ta).2.1 (tv ta).2.2).keep b2
  clear b2 hr0 e0 e1 e2 B1 T1
  obtain ⟨tb, e0, e1, e2⟩ := three_at T2.out (m := m2) (by omega)
  clear T2
  obtain ⟨C, L, X, Y, hA, hS, hN, hX, hY, hO⟩ := three_pack ta tb
  generalize tv ta = A at *
  generalize tv tb = B at *
  obtain ⟨ak, an, aw⟩ := A
  obtain ⟨bk, bn, bw⟩ := B
  obtain ⟨ck, cn, cw⟩ := C
  obtain ⟨lk, ln, lw⟩ := L
  obtain ⟨xk, xn, xw⟩ := X
  obtain ⟨yk, yn, yw⟩ := Y
  have HA : Hid (∀ w, Calls Try.prog 19 #[.string gAnd, VV ak an aw, VV bk bn bw] w fun e w' => e = .returned (VC ck cn cw 0) ∧ Below w.heap.size w w') := hA
  have HS : Hid (∀ w, Calls Try.prog 20 #[.string gAnd, VV ak an aw, VV bk bn bw] w fun e w' => e = .returned (VC ck cn cw 0) ∧ Below w.heap.size w w') := hS
  have HN : Hid (∀ w, Calls Try.prog 21 #[.string sNot, VV ck cn cw] w fun e w' => e = .returned (VC lk ln lw 0) ∧ Below w.heap.size w w') := hN
  have HX : Hid (∀ w, Calls Try.prog 21 #[.string sNot, VV ak an aw] w fun e w' => e = .returned (VC xk xn xw 0) ∧ Below w.heap.size w w') := hX
  have HY : Hid (∀ w, Calls Try.prog 21 #[.string sNot, VV bk bn bw] w fun e w' => e = .returned (VC yk yn yw 0) ∧ Below w.heap.size w w') := hY
  have HO : Hid (∀ w, Calls Try.prog 19 #[.string gOr, VV xk xn xw, VV yk yn yw] w fun e w' => e = .returned (VC lk ln lw 0) ∧ Below w.heap.size w w') := hO
  clear hA hS hN hX hY hO
  simp only at e0 e1 e2
  obtain ⟨p0a, p0b, p0c, p0l⟩ := B2.out.get (g := w1.heap.size) (k := ak) (n := an) (t := aw) (by simp)
  have BP : Hid (Bxs w ((w2.heap.size, (bk, bn, bw)) :: [(w1.heap.size, (ak, an, aw))]) (w2.alloc (.cells #[.int .i64 bk, .int .i64 bn, .string bw] 24))) := B2.out.push _ _ _
  go_wp2_with fail
  refine (HA.out _).mono ?_
  rintro e w3 ⟨rfl, b3⟩
  have B3 : Hid (Bxs w ((w2.heap.size, (bk, bn, bw)) :: [(w1.heap.size, (ak, an, aw))]) w3) := BP.out.keep b3
  clear e0 e1 e2 HA b3 BP B2 p0a p0b p0c p0l
  obtain ⟨p0a, p0b, p0c, p0l⟩ := B3.out.get (g := w1.heap.size) (k := ak) (n := an) (t := aw) (by simp)
  obtain ⟨p1a, p1b, p1c, p1l⟩ := B3.out.get (g := w2.heap.size) (k := bk) (n := bn) (t := bw) (by simp)
  have BP : Hid (Bxs w ((w3.heap.size, (ck, cn, cw)) :: (w2.heap.size, (bk, bn, bw)) :: [(w1.heap.size, (ak, an, aw))]) (w3.alloc (.cells #[.int .i64 ck, .int .i64 cn, .string cw] 24))) := B3.out.push _ _ _
  go_wp2_with fail
  refine (HS.out _).mono ?_
  rintro e w4 ⟨rfl, b4⟩
  have B4 : Hid (Bxs w ((w3.heap.size, (ck, cn, cw)) :: (w2.heap.size, (bk, bn, bw)) :: [(w1.heap.size, (ak, an, aw))]) w4) := BP.out.keep b4
  clear HS b4 BP B3 p0a p0b p0c p0l p1a p1b p1c p1l
  obtain ⟨p0a, p0b, p0c, p0l⟩ := B4.out.get (g := w3.heap.size) (k := ck) (n := cn) (t := cw) (by simp)
  have BP : Hid (Bxs w ((w4.heap.size, (ck, cn, cw)) :: (w3.heap.size, (ck, cn, cw)) :: (w2.heap.size, (bk, bn, bw)) :: [(w1.heap.size, (ak, an, aw))]) (w4.alloc (.cells #[.int .i64 ck, .int .i64 cn, .string cw] 24))) := B4.out.push _ _ _
  go_wp2_with fail
  refine (HN.out _).mono ?_
  rintro e w5 ⟨rfl, b5⟩
  have B5 : Hid (Bxs w ((w4.heap.size, (ck, cn, cw)) :: (w3.heap.size, (ck, cn, cw)) :: (w2.heap.size, (bk, bn, bw)) :: [(w1.heap.size, (ak, an, aw))]) w5) := BP.out.keep b5
  clear HN b5 BP B4 p0a p0b p0c p0l
  obtain ⟨p0a, p0b, p0c, p0l⟩ := B5.out.get (g := w1.heap.size) (k := ak) (n := an) (t := aw) (by simp)
  have BP : Hid (Bxs w ((w5.heap.size, (lk, ln, lw)) :: (w4.heap.size, (ck, cn, cw)) :: (w3.heap.size, (ck, cn, cw)) :: (w2.heap.size, (bk, bn, bw)) :: [(w1.heap.size, (ak, an, aw))]) (w5.alloc (.cells #[.int .i64 lk, .int .i64 ln, .string lw] 24))) := B5.out.push _ _ _
  go_wp2_with fail
  refine (HX.out _).mono ?_
  rintro e w6 ⟨rfl, b6⟩
  have B6 : Hid (Bxs w ((w5.heap.size, (lk, ln, lw)) :: (w4.heap.size, (ck, cn, cw)) :: (w3.heap.size, (ck, cn, cw)) :: (w2.heap.size, (bk, bn, bw)) :: [(w1.heap.size, (ak, an, aw))]) w6) := BP.out.keep b6
  clear HX b6 BP B5 p0a p0b p0c p0l
  obtain ⟨p0a, p0b, p0c, p0l⟩ := B6.out.get (g := w2.heap.size) (k := bk) (n := bn) (t := bw) (by simp)
  have BP : Hid (Bxs w ((w6.heap.size, (xk, xn, xw)) :: (w5.heap.size, (lk, ln, lw)) :: (w4.heap.size, (ck, cn, cw)) :: (w3.heap.size, (ck, cn, cw)) :: (w2.heap.size, (bk, bn, bw)) :: [(w1.heap.size, (ak, an, aw))]) (w6.alloc (.cells #[.int .i64 xk, .int .i64 xn, .string xw] 24))) := B6.out.push _ _ _
  go_wp2_with fail
  refine (HY.out _).mono ?_
  rintro e w7 ⟨rfl, b7⟩
  have B7 : Hid (Bxs w ((w6.heap.size, (xk, xn, xw)) :: (w5.heap.size, (lk, ln, lw)) :: (w4.heap.size, (ck, cn, cw)) :: (w3.heap.size, (ck, cn, cw)) :: (w2.heap.size, (bk, bn, bw)) :: [(w1.heap.size, (ak, an, aw))]) w7) := BP.out.keep b7
  clear HY b7 BP B6 p0a p0b p0c p0l
  obtain ⟨p0a, p0b, p0c, p0l⟩ := B7.out.get (g := w6.heap.size) (k := xk) (n := xn) (t := xw) (by simp)
  have BP : Hid (Bxs w ((w7.heap.size, (yk, yn, yw)) :: (w6.heap.size, (xk, xn, xw)) :: (w5.heap.size, (lk, ln, lw)) :: (w4.heap.size, (ck, cn, cw)) :: (w3.heap.size, (ck, cn, cw)) :: (w2.heap.size, (bk, bn, bw)) :: [(w1.heap.size, (ak, an, aw))]) (w7.alloc (.cells #[.int .i64 yk, .int .i64 yn, .string yw] 24))) := B7.out.push _ _ _
  go_wp2_with fail
  refine (HO.out _).mono ?_
  rintro e w8 ⟨rfl, b8⟩
  have B8 : Hid (Bxs w ((w7.heap.size, (yk, yn, yw)) :: (w6.heap.size, (xk, xn, xw)) :: (w5.heap.size, (lk, ln, lw)) :: (w4.heap.size, (ck, cn, cw)) :: (w3.heap.size, (ck, cn, cw)) :: (w2.heap.size, (bk, bn, bw)) :: [(w1.heap.size, (ak, an, aw))]) w8) := BP.out.keep b8
  clear HO b8 BP B7 p0a p0b p0c p0l
  obtain ⟨p0a, p0b, p0c, p0l⟩ := B8.out.get (g := w3.heap.size) (k := ck) (n := cn) (t := cw) (by simp)
  obtain ⟨p1a, p1b, p1c, p1l⟩ := B8.out.get (g := w4.heap.size) (k := ck) (n := cn) (t := cw) (by simp)
  obtain ⟨p2a, p2b, p2c, p2l⟩ := B8.out.get (g := w5.heap.size) (k := lk) (n := ln) (t := lw) (by simp)
  have q1 := fun W => eq_same ck cn cw W
  have q2 := fun W => eq_same lk ln lw W
  have BP : Hid (Bxs w ((w8.heap.size, (lk, ln, lw)) :: (w7.heap.size, (yk, yn, yw)) :: (w6.heap.size, (xk, xn, xw)) :: (w5.heap.size, (lk, ln, lw)) :: (w4.heap.size, (ck, cn, cw)) :: (w3.heap.size, (ck, cn, cw)) :: (w2.heap.size, (bk, bn, bw)) :: [(w1.heap.size, (ak, an, aw))]) (w8.alloc (.cells #[.int .i64 lk, .int .i64 ln, .string lw] 24))) := B8.out.push _ _ _
  have hv := valueOf_any (cap := cap0) (H0.out _ BP.out.2) (by omega)
  go_wp2_with fail
  refine hv.mono ?_
  rintro e w9 ⟨k, n, t, rfl, ok1, hn, ht, b9⟩
  have B9 : Hid (Bxs w [] w9) := ⟨(fun p hp => by cases hp), (BP.out.keep b9).2⟩
  have OK1 : Hid (okV k n t = true ∧ In64 n ∧ t.size ≤ 8) := ⟨ok1, hn, ht⟩
  clear b9 BP B8 hv ok1 hn ht q1 q2 p0a p0b p0c p0l p1a p1b p1c p1l p2a p2b p2c p2l
  have BP : Hid (Bxs w [(w9.heap.size, (k, n, t))] (w9.alloc (.cells #[.int .i64 k, .int .i64 n, .string t] 24))) := B9.out.push _ _ _
  have hv := valueOf_any (cap := cap1) (H1.out _ BP.out.2) (by omega)
  go_wp2_with fail
  refine hv.mono ?_
  rintro e w10 ⟨k2, n2, t2, rfl, ok2, hn2, ht2, b10⟩
  have B10 : Hid (Bxs w [(w9.heap.size, (k, n, t))] w10) := BP.out.keep b10
  have OK2 : Hid (okV k2 n2 t2 = true ∧ In64 n2 ∧ t2.size ≤ 8) := ⟨ok2, hn2, ht2⟩
  clear b10 BP B9 hv ok2 hn2 ht2 H0
  obtain ⟨p0a, p0b, p0c, p0l⟩ := B10.out.get (g := w9.heap.size) (k := k) (n := n) (t := t) (by simp)
  have BP : Hid (Bxs w [(w10.heap.size, (k2, n2, t2)), (w9.heap.size, (k, n, t))] (w10.alloc (.cells #[.int .i64 k2, .int .i64 n2, .string t2] 24))) := B10.out.push _ _ _
  by_cases hk : k = k2
  · subst hk
    have BQ : Hid (Bxs w [(w10.heap.size, (k, n2, t2)), (w9.heap.size, (k, n, t))] (((w10.alloc (.cells #[.int .i64 k, .int .i64 n2, .string t2] 24)).alloc (.cells #[.string gEq, .string gLt, .string gLe] 9)).alloc (.cells #[.string gNe, .string gGe, .string gGt] 9))) := (BP.out.keep ((Below.refl _ _).alloc (Nat.le_refl _) _)).keep ((Below.refl _ _).alloc (Nat.le_refl _) _)
    have SQ : Hid ((((w10.alloc (.cells #[.int .i64 k, .int .i64 n2, .string t2] 24)).alloc (.cells #[.string gEq, .string gLt, .string gLe] 9)).alloc (.cells #[.string gNe, .string gGe, .string gGt] 9)).heap[w10.heap.size + 1]? = some (.cells #[.string gEq, .string gLt, .string gLe] 9) ∧ (((w10.alloc (.cells #[.int .i64 k, .int .i64 n2, .string t2] 24)).alloc (.cells #[.string gEq, .string gLt, .string gLe] 9)).alloc (.cells #[.string gNe, .string gGe, .string gGt] 9)).heap[w10.heap.size + 1 + 1]? = some (.cells #[.string gNe, .string gGe, .string gGt] 9)) := ⟨(blk3 w10 _ _ _).2.1, (blk3 w10 _ _ _).2.2⟩
    have hat := at_any (cap := cap1) (H1.out _ BQ.out.2) (by omega) 1 3 (by omega) (by omega) (by omega)
    go_wp2_with fail
    refine hat.mono ?_
    rintro e w11 ⟨r, rfl, hr0, hr3, b11⟩
    clear hat p0a p0b p0c p0l
    obtain ⟨m3, rfl⟩ : ∃ m : Nat, r = (m : Int) := ⟨r.toNat, by omega⟩
    have B11 : Hid (Bxs w [(w10.heap.size, (k, n2, t2)), (w9.heap.size, (k, n, t))] w11) := BQ.out.keep b11
    have hm3 : m3 < 3 := by omega
    obtain ⟨sg, og, p, q, O, cs, co⟩ : ∃ sg og p q, Opp sg og p q ∧ w11.cell? ⟨w10.heap.size + 1, m3, none⟩ = some (.string sg) ∧ w11.cell? ⟨w10.heap.size + 1 + 1, m3, none⟩ = some (.string og) := by
      have g1 := (b11.block _ (lt_blk SQ.out.1)).trans SQ.out.1
      have g2 := (b11.block _ (lt_blk SQ.out.2)).trans SQ.out.2
      rcases (show m3 = 0 ∨ m3 = 1 ∨ m3 = 2 by omega) with rfl | rfl | rfl
      · exact ⟨_, _, _, _, opp0, by simp [World.cell?, g1], by simp [World.cell?, g2]⟩
      · exact ⟨_, _, _, _, opp1, by simp [World.cell?, g1], by simp [World.cell?, g2]⟩
      · exact ⟨_, _, _, _, opp2, by simp [World.cell?, g1], by simp [World.cell?, g2]⟩
    have CS : Hid (w11.cell? ⟨w10.heap.size + 1, m3, none⟩ = some (.string sg) ∧ w11.cell? ⟨w10.heap.size + 1 + 1, m3, none⟩ = some (.string og) ∧ w10.heap.size + 1 + 1 < w11.heap.size) := ⟨cs, co, Nat.lt_of_lt_of_le (lt_blk SQ.out.2) b11.size⟩
    obtain ⟨⟨pk, pn, pt⟩, ⟨qk, qn, qt⟩, ⟨nk, nn, nt⟩, z1, z2, z3, z4, z5, z6, z7⟩ := opp_math O OK1.out.1 OK2.out.1
    have t8 : t.size ≤ maxLen := by have := OK1.out.2.2; unfold maxLen; omega
    have t9 : t2.size ≤ maxLen := by have := OK2.out.2.2; unfold maxLen; omega
    have HP : Hid (∀ w, Calls Try.prog 19 #[.string sg, VV k n t, VV k n2 t2] w fun e w' => e = .returned (VC pk pn pt 0) ∧ Below w.heap.size w w') := fun w => by
      have := implBin_any sg k n t k n2 t2 w O.m.1 t8 t9 OK1.out.2.1 OK2.out.2.1
      rw [z1] at this
      exact this
    have HQ : Hid (∀ w, Calls Try.prog 19 #[.string og, VV k n t, VV k n2 t2] w fun e w' => e = .returned (VC qk qn qt 0) ∧ Below w.heap.size w w') := fun w => by
      have := implBin_any og k n t k n2 t2 w O.m.2 t8 t9 OK1.out.2.1 OK2.out.2.1
      rw [z2] at this
      exact this
    have HN : Hid (∀ w, Calls Try.prog 21 #[.string sNot, VV pk pn pt] w fun e w' => e = .returned (VC qk qn qt 0) ∧ Below w.heap.size w w') := fun w => by
      have := implUnary_any sNot pk pn pt w (by decide) z7 z6
      rw [z3] at this
      exact this
    have HU : Hid (∀ w, Calls Try.prog 21 #[.string sNul, VV pk pn pt] w fun e w' => e = .returned (VC nk nn nt 0) ∧ Below w.heap.size w w') := fun w => by
      have := implUnary_any sNul pk pn pt w (by decide) z7 z6
      rw [z4] at this
      exact this
    have HB : Hid ((nn == 1) = (k == 0)) := z5
    clear O cs co z1 z2 z3 z4 z5 z6 z7 t8 t9 b11 BQ SQ BP B10 OK1 OK2 hr0 H1 hm3
    go_wp2_with fail
    refine regt21 w11 sg m3 (w10.heap.size + 1) w9.heap.size w10.heap.size k n t k n2 t2 pk pn pt 0 _ _ _ _ _ _ _ _ _ _ _ _ _ _ _ _ _ _ _ _ _ _ _ _ _ _ _ _ _ _ _ _ _ _ _ _ _ _ _ _ _ _ _ _ _ _ _ _ _ _ _ _ _ _ _ _ _ _ _ _ _ _ _ _ _ _ _ _ _ _ _ _ _ _ _ _ _ _ _ _ _ _ _ _ _ _ _ _ _ _ _ _ _ _ _ _ _ _ _ _ _ _ _ _ _ _ _ _ _ _ _ _ _ _ _ _ _ _ _ _ _ _ _ _ _ _ _ _ _ _ _ _ _ _ _ _ _ _ _ _ _ _ _ _ _ _ _ _ _ _ _ _ _ _ _ _ _ _ _ _ _ _ _ _ _ _ _ (by omega) (by have := CS.out.2.2; omega) CS.out.1 (B11.out.1 (w9.heap.size, (k, n, t)) (by simp)) (B11.out.1 (w10.heap.size, (k, n2, t2)) (by simp)) HP.out ?_
    intro x0 x1 x2 x3 x4 x5 x6 x7 x8 x9 Y1 w12 hY1 hY1b b12
    have B12 : Hid (Bxs w [(w10.heap.size, (k, n2, t2)), (w9.heap.size, (k, n, t))] w12) := B11.out.keep b12
    have R12 : Hid (BoxV w12 Y1 pk pn pt) := hY1
    have C12 : Hid (w12.cell? ⟨w10.heap.size + 1 + 1, m3, none⟩ = some (.string og) ∧ w10.heap.size + 1 + 1 < w12.heap.size) := ⟨(b12.cell (p := ⟨w10.heap.size + 1 + 1, m3, none⟩) CS.out.2.2).trans CS.out.2.1, Nat.lt_of_lt_of_le CS.out.2.2 b12.size⟩
    clear hY1 hY1b b12 B11 CS HP
    go_wp2_with fail
    refine regt22 w12 og m3 (w10.heap.size + 1 + 1) w9.heap.size w10.heap.size k n t k n2 t2 qk qn qt 0 _ _ _ _ _ _ _ _ _ _ _ _ _ _ _ _ _ _ _ _ _ _ _ _ _ _ _ _ _ _ _ _ _ _ _ _ _ _ _ _ _ _ _ _ _ _ _ _ _ _ _ _ _ _ _ _ _ _ _ _ _ _ _ _ _ _ _ _ _ _ _ _ _ _ _ _ _ _ _ _ _ _ _ _ _ _ _ _ _ _ _ _ _ _ _ _ _ _ _ _ _ _ _ _ _ _ _ _ _ _ _ _ _ _ _ _ _ _ _ _ _ _ _ _ _ _ _ _ _ _ _ _ _ _ _ _ _ _ _ _ _ _ _ _ _ _ _ _ _ _ _ _ _ _ _ _ _ _ _ _ _ _ _ _ _ _ _ (by omega) C12.out.2 C12.out.1 (B12.out.1 (w9.heap.size, (k, n, t)) (by simp)) (B12.out.1 (w10.heap.size, (k, n2, t2)) (by simp)) HQ.out ?_
    intro y0 y1 y2 y3 y4 y5 y6 y7 y8 y9 Y2 w13 hY2 hY2b b13
    have B13 : Hid (Bxs w [(Y2, (qk, qn, qt)), (Y1, (pk, pn, pt)), (w9.heap.size, (k, n, t))] w13) := ⟨fun p hp => by
      simp only [List.mem_cons, List.not_mem_nil, or_false] at hp
      rcases hp with rfl | rfl | rfl
      · exact hY2
      · exact keep_box R12.out b13
      · exact keep_box (B12.out.1 (w9.heap.size, (k, n, t)) (by simp)) b13, (B12.out.keep b13).2⟩
    clear hY2 hY2b b13 B12 C12 R12 HQ
    obtain ⟨p0a, p0b, p0c, p0l⟩ := B13.out.get (g := Y1) (k := pk) (n := pn) (t := pt) (by simp)
    go_wp2_with fail
    refine (HN.out _).mono ?_
    rintro e w14 ⟨rfl, b14⟩
    have B14 : Hid (Bxs w [(Y2, (qk, qn, qt)), (Y1, (pk, pn, pt)), (w9.heap.size, (k, n, t))] w14) := B13.out.keep b14
    clear b14 B13 HN p0a p0b p0c p0l
    obtain ⟨p0a, p0b, p0c, p0l⟩ := B14.out.get (g := Y1) (k := pk) (n := pn) (t := pt) (by simp)
    have BP := B14.out.push qk qn qt
    go_wp2_with fail
    refine (HU.out _).mono ?_
    rintro e w15 ⟨rfl, b15⟩
    have B15 : Hid (Bxs w _ w15) := BP.keep b15
    clear b15 B14 HU BP p0a p0b p0c p0l
    obtain ⟨p0a, p0b, p0c, p0l⟩ := B15.out.get (g := w14.heap.size) (k := qk) (n := qn) (t := qt) (by simp)
    obtain ⟨p1a, p1b, p1c, p1l⟩ := B15.out.get (g := Y2) (k := qk) (n := qn) (t := qt) (by simp)
    obtain ⟨p2a, p2b, p2c, p2l⟩ := B15.out.get (g := w9.heap.size) (k := k) (n := n) (t := t) (by simp)
    have q1 := fun W => eq_same qk qn qt W
    have BE : Hid (Below w.heap.size w (w15.alloc (.cells #[.int .i64 nk, .int .i64 nn, .string nt] 24))) := B15.out.2.alloc B15.out.2.size _
    clear B15
    cases h0 : (k == 0)
    all_goals
      have hnn := HB.out
      rw [h0] at hnn
      clear HB
      go_wp2_with fail
      go_ret
      exact ⟨rfl, BE.out⟩
  · have hk' : (k != k2) = true := by simpa using hk
    go_wp2_with fail
    go_ret
    exact ⟨rfl, BP.out.2⟩
end Go.Proofs.Yteloioopkndcmaa
