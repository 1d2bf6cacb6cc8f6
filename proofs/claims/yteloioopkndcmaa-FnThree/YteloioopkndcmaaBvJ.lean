/- Binary signs: impl's BinaryValue (stage 12). -/
import Derived.Test.YteloioopkndcmaaBvI
namespace Go.Proofs.Yteloioopkndcmaa
open Go.RowKit

/-- What BinaryValue reads and writes. -/
abbrev BiS (w : World) (k n : Int) (t : ByteArray) (k2 n2 : Int) (t2 : ByteArray) (w' : World) : Prop :=
  (w'.cell? ⟨w.heap.size, 0, none⟩ = some (.int .i64 k) ∧ w'.cell? ⟨w.heap.size, 1, none⟩ = some (.int .i64 n) ∧ w'.cell? ⟨w.heap.size, 2, none⟩ = some (.string t)) ∧
  (w'.cell? ⟨w.heap.size + 1, 0, none⟩ = some (.int .i64 k2) ∧ w'.cell? ⟨w.heap.size + 1, 1, none⟩ = some (.int .i64 n2) ∧ w'.cell? ⟨w.heap.size + 1, 2, none⟩ = some (.string t2)) ∧
  (w'.cell? ⟨w.heap.size + 1 + 1, 0, none⟩ = some (.int .i64 0) ∧ w'.cell? ⟨w.heap.size + 1 + 1, 1, none⟩ = some (.int .i64 0) ∧ w'.cell? ⟨w.heap.size + 1 + 1, 2, none⟩ = some (.string noT)) ∧
  (w'.frozen? ⟨w.heap.size + 1 + 1, 0, none⟩ = false ∧ w'.frozen? ⟨w.heap.size + 1 + 1, 1, none⟩ = false ∧ w'.frozen? ⟨w.heap.size + 1 + 1, 2, none⟩ = false) ∧
  Hid (w.heap.size + 1 + 1 < w'.heap.size ∧ Below w.heap.size w w' ∧ (BoxV w' w.heap.size k n t ∧ BoxV w' (w.heap.size + 1) k2 n2 t2 ∧ BoxV w' (w.heap.size + 1 + 1) 0 0 noT))
theorem BiS.mk {w w' : World} {k n : Int} {t : ByteArray} {k2 n2 : Int} {t2 : ByteArray}
    (q : w.heap.size + 1 + 1 < w'.heap.size ∧ Below w.heap.size w w' ∧ (BoxV w' w.heap.size k n t ∧ BoxV w' (w.heap.size + 1) k2 n2 t2 ∧ BoxV w' (w.heap.size + 1 + 1) 0 0 noT)) : BiS w k n t k2 n2 t2 w' := by
  obtain ⟨a0, a1, a2, _, _, _⟩ := box_facts q.2.2.1
  obtain ⟨b0, b1, b2, _, _, _⟩ := box_facts q.2.2.2.1
  obtain ⟨c0, c1, c2, c3, c4, c5⟩ := box_facts q.2.2.2.2
  exact ⟨⟨a0, a1, a2⟩, ⟨b0, b1, b2⟩, ⟨c0, c1, c2⟩, ⟨c3, c4, c5⟩, q⟩
theorem BiS.keep {w w1 w2 : World} {k n : Int} {t : ByteArray} {k2 n2 : Int} {t2 : ByteArray} (q : BiS w k n t k2 n2 t2 w1) (hb : Below w1.heap.size w1 w2) : BiS w k n t k2 n2 t2 w2 := by
  obtain ⟨_, _, _, _, ⟨h1, h2, h3, h4, h5⟩⟩ := q
  exact BiS.mk ⟨Nat.lt_of_lt_of_le h1 hb.size, h2.trans (hb.mono h2.size), (hb.block _ (by omega)).trans h3, (hb.block _ (by omega)).trans h4, (hb.block _ h1).trans h5⟩
theorem BiS.start (w : World) (k n : Int) (t : ByteArray) (k2 n2 : Int) (t2 : ByteArray) : BiS w k n t k2 n2 t2 (((w.alloc (.cells #[.int .i64 k, .int .i64 n, .string t] 24)).alloc (.cells #[.int .i64 k2, .int .i64 n2, .string t2] 24)).alloc (.cells #[.int .i64 0, .int .i64 0, .string noT] 24)) :=
  BiS.mk ⟨by simp, below3 w _ _ _, (blk3 w _ _ _).1, (blk3 w _ _ _).2.1, (blk3 w _ _ _).2.2⟩
theorem row2 {w : World} {g : Nat} {k n : Int} {t : ByteArray} {k2 n2 : Int} {t2 : ByteArray} (h : w.heap[g]? = some (.cells #[.int .i64 k, .int .i64 n, .string t, .int .i64 k2, .int .i64 n2, .string t2] 24 (0, 0))) (ht : t.size ≤ maxLen) (ht2 : t2.size ≤ maxLen) : RowV w (some ⟨g, 0, none⟩) [(k, n, t), (k2, n2, t2)] := fun i hi => by
  simp at hi
  rcases (show i = 0 ∨ i = 1 by omega) with rfl | rfl
  · exact ⟨g, 0, rfl, lt_blk h, ⟨by simp [World.cell?, h, nthV], by simp [World.cell?, h, nthV], by simp [World.cell?, h, nthV]⟩, ht⟩
  · exact ⟨g, 0, rfl, lt_blk h, ⟨by simp [World.cell?, h, nthV], by simp [World.cell?, h, nthV], by simp [World.cell?, h, nthV]⟩, ht2⟩
def fit2 (l k k2 : Int) : Bool := fitK k (opK l k) && fitK k2 (opK l k)
theorem fit2_any (l : Int) (v u : V3) : (!([v, u].any fun x => !fitK x.1 (opK l (nthV [v, u] 0).1))) = fit2 l v.1 u.1 := by simp [nthV, fit2]
/-- What BinaryValue answers of a sign that is found, with the level l and the work X. -/
def biX (l : Int) (k n : Int) (t : ByteArray) (k2 n2 : Int) (t2 : ByteArray) (X : V3 × Int) : V3 × Int := if okV k n t = false ∨ okV k2 n2 t2 = false then zA 1 else if fit2 l k k2 = false then zA 10 else X
set_option maxRecDepth 100000 in
theorem implBin_long (s : ByteArray) (k n : Int) (t : ByteArray) (k2 n2 : Int) (t2 : ByteArray) (w : World) (hs : 65536 < s.size) (hm : s.size ≤ maxLen) :
    Calls Try.prog 19 #[.string s, VV k n t, VV k2 n2 t2] w fun e w' => e = .returned (ansV (zA 2)) ∧ Below w.heap.size w w' := by
  unfold maxLen at hm
  go_enter Try.func19, Try.ntmps19
  go_wp2_with fail
  exact bodyPost_ret (v := VC 0 0 noT 2) (by simp [results, Try.results19, go_sem]) rfl ⟨rfl, below3 w _ _ _⟩
set_option maxRecDepth 100000 in
theorem implBin_none (s : ByteArray) (k n : Int) (t : ByteArray) (k2 n2 : Int) (t2 : ByteArray) (w : World) (hs : s.size ≤ 65536) (hf : ∀ p ∈ BTab, s ≠ p.1) :
    Calls Try.prog 19 #[.string s, VV k n t, VV k2 n2 t2] w fun e w' => e = .returned (ansV (zA 1)) ∧ Below w.heap.size w w' := by
  have S0 : Hid (BiS w k n t k2 n2 t2 _) := BiS.start w k n t k2 n2 t2
  have hu := binarySigns_any (((w.alloc (.cells #[.int .i64 k, .int .i64 n, .string t] 24)).alloc (.cells #[.int .i64 k2, .int .i64 n2, .string t2] 24)).alloc (.cells #[.int .i64 0, .int .i64 0, .string noT] 24))
  have HL : Hid (∀ w1 b f, SgI w1 b 13 f BTab → (Instr.lookup 60 (.map (some b)) (.string s) true).run Try.prog w1 = .ok (.tuple #[.nilFunc, .bool false]) w1) := fun w1 b f M => by
    have := M.1.look Try.underlying60 (Try.zeroValue58 w1) s (by unfold maxLen; omega)
    rw [M.2.2 s hf] at this
    exact this
  clear hf
  go_enter Try.func19, Try.ntmps19
  go_wp2_with fail
  refine hu.mono ?_
  rintro e w1 ⟨b, f, rfl, M, b1⟩
  have hl := HL.out w1 b f M
  have S1 := BiS.keep S0.out b1
  obtain ⟨_, _, ⟨v0, v1, v2⟩, ⟨y0, y1, y2⟩, HX⟩ := S1
  clear M b1 HL S0 hu
  go_wp2_with fail
  obtain ⟨q0, q1, q2, _, _, _⟩ := box_facts (box_set HX.out.2.2.2.2 0 0 noT)
  exact bodyPost_ret (v := VC 0 0 noT 1) (by simp [results, Try.results19, go_sem, q0, q1, q2]) rfl ⟨rfl, below_set3 HX.out.2.1 (by omega) _ _ _⟩
set_option maxRecDepth 100000 in
set_option maxHeartbeats 4000000 in
theorem implBin_found (s : ByteArray) (F : V3 → V3 → V3 × Int) (l : Int) (k n : Int) (t : ByteArray) (k2 n2 : Int) (t2 : ByteArray) (w : World) (hs : s.size ≤ 65536) (ht : t.size ≤ maxLen) (ht2 : t2.size ≤ maxLen) (hn : In64 n) (hn2 : In64 n2) (hf : (s, F) ∈ BTab)
    (hL : ∀ w, Calls Try.prog 40 #[.string s] w fun e w' => e = .returned (.int .i64 l) ∧ w' = w) :
    Calls Try.prog 19 #[.string s, VV k n t, VV k2 n2 t2] w fun e w' => e = .returned (ansV (biX l k n t k2 n2 t2 (F (k, n, t) (k2, n2, t2)))) ∧ Below w.heap.size w w' := by
  have S0 : Hid (BiS w k n t k2 n2 t2 _) := BiS.start w k n t k2 n2 t2
  have hu := binarySigns_any (((w.alloc (.cells #[.int .i64 k, .int .i64 n, .string t] 24)).alloc (.cells #[.int .i64 k2, .int .i64 n2, .string t2] 24)).alloc (.cells #[.int .i64 0, .int .i64 0, .string noT] 24))
  have HL : Hid (∀ w1 b f, SgI w1 b 13 f BTab → ∃ g cap, (Instr.lookup 60 (.map (some b)) (.string s) true).run Try.prog w1 = .ok (.tuple #[.func (.func g) #[] cap, .bool true]) w1 ∧ Ent g ∧
      Hid (∀ u', Keeps b w1 u' → Calls Try.prog g (#[VV k n t, VV k2 n2 t2] ++ cap) u' fun e u'' => e = .returned (ansV (F (k, n, t) (k2, n2, t2))) ∧ Below u'.heap.size u' u'')) := fun w1 b f M => by
    have := M.1.look Try.underlying60 (Try.zeroValue58 w1) s (by unfold maxLen; omega)
    obtain ⟨v, e, g, cap, rfl, hE, hc⟩ := M.2.1 _ hf
    rw [e] at this
    exact ⟨g, cap, this, hE, fun u' K => hc u' K (k, n, t) (k2, n2, t2) hn hn2⟩
  have HK : Hid (∀ w1, Calls Try.prog 38 #[VV k n t] w1 fun e w' => e = .returned (.bool (okV k n t)) ∧ Below w1.heap.size w1 w') := fun w1 => implValueOK_any k n t w1
  have HK2 : Hid (∀ w1, Calls Try.prog 38 #[VV k2 n2 t2] w1 fun e w' => e = .returned (.bool (okV k2 n2 t2)) ∧ Below w1.heap.size w1 w') := fun w1 => implValueOK_any k2 n2 t2 w1
  have HLv : Hid (∀ w, Calls Try.prog 40 #[.string s] w fun e w' => e = .returned (.int .i64 l) ∧ w' = w) := hL
  have HO : Hid (∀ w1 b, w1.heap[b]? = some (.cells #[.int .i64 k, .int .i64 n, .string t, .int .i64 k2, .int .i64 n2, .string t2] 24 (0, 0)) → Calls Try.prog 39 #[.int .i64 l, .slice (some ⟨b, 0, none⟩) 2 2] w1 fun e w' => e = .returned (.bool (fit2 l k k2)) ∧ Below w1.heap.size w1 w') := fun w1 b hb => by
    have := operandsFit_any l [(k, n, t), (k2, n2, t2)] _ 2 w1 (row2 hb ht ht2) (by simp) (by simp [maxLen])
    rw [fit2_any] at this
    exact this
  have HX0 : Hid (biX l k n t k2 n2 t2 (F (k, n, t) (k2, n2, t2)) = if okV k n t = false ∨ okV k2 n2 t2 = false then zA 1 else if fit2 l k k2 = false then zA 10 else F (k, n, t) (k2, n2, t2)) := rfl
  generalize F (k, n, t) (k2, n2, t2) = X at *
  generalize biX l k n t k2 n2 t2 X = Y at *
  generalize okV k n t = ok at *
  generalize okV k2 n2 t2 = ok2 at *
  generalize fit2 l k k2 = ft at *
  obtain ⟨⟨xk, xn, xt⟩, xc⟩ := X
  clear hf hL ht ht2 hn hn2
  go_enter Try.func19, Try.ntmps19
  go_wp2_with fail
  refine hu.mono ?_
  rintro e w1 ⟨b, f, rfl, M, b1⟩
  obtain ⟨g, cap, hl, hE, HG⟩ := HL.out w1 b f M
  unfold Ent at hE
  have S1 : Hid (BiS w k n t k2 n2 t2 w1) := BiS.keep S0.out b1
  obtain ⟨⟨u0, u1, u2⟩, _, _, _, _⟩ := S1.out
  clear M b1 HL S0 hu
  go_wp2_with fail
  refine (HK.out w1).mono ?_
  rintro e w2 ⟨rfl, b2⟩
  have S2 : Hid (BiS w k n t k2 n2 t2 w2) := BiS.keep S1.out b2
  have K2 : Hid (Keeps b w1 w2) := Keeps.of_below b2
  clear b2 S1 u0 u1 u2 hl HK
  cases ok with
  | false =>
    obtain ⟨_, _, ⟨v0, v1, v2⟩, ⟨y0, y1, y2⟩, HX⟩ := S2.out
    have HY : Hid (Y = zA 1) := HX0.out.trans (if_pos (.inl rfl))
    go_wp2_with fail
    obtain ⟨q0, q1, q2, _, _, _⟩ := box_facts (box_set HX.out.2.2.2.2 0 0 noT)
    exact bodyPost_ret (v := VC 0 0 noT 1) (by simp [results, Try.results19, go_sem, q0, q1, q2]) rfl ⟨by rw [HY.out], below_set3 HX.out.2.1 (by omega) _ _ _⟩
  | true =>
    obtain ⟨_, ⟨u0, u1, u2⟩, _, _, _⟩ := S2.out
    go_wp2_with fail
    refine (HK2.out w2).mono ?_
    rintro e w3 ⟨rfl, b3⟩
    have S3 : Hid (BiS w k n t k2 n2 t2 w3) := BiS.keep S2.out b3
    have K3 : Hid (Keeps b w1 w3) := K2.out.trans (Keeps.of_below b3)
    clear b3 S2 K2 u0 u1 u2 HK2
    cases ok2 with
    | false =>
      obtain ⟨_, _, ⟨v0, v1, v2⟩, ⟨y0, y1, y2⟩, HX⟩ := S3.out
      have HY : Hid (Y = zA 1) := HX0.out.trans (if_pos (.inr rfl))
      go_wp2_with fail
      obtain ⟨q0, q1, q2, _, _, _⟩ := box_facts (box_set HX.out.2.2.2.2 0 0 noT)
      exact bodyPost_ret (v := VC 0 0 noT 1) (by simp [results, Try.results19, go_sem, q0, q1, q2]) rfl ⟨by rw [HY.out], below_set3 HX.out.2.1 (by omega) _ _ _⟩
    | true =>
      have HY0 : Hid (Y = if ft = false then zA 10 else ((xk, xn, xt), xc)) := HX0.out.trans (if_neg (by simp))
      clear HX0
      obtain ⟨⟨u0, u1, u2⟩, ⟨z0, z1, z2⟩, _, _, _⟩ := S3.out
      have hO := HO.out (w3.alloc (.cells #[.int .i64 k, .int .i64 n, .string t, .int .i64 k2, .int .i64 n2, .string t2] 24)).drew w3.heap.size (heap_alloc_new w3 _)
      have HB : Hid (Below w3.heap.size w3 (w3.alloc (.cells #[.int .i64 k, .int .i64 n, .string t, .int .i64 k2, .int .i64 n2, .string t2] 24)).drew) := ((Below.refl _ _).alloc (Nat.le_refl _) _).drew
      clear HO
      go_wp2_with fail
      go_region_with
        (first
        | (go_at_call 40; refine (HLv.out _).mono ?_; rintro e wA ⟨rfl, rfl⟩)
        | (go_at_call 39; refine hO.mono ?_; rintro e wB ⟨rfl, hb⟩; have S4 : Hid (BiS w k n t k2 n2 t2 wB ∧ Keeps b w1 wB) := ⟨BiS.keep S3.out (HB.out.trans (hb.mono HB.out.size)), K3.out.trans (Keeps.of_below (HB.out.trans (hb.mono HB.out.size)))⟩; clear hb)
        | fail)
      all_goals
        clear hO HB u0 u1 u2 z0 z1 z2 S3 HLv K3
        obtain ⟨⟨u0, u1, u2⟩, ⟨z0, z1, z2⟩, ⟨v0, v1, v2⟩, ⟨y0, y1, y2⟩, HX⟩ := S4.out.1
        cases ft with
        | false =>
          have HY : Hid (Y = zA 10) := HY0.out
          go_wp2_with fail
          obtain ⟨q0, q1, q2, _, _, _⟩ := box_facts (box_set HX.out.2.2.2.2 0 0 noT)
          exact bodyPost_ret (v := VC 0 0 noT 10) (by simp [results, Try.results19, go_sem, q0, q1, q2]) rfl ⟨by rw [HY.out], below_set3 HX.out.2.1 (by omega) _ _ _⟩
        | true =>
          have HY : Hid (Y = ((xk, xn, xt), xc)) := HY0.out
          clear v0 v1 v2 y0 y1 y2 HY0
          go_wp2_with fail
          refine (HG.out _ S4.out.2).mono ?_
          rintro e w5 ⟨rfl, b5⟩
          have S5 := BiS.keep S4.out.1 b5
          clear u0 u1 u2 z0 z1 z2 HX S4 b5 HG
          obtain ⟨_, _, ⟨v0, v1, v2⟩, ⟨y0, y1, y2⟩, HX⟩ := S5
          go_wp2_with fail
          obtain ⟨q0, q1, q2, _, _, _⟩ := box_facts (box_set HX.out.2.2.2.2 xk xn xt)
          exact bodyPost_ret (v := VC xk xn xt xc) (by simp [results, Try.results19, go_sem, q0, q1, q2]) rfl ⟨by rw [HY.out], below_set3 HX.out.2.1 (by omega) _ _ _⟩
theorem lviOr (w : World) : Calls Try.prog 40 #[.string gOr] w fun e w' => e = .returned (.int .i64 1) ∧ w' = w := by
  go_enter Try.func40, Try.ntmps40
  go_wp2
  go_ret
  exact ⟨rfl, rfl⟩
theorem lvsOr (w : World) : Calls Try.prog 42 #[.string gOr] w fun e w' => e = .returned (.int .i64 1) ∧ w' = w := by
  go_enter Try.func42, Try.ntmps42
  go_wp2
  go_ret
  exact ⟨rfl, rfl⟩
theorem lviAnd (w : World) : Calls Try.prog 40 #[.string gAnd] w fun e w' => e = .returned (.int .i64 2) ∧ w' = w := by
  go_enter Try.func40, Try.ntmps40
  go_wp2
  go_ret
  exact ⟨rfl, rfl⟩
theorem lvsAnd (w : World) : Calls Try.prog 42 #[.string gAnd] w fun e w' => e = .returned (.int .i64 2) ∧ w' = w := by
  go_enter Try.func42, Try.ntmps42
  go_wp2
  go_ret
  exact ⟨rfl, rfl⟩
theorem lviEq (w : World) : Calls Try.prog 40 #[.string gEq] w fun e w' => e = .returned (.int .i64 4) ∧ w' = w := by
  go_enter Try.func40, Try.ntmps40
  go_wp2
  go_ret
  exact ⟨rfl, rfl⟩
theorem lvsEq (w : World) : Calls Try.prog 42 #[.string gEq] w fun e w' => e = .returned (.int .i64 4) ∧ w' = w := by
  go_enter Try.func42, Try.ntmps42
  go_wp2
  go_ret
  exact ⟨rfl, rfl⟩
theorem lviNe (w : World) : Calls Try.prog 40 #[.string gNe] w fun e w' => e = .returned (.int .i64 4) ∧ w' = w := by
  go_enter Try.func40, Try.ntmps40
  go_wp2
  go_ret
  exact ⟨rfl, rfl⟩
theorem lvsNe (w : World) : Calls Try.prog 42 #[.string gNe] w fun e w' => e = .returned (.int .i64 4) ∧ w' = w := by
  go_enter Try.func42, Try.ntmps42
  go_wp2
  go_ret
  exact ⟨rfl, rfl⟩
theorem lviLt (w : World) : Calls Try.prog 40 #[.string gLt] w fun e w' => e = .returned (.int .i64 4) ∧ w' = w := by
  go_enter Try.func40, Try.ntmps40
  go_wp2
  go_ret
  exact ⟨rfl, rfl⟩
theorem lvsLt (w : World) : Calls Try.prog 42 #[.string gLt] w fun e w' => e = .returned (.int .i64 4) ∧ w' = w := by
  go_enter Try.func42, Try.ntmps42
  go_wp2
  go_ret
  exact ⟨rfl, rfl⟩
theorem lviLe (w : World) : Calls Try.prog 40 #[.string gLe] w fun e w' => e = .returned (.int .i64 4) ∧ w' = w := by
  go_enter Try.func40, Try.ntmps40
  go_wp2
  go_ret
  exact ⟨rfl, rfl⟩
theorem lvsLe (w : World) : Calls Try.prog 42 #[.string gLe] w fun e w' => e = .returned (.int .i64 4) ∧ w' = w := by
  go_enter Try.func42, Try.ntmps42
  go_wp2
  go_ret
  exact ⟨rfl, rfl⟩
theorem lviGt (w : World) : Calls Try.prog 40 #[.string gGt] w fun e w' => e = .returned (.int .i64 4) ∧ w' = w := by
  go_enter Try.func40, Try.ntmps40
  go_wp2
  go_ret
  exact ⟨rfl, rfl⟩
theorem lvsGt (w : World) : Calls Try.prog 42 #[.string gGt] w fun e w' => e = .returned (.int .i64 4) ∧ w' = w := by
  go_enter Try.func42, Try.ntmps42
  go_wp2
  go_ret
  exact ⟨rfl, rfl⟩
theorem lviGe (w : World) : Calls Try.prog 40 #[.string gGe] w fun e w' => e = .returned (.int .i64 4) ∧ w' = w := by
  go_enter Try.func40, Try.ntmps40
  go_wp2
  go_ret
  exact ⟨rfl, rfl⟩
theorem lvsGe (w : World) : Calls Try.prog 42 #[.string gGe] w fun e w' => e = .returned (.int .i64 4) ∧ w' = w := by
  go_enter Try.func42, Try.ntmps42
  go_wp2
  go_ret
  exact ⟨rfl, rfl⟩
theorem lviAdd (w : World) : Calls Try.prog 40 #[.string gAdd] w fun e w' => e = .returned (.int .i64 5) ∧ w' = w := by
  go_enter Try.func40, Try.ntmps40
  go_wp2
  go_ret
  exact ⟨rfl, rfl⟩
theorem lvsAdd (w : World) : Calls Try.prog 42 #[.string gAdd] w fun e w' => e = .returned (.int .i64 5) ∧ w' = w := by
  go_enter Try.func42, Try.ntmps42
  go_wp2
  go_ret
  exact ⟨rfl, rfl⟩
theorem lviSub (w : World) : Calls Try.prog 40 #[.string gSub] w fun e w' => e = .returned (.int .i64 5) ∧ w' = w := by
  go_enter Try.func40, Try.ntmps40
  go_wp2
  go_ret
  exact ⟨rfl, rfl⟩
theorem lvsSub (w : World) : Calls Try.prog 42 #[.string gSub] w fun e w' => e = .returned (.int .i64 5) ∧ w' = w := by
  go_enter Try.func42, Try.ntmps42
  go_wp2
  go_ret
  exact ⟨rfl, rfl⟩
theorem lviMul (w : World) : Calls Try.prog 40 #[.string gMul] w fun e w' => e = .returned (.int .i64 6) ∧ w' = w := by
  go_enter Try.func40, Try.ntmps40
  go_wp2
  go_ret
  exact ⟨rfl, rfl⟩
theorem lvsMul (w : World) : Calls Try.prog 42 #[.string gMul] w fun e w' => e = .returned (.int .i64 6) ∧ w' = w := by
  go_enter Try.func42, Try.ntmps42
  go_wp2
  go_ret
  exact ⟨rfl, rfl⟩
theorem lviDiv (w : World) : Calls Try.prog 40 #[.string gDiv] w fun e w' => e = .returned (.int .i64 6) ∧ w' = w := by
  go_enter Try.func40, Try.ntmps40
  go_wp2
  go_ret
  exact ⟨rfl, rfl⟩
theorem lvsDiv (w : World) : Calls Try.prog 42 #[.string gDiv] w fun e w' => e = .returned (.int .i64 6) ∧ w' = w := by
  go_enter Try.func42, Try.ntmps42
  go_wp2
  go_ret
  exact ⟨rfl, rfl⟩
theorem lviRem (w : World) : Calls Try.prog 40 #[.string gRem] w fun e w' => e = .returned (.int .i64 6) ∧ w' = w := by
  go_enter Try.func40, Try.ntmps40
  go_wp2
  go_ret
  exact ⟨rfl, rfl⟩
theorem lvsRem (w : World) : Calls Try.prog 42 #[.string gRem] w fun e w' => e = .returned (.int .i64 6) ∧ w' = w := by
  go_enter Try.func42, Try.ntmps42
  go_wp2
  go_ret
  exact ⟨rfl, rfl⟩
end Go.Proofs.Yteloioopkndcmaa
