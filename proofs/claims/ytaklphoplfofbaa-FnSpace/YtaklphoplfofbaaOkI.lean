/- impl.SpaceOK answers whether a space is right (stage 4). -/
import Derived.Test.YtaklphoplfofbaaOkM
namespace Go.Proofs.Ytaklphoplfofbaa
open Go.RowKit Go.Maps Go.WideShapes Go.ChangeMaps Go.MapKept

def PinsOk (e : Int) (qs : List Int) : Prop := qs.length ≤ 4 ∧ ∀ i, i < qs.length → 0 ≤ nthI qs i ∧ nthI qs i ≤ e
/-- A statement as an answer. -/
noncomputable def asB (p : Prop) : Bool := @decide p (Classical.propDecidable p)
theorem asB_true {p : Prop} (h : p) : true = asB p := by unfold asB; exact (@decide_eq_true _ (Classical.propDecidable _) h).symm
theorem asB_false {p : Prop} (h : ¬ p) : false = asB p := by unfold asB; exact (@decide_eq_false _ (Classical.propDecidable _) h).symm
theorem asB_is {p : Prop} (h : asB p = true) : p := by unfold asB at h; exact @of_decide_eq_true _ (Classical.propDecidable _) h
theorem asB_not {p : Prop} (h : asB p = false) : ¬ p := by unfold asB at h; exact @of_decide_eq_false _ (Classical.propDecidable _) h
theorem all_step' {P : Nat → Prop} {k : Nat} (h : ∀ j, j < k → P j) (hk : P k) : ∀ j, j < k + 1 → P j := fun j hj => by
  by_cases e : j = k
  · subst e; exact hk
  · exact h j (by omega)

set_option maxRecDepth 100000 in
set_option maxHeartbeats 1000000 in
theorem pinsOK_any (t e : Int) (v1 v2 : Value) (a3 : Option Addr) (c3 : Nat) (qs : List Int) (w : World) (h3 : RowI w a3 qs) (l3 : qs.length ≤ 1048576) :
    Calls Try.prog 48 #[SV t e v1 v2 (.slice a3 qs.length c3)] w fun r w' => r = .returned (.bool (asB (PinsOk e qs))) ∧ Below w.heap.size w w' := by
  have H3 : Hid (RowI w a3 qs) := h3
  clear h3
  obtain ⟨x, hx⟩ : ∃ x, qs.length = x := ⟨_, rfl⟩
  have HX : Hid (qs.length = x) := hx
  rw [hx] at l3 ⊢
  clear hx
  have B0 : Below w.heap.size w (w.alloc (SC t e v1 v2 (.slice a3 x c3) 29)) := (Below.refl _ _).alloc (Nat.le_refl _) _
  have R0 : Hid (RowI (w.alloc (SC t e v1 v2 (.slice a3 x c3) 29)) a3 qs) := H3.out.below B0
  by_cases h4 : 4 < x
  · have h4I : (4 : Int) < (x : Int) := by omega
    go_enter Try.func48, Try.ntmps48
    go_wp2
    go_ret
    exact ⟨ret_bool' (asB_false fun h => by have := h.1; rw [HX.out] at this; omega), B0⟩
  have h4I : ¬ (4 : Int) < (x : Int) := by omega
  go_enter Try.func48, Try.ntmps48
  go_wp2
  go_loop [4, 12] (fun _ i => ∃ k : Nat, k ≤ x ∧ i = .int .i64 k ∧ ∀ j, j < k → 0 ≤ nthI qs j ∧ nthI qs j ≤ e) (fun _ i => x - (intOf i).toNat)
  case atStart => exact ⟨0, by omega, rfl, fun j hj => by omega⟩
  case round =>
    obtain ⟨k, hk, rfl, hall⟩ := hrel
    have HA : Hid (∀ j, j < k → 0 ≤ nthI qs j ∧ nthI qs j ≤ e) := hall
    clear hall
    by_cases hlt : k < x
    · obtain ⟨b, off, rfl, hlb, hc⟩ := R0.out k (by rw [HX.out]; exact hlt)
      have HV : Hid (nthI qs k = nthI qs k) := rfl
      by_cases c1 : nthI qs k < 0
      · go_wp2
        go_ret
        exact ⟨ret_bool' (asB_false fun h => by have := (h.2 k (by rw [HX.out]; exact hlt)).1; omega), B0⟩
      by_cases c2 : e < nthI qs k
      · go_wp2
        go_ret
        exact ⟨ret_bool' (asB_false fun h => by have := (h.2 k (by rw [HX.out]; exact hlt)).2; omega), B0⟩
      go_wp2
      go_round
      case rel => exact ⟨k + 1, by omega, by go_num, all_step' HA.out ⟨by omega, by omega⟩⟩
      case measure => simp [intOf]; omega
    · obtain rfl : k = x := by omega
      go_wp2
      go_ret
      exact ⟨ret_bool' (asB_true ⟨by rw [HX.out]; omega, by rw [HX.out]; exact HA.out⟩), B0⟩

def PagesOk (t e : Int) (ss : List Int) (ps : List P2) : Prop := RiseI t ss ss.length ∧ RiseP t e ps ps.length ∧ ∀ i, i < ss.length → ∀ j, j < ps.length → nthI ss i ≠ (nthP ps j).1

set_option maxRecDepth 100000 in
set_option maxHeartbeats 4000000 in
theorem pagesOK_any (t e : Int) (a1 a2 : Option Addr) (c1 c2 : Nat) (v3 : Value) (ss : List Int) (ps : List P2) (w : World) (h1 : RowI w a1 ss) (h2 : RowP w a2 ps) (l1 : ss.length ≤ 1048576) (l2 : ps.length ≤ 1048576) (t0 : 1 ≤ t) (t1 : t ≤ 64) (e0 : 0 ≤ e) (e1 : e ≤ 1000000) :
    Calls Try.prog 47 #[SV t e (.slice a1 ss.length c1) (.slice a2 ps.length c2) v3] w fun r w' => r = .returned (.bool (asB (PagesOk t e ss ps))) ∧ Below w.heap.size w w' := by
  have H1 : Hid (RowI w a1 ss) := h1
  have H2 : Hid (RowP w a2 ps) := h2
  clear h1 h2
  obtain ⟨x, hx⟩ : ∃ x, ss.length = x := ⟨_, rfl⟩
  obtain ⟨y, hy⟩ : ∃ y, ps.length = y := ⟨_, rfl⟩
  have HX : Hid (ss.length = x) := hx
  have HY : Hid (ps.length = y) := hy
  rw [hx] at l1 ⊢
  rw [hy] at l2 ⊢
  clear hx hy
  have B0 : Below w.heap.size w (w.alloc (SC t e (.slice a1 x c1) (.slice a2 y c2) v3 29)) := (Below.refl _ _).alloc (Nat.le_refl _) _
  have R0 : Hid (RowI (w.alloc (SC t e (.slice a1 x c1) (.slice a2 y c2) v3 29)) a1 ss) := H1.out.below B0
  have X0 : Hid (BoxS w.heap.size t e (.slice a1 x c1) (.slice a2 y c2) v3 (w.alloc (SC t e (.slice a1 x c1) (.slice a2 y c2) v3 29))) := BoxS.new 29
  have hmm := @run_makeMap Try.prog
  go_enter Try.func47, Try.ntmps47
  go_wp2
  go_loop [3, 5, 12] (fun l _ i => ∃ k : Nat, k ≤ x ∧ i = .int .i64 k ∧ l = .int .i64 (lastI ss k) ∧ RiseI t ss k) (fun _ _ i => x - (intOf i).toNat)
  case atStart => exact ⟨0, by omega, rfl, rfl, ⟨fun i hi => by omega, fun i hi => by omega⟩⟩
  case round =>
    obtain ⟨k, hk, rfl, rfl, hR⟩ := hrel
    have HR : Hid (RiseI t ss k) := hR
    clear hR
    by_cases hlt : k < x
    · obtain ⟨b, off, rfl, hlb, hc⟩ := R0.out k (by rw [HX.out]; exact hlt)
      obtain ⟨z, hz⟩ : ∃ z, lastI ss k = z := ⟨_, rfl⟩
      obtain ⟨u, hu⟩ : ∃ u, nthI ss k = u := ⟨_, rfl⟩
      have HZ : Hid (lastI ss k = z) := hz
      have HU : Hid (nthI ss k = u) := hu
      rw [hz]
      rw [hu] at hc
      clear hz hu
      by_cases q1 : u ≤ z
      · go_wp2
        go_ret
        exact ⟨ret_bool' (asB_false fun h => by have := (h.1.cond (k := k) (by rw [HX.out]; exact hlt)).1; rw [HZ.out, HU.out] at this; omega), B0⟩
      by_cases q2 : t ≤ u
      · go_wp2
        go_ret
        exact ⟨ret_bool' (asB_false fun h => by have := (h.1.cond (k := k) (by rw [HX.out]; exact hlt)).2; rw [HU.out] at this; omega), B0⟩
      go_wp2
      go_round
      case rel => exact ⟨k + 1, by omega, by go_num, by rw [← HU.out]; rfl, HR.out.step (by rw [HZ.out, HU.out]; omega) (by rw [HU.out]; omega)⟩
      case measure => simp [intOf]; omega
    · obtain rfl : k = x := by omega
      have RI : Hid (RiseI t ss ss.length) := by show RiseI _ _ _; rw [HX.out]; exact HR.out
      go_wp2
      go_loopw [3, 7, 30] (fun l _ i wq => ∃ j : Nat, j ≤ y ∧ i = .int .i64 j ∧ l = .int .i64 (lastP ps j) ∧ RiseP t e ps j ∧ Below (w.heap.size + 1) (w.alloc (SC t e (.slice a1 k c1) (.slice a2 y c2) v3 29)) wq) (fun _ _ i _ => y - (intOf i).toNat)
      case atStart => exact ⟨0, by omega, rfl, rfl, ⟨fun i hi => by omega, fun i hi => by omega⟩, Below.refl _ _⟩
      case round =>
        obtain ⟨j, hj, rfl, rfl, hR, hbl⟩ := hrel
        have HR2 : Hid (RiseP t e ps j) := hR
        have hX := X0.out.below hbl (by omega)
        have BB := B0.trans (hbl.mono (by omega))
        have HP := H2.out.below BB
        clear hR
        by_cases hlt2 : j < y
        · obtain ⟨b, off, rfl, hlb, hc0, hc1⟩ := HP j (by rw [HY.out]; exact hlt2)
          obtain ⟨z, hz⟩ : ∃ z, lastP ps j = z := ⟨_, rfl⟩
          obtain ⟨q, hq⟩ : ∃ q, nthP ps j = q := ⟨_, rfl⟩
          obtain ⟨u, v⟩ := q
          have HZ : Hid (lastP ps j = z) := hz
          have HU : Hid (nthP ps j = (u, v)) := hq
          rw [hz]
          rw [hq] at hc0 hc1
          clear hz hq
          obtain ⟨x0, x1, x2, x3, x4, x5⟩ := hX
          have BBa : Below w.heap.size w (wr.alloc (.cells #[.int .i64 u, .int .i64 v] 88)) := BB.alloc BB.size _
          have hbla : Below (w.heap.size + 1) (w.alloc (SC t e (.slice a1 k c1) (.slice (some ⟨b, off, none⟩) y c2) v3 29)) (wr.alloc (.cells #[.int .i64 u, .int .i64 v] 88)) := hbl.alloc (by omega) _
          have hne : wr.heap.size ≠ w.heap.size := by omega
          have bad : ¬ (z < u ∧ u < t ∧ 0 ≤ v ∧ v < e) → ¬ PagesOk t e ss ps := fun h h' => by
            have := h'.2.1.cond (k := j) (by rw [HY.out]; exact hlt2)
            rw [HZ.out, HU.out] at this
            exact h this
          have BAD : Hid (¬ (z < u ∧ u < t ∧ 0 ≤ v ∧ v < e) → ¬ PagesOk t e ss ps) := bad
          clear bad hmm HP
          by_cases q1 : u ≤ z
          · go_wp2
            go_ret
            exact ⟨ret_bool' (asB_false (BAD.out (by omega))), BBa⟩
          by_cases q2 : t ≤ u
          · go_wp2
            go_ret
            exact ⟨ret_bool' (asB_false (BAD.out (by omega))), BBa⟩
          by_cases q3 : v < 0
          · go_wp2
            go_ret
            exact ⟨ret_bool' (asB_false (BAD.out (by omega))), BBa⟩
          by_cases q4 : e ≤ v
          · go_wp2
            go_ret
            exact ⟨ret_bool' (asB_false (BAD.out (by omega))), BBa⟩
          go_wp2
          go_roundw
          case rel => exact ⟨j + 1, by omega, by go_num, by show _ = Value.int .i64 (nthP ps j).1; rw [HU.out], HR2.out.step (by rw [HZ.out, HU.out]; omega) (by rw [HU.out]; show u < t; omega) (by rw [HU.out]; show 0 ≤ v; omega) (by rw [HU.out]; show v < e; omega), hbla⟩
          case measure => simp [intOf]; omega
        · obtain rfl : j = y := by omega
          have RP : Hid (RiseP t e ps ps.length) := by show RiseP _ _ _ _; rw [HY.out]; exact HR2.out
          obtain ⟨x0, x1, x2, x3, x4, x5⟩ := hX
          have hne : wr.heap.size ≠ w.heap.size := by omega
          have hmd : MapOf (wr.alloc (.map #[] 0)) wr.heap.size 0 (.map []) := World.ownsMap_made _ _ _ _
          have BM : Below w.heap.size w (wr.alloc (.map #[] 0)) := BB.alloc BB.size _
          have XM : Hid (BoxS w.heap.size t e (.slice a1 k c1) (.slice a2 j c2) v3 (wr.alloc (.map #[] 0))) := BoxS.below ⟨x0, x1, x2, x3, x4, x5⟩ ((Below.refl wr.heap.size wr).alloc (Nat.le_refl _) _) x5
          have MD : Hid (MapOf (wr.alloc (.map #[] 0)) wr.heap.size 0 (.map [])) := hmd
          clear hmd HP
          have hf := fill_any wr.heap.size 0 (.map []) t e a1 a2 c1 c2 v3 ss ps _ MD.out (H1.out.below BM) (H2.out.below BM) (by rw [HX.out]; exact l1) (by rw [HY.out]; exact l2) (by unfold InR; omega)
            (fun i hi => by have := RI.out.1 i hi; unfold InR; omega) (fun i hi => by have := RP.out.1 i hi; unfold InR; omega)
          rw [HX.out, HY.out] at hf
          go_wp2_with fail
          refine hf.mono ?_
          rintro r w2 ⟨rfl, hm2, g2⟩
          obtain ⟨x0, x1, x2, x3, x4, x5⟩ := XM.out.grown MD.out g2
          have B2 : Hid (Below w.heap.size w w2) := BM.grown g2 BM.size (fun i hi => by cases hi; exact BB.size)
          have HS : Hid (Maps.size (dOf (kvOf e ss ps)) = k + j ↔ ∀ i, i < ss.length → ∀ j, j < ps.length → nthI ss i ≠ (nthP ps j).1) := by
            have := size_both (e := e) RI.out RP.out
            rw [HX.out, HY.out] at this
            show _ ↔ _
            rw [HX.out, HY.out]
            exact this
          obtain ⟨D, hD⟩ : ∃ D, dOf (kvOf e ss ps) = D := ⟨_, rfl⟩
          rw [hD] at hm2 HS
          clear hD MD XM hf g2 BM BB hmm
          have hsz := hm2.size_le
          by_cases hq : Maps.size D = k + j
          · have hqI : (Maps.size D : Int) = (k : Int) + (j : Int) := by omega
            go_wp2_with (at_len; refine wpList_len_own _ rfl _ 75 rfl 3 3 Try.underlying75 _ wr.heap.size (k + j) D rfl hm2 ?_)
            go_ret
            exact ⟨ret_bool' (asB_true ⟨RI.out, RP.out, HS.out.1 hq⟩), B2.out⟩
          · have hqI : ¬ (Maps.size D : Int) = (k : Int) + (j : Int) := by omega
            go_wp2_with (at_len; refine wpList_len_own _ rfl _ 75 rfl 3 3 Try.underlying75 _ wr.heap.size (k + j) D rfl hm2 ?_)
            go_ret
            exact ⟨ret_bool' ((show ((Maps.size D : Int) == (k : Int) + (j : Int)) = false from by simpa using hqI).trans (asB_false fun h => hq (HS.out.2 h.2.2))), B2.out⟩

set_option maxRecDepth 100000 in
set_option maxHeartbeats 4000000 in
theorem implSpaceOK_any (t e : Int) (a1 a2 a3 : Option Addr) (c1 c2 c3 : Nat) (ss : List Int) (ps : List P2) (qs : List Int) (w : World) (h1 : RowI w a1 ss) (h2 : RowP w a2 ps) (h3 : RowI w a3 qs) (l1 : ss.length ≤ 1048576) (l2 : ps.length ≤ 1048576) (l3 : qs.length ≤ 1048576) :
    Calls Try.prog 14 #[SV t e (.slice a1 ss.length c1) (.slice a2 ps.length c2) (.slice a3 qs.length c3)] w fun r w' => r = .returned (.bool (asB (OkSp t e ss ps qs))) ∧ Below w.heap.size w w' := by
  have H1 : Hid (RowI w a1 ss) := h1
  have H2 : Hid (RowP w a2 ps) := h2
  have H3 : Hid (RowI w a3 qs) := h3
  have L1 : Hid (ss.length ≤ 1048576) := l1
  have L2 : Hid (ps.length ≤ 1048576) := l2
  have L3 : Hid (qs.length ≤ 1048576) := l3
  clear h1 h2 h3 l1 l2 l3
  have B0 : Below w.heap.size w (w.alloc (SC t e (.slice a1 ss.length c1) (.slice a2 ps.length c2) (.slice a3 qs.length c3) 29)) := (Below.refl _ _).alloc (Nat.le_refl _) _
  have X0 : Hid (BoxS w.heap.size t e (.slice a1 ss.length c1) (.slice a2 ps.length c2) (.slice a3 qs.length c3) (w.alloc (SC t e (.slice a1 ss.length c1) (.slice a2 ps.length c2) (.slice a3 qs.length c3) 29))) := BoxS.new 29
  by_cases q1 : t < 1
  · go_enter Try.func14, Try.ntmps14
    go_wp2
    go_ret
    exact ⟨ret_bool' (asB_false fun h => by have := h.1.1; omega), B0⟩
  by_cases q2 : 64 < t
  · go_enter Try.func14, Try.ntmps14
    go_wp2
    go_ret
    exact ⟨ret_bool' (asB_false fun h => by have := h.1.2; omega), B0⟩
  by_cases q3 : e < 0
  · go_enter Try.func14, Try.ntmps14
    go_wp2
    go_ret
    exact ⟨ret_bool' (asB_false fun h => by have := h.2.1.1; omega), B0⟩
  by_cases q4 : 1000000 < e
  · go_enter Try.func14, Try.ntmps14
    go_wp2
    go_ret
    exact ⟨ret_bool' (asB_false fun h => by have := h.2.1.2; omega), B0⟩
  go_enter Try.func14, Try.ntmps14
  go_wp2_with fail
  refine (pagesOK_any t e a1 a2 c1 c2 _ ss ps _ (H1.out.below B0) (H2.out.below B0) L1.out L2.out (by omega) (by omega) (by omega) (by omega)).mono ?_
  rintro r w1 ⟨rfl, b1⟩
  have B1 := B0.trans (b1.mono B0.size)
  obtain ⟨x0, x1, x2, x3, x4, x5⟩ := X0.out.below b1 (by simp)
  clear b1 X0 B0
  cases hp : asB (PagesOk t e ss ps)
  · have HP : Hid (¬ PagesOk t e ss ps) := asB_not hp
    clear hp
    go_wp2
    go_ret
    exact ⟨ret_bool' (asB_false fun h => HP.out ⟨h.2.2.1, h.2.2.2.1, h.2.2.2.2.1⟩), B1⟩
  have HP : Hid (PagesOk t e ss ps) := asB_is hp
  clear hp
  go_wp2_with fail
  refine (pinsOK_any t e _ _ a3 c3 qs _ (H3.out.below B1) L3.out).mono ?_
  rintro r w2 ⟨rfl, b2⟩
  have B2 := B1.trans (b2.mono B1.size)
  clear b2 B1 x0 x1 x2 x3 x4 x5
  cases hp : asB (PinsOk e qs)
  · have HQ : Hid (¬ PinsOk e qs) := asB_not hp
    clear hp
    go_wp2
    go_ret
    exact ⟨ret_bool' (asB_false fun h => HQ.out h.2.2.2.2.2), B2⟩
  have HQ : Hid (PinsOk e qs) := asB_is hp
  clear hp
  go_wp2
  go_ret
  exact ⟨ret_bool' (asB_true ⟨⟨by omega, by omega⟩, ⟨by omega, by omega⟩, HP.out.1, HP.out.2.1, HP.out.2.2, HQ.out⟩), B2⟩
end Go.Proofs.Ytaklphoplfofbaa
