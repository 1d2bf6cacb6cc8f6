/- Marked trees are held (stage 14). -/
import Derived.Test.YthjibgnhpkonbaaCjD
import Derived.Deep.RegionHeld3
namespace Go.Proofs.Ythjibgnhpkonbaa
open Go.RowKit

/-- A tree's cells stand, and what lay in W. -/
abbrev StC (W : World) (h o : Nat) (x : ND) (v : Value) (w' : World) : Prop := CellT w' h o x v ∧ h < w'.heap.size ∧ Below W.heap.size W w'
theorem StC.keep {W : World} {h o : Nat} {x : ND} {v : Value} {w1 w2 : World} (H : StC W h o x v w1) (hb : Below w1.heap.size w1 w2) : StC W h o x v w2 := ⟨H.1.same (hb.block _ H.2.1), Nat.lt_of_lt_of_le H.2.1 hb.size, below_step H.2.2 (Nat.le_refl _) hb⟩
/-- What heldTreeS answers of marked trees. -/
def HdS (ks : Fo) : Prop := ∀ (v : Value) (lo hi : Nat) (k : Int) (w : World), KidD w lo hi v (lab ks k) → 0 ≤ k → k + 7 * (ks.size : Int) ≤ 288230376151711744 → ks.size ≤ 1048577 →
    Calls Try.prog 15 #[v, .int .i64 k] w fun e w' => e = .returned (.int .i64 (k + 7 * (ks.size : Int))) ∧ Below w.heap.size w w'
set_option maxRecDepth 100000 in
theorem heldS_nil (a : Option Addr) (c : Nat) (k : Int) (w : World) : Calls Try.prog 15 #[.slice a 0 c, .int .i64 k] w fun e w' => e = .returned (.int .i64 k) ∧ w' = w := by
  go_enter Try.func15, Try.ntmps15
  go_wp2
  go_loop [1, 5] (fun m i => m = .int .i64 k ∧ i = .int .i64 0) (fun _ _ => 0)
  case atStart => exact ⟨rfl, rfl⟩
  case round =>
    obtain ⟨rfl, rfl⟩ := hrel
    go_wp2
    go_ret
    exact ⟨rfl, rfl⟩
set_option maxRecDepth 100000 in
set_option maxHeartbeats 8000000 in
theorem heldS_step (ks : Fo) (ih : ∀ i, i < ks.len → HdS (ks.kids i)) : HdS ks := by
  intro v lo hi k w hk k0 k1 hsz
  have hlen : ks.len ≤ 1048577 := Nat.le_trans ks.len_le hsz
  rcases hk with ⟨rfl, h0⟩ | ⟨h, c, cur, rfl, p1, p2, p3, p4, p5, p6⟩
  · rw [lab_len] at h0
    obtain rfl := nil_of_len h0
    refine (heldS_nil none 0 k w).mono ?_
    rintro e w' ⟨rfl, rfl⟩
    exact ⟨by simp [Fo.size], Below.refl _ _⟩
  have HG : Hid (h < w.heap.size) := slab_lt p4
  obtain ⟨ms, q1, q2, q3, q4⟩ := p6.at p3
  rw [lab_len] at q2 q3 q4
  have HQ : Hid (∀ j, j < ks.len → ∃ v, CellT w h (j * 8) (labN (k + 7 * (ks.upTo j : Int))) v ∧ KidD w (ms j) (ms (j + 1)) v (lab (ks.kids j) (k + 7 * (ks.upTo j : Int) + 7))) := fun j hj => by
    obtain ⟨v, a, b⟩ := q4 j hj
    obtain ⟨l1, l2⟩ := lab_at ks k j hj
    rw [l1, Nat.zero_add] at a
    rw [l2] at b
    exact ⟨v, a, b⟩
  have HI : Hid (∀ i, i < ks.len → HdS (ks.kids i)) := ih
  have HZ : Hid (k + 7 * (ks.size : Int) ≤ 288230376151711744 ∧ ks.size ≤ 1048577) := ⟨k1, hsz⟩
  rw [lab_len] at *
  clear ih p1 p2 p3 p4 p5 p6 q1 q2 q3 q4 k1 hsz
  obtain ⟨len, hL⟩ : ∃ m, ks.len = m := ⟨_, rfl⟩
  have HL : Hid (ks.len = len) := hL
  rw [hL] at hlen ⊢
  clear hL
  go_enter Try.func15, Try.ntmps15
  go_wp2
  go_loopw [1, 5] (fun m i wr => ∃ (j : Nat) (q : Int), j ≤ len ∧ i = .int .i64 j ∧ m = .int .i64 q ∧ Hid (q = k + 7 * (ks.upTo j : Int)) ∧ Below w.heap.size w wr) (fun _ i _ => len - (intOf i).toNat)
  case atStart => exact ⟨0, k, by omega, rfl, rfl, by show _ = _; rw [Fo.upTo_zero]; simp, Below.refl _ _⟩
  case round =>
    obtain ⟨j, q, hj, rfl, rfl, HE, hbl⟩ := hrel
    by_cases hlt : j < len
    · have hltI : (j : Int) < (len : Int) := by omega
      have hjk : j < ks.len := by rw [HL.out]; exact hlt
      have hup := ks.upTo_succ j hjk
      have hle := ks.upTo_le (j + 1)
      have qb : 0 ≤ q ∧ q + 7 ≤ 288230376151711744 := by have := HE.out; have := HZ.out; omega
      obtain ⟨qb0, qb1⟩ := qb
      have HN : Hid (j < ks.len ∧ ks.upTo (j + 1) = ks.upTo j + (ks.kids j).size + 1 ∧ ks.upTo (j + 1) ≤ ks.size) := ⟨hjk, hup, hle⟩
      obtain ⟨vj, hcj, hkj⟩ := HQ.out j hjk
      rw [← HE.out] at hcj hkj
      have hM : ∀ p w1, 0 ≤ p → p ≤ 288230376151711744 → Calls Try.prog 29 #[.int .i64 p] w1 fun e w' => e = .returned (.string (mtx p)) ∧ (mtx p).size ≤ maxLen ∧ Below w1.heap.size w1 w' := fun p w1 a b => markText_any p w1 a (by omega)
      have HM2 : Hid (∀ w1, Calls Try.prog 29 #[.int .i64 (q + 1 + 1)] w1 fun e w' => e = .returned (.string (mtx (q + 2))) ∧ Below w1.heap.size w1 w') := fun w1 => (hM (q + 1 + 1) w1 (by omega) (by omega)).mono fun e w' ⟨a, _, b⟩ => ⟨by rw [show q + 2 = q + 1 + 1 by omega]; exact a, b⟩
      have HM3 : Hid (∀ w1, Calls Try.prog 29 #[.int .i64 (q + 1 + 1 + 1)] w1 fun e w' => e = .returned (.string (mtx (q + 3))) ∧ Below w1.heap.size w1 w') := fun w1 => (hM (q + 1 + 1 + 1) w1 (by omega) (by omega)).mono fun e w' ⟨a, _, b⟩ => ⟨by rw [show q + 3 = q + 1 + 1 + 1 by omega]; exact a, b⟩
      have HM6 : Hid (∀ w1, Calls Try.prog 29 #[.int .i64 (q + 1 + 1 + 1 + 1 + 1 + 1)] w1 fun e w' => e = .returned (.string (mtx (q + 6))) ∧ Below w1.heap.size w1 w') := fun w1 => (hM (q + 1 + 1 + 1 + 1 + 1 + 1) w1 (by omega) (by omega)).mono fun e w' ⟨a, _, b⟩ => ⟨by rw [show q + 6 = q + 1 + 1 + 1 + 1 + 1 + 1 by omega]; exact a, b⟩
      have HC : Hid (∀ w1, Calls Try.prog 15 #[vj, .int .i64 (q + 1 + 1 + 1 + 1 + 1 + 1 + 1)] w1 (fun e w' => e = .returned (.int .i64 (q + 7 + 7 * ((ks.kids j).size : Int))) ∧ Below w1.heap.size w1 w') ∨ ¬ Below w.heap.size w w1) := fun w1 => by
        by_cases hb : Below w.heap.size w w1
        · left
          have e7 : q + 1 + 1 + 1 + 1 + 1 + 1 + 1 = q + 7 := by omega
          rw [e7]
          exact HI.out j hjk vj (ms j) (ms (j + 1)) (q + 7) w1 (hkj.below hb) (by omega) (by have := HE.out; have := HZ.out; omega) (by have := HZ.out; omega)
        · exact .inr hb
      have hP0 : StC w h (j * 8) (labN q) vj w := ⟨hcj, HG.out, Below.refl _ _⟩
      have hP1 : StC w h (j * 8) (labN q) vj wr := hP0.keep hbl
      unfold labN at hP1
      rw [show q + 4 = q + 1 + 1 + 1 + 1 by omega, show q + 5 = q + 1 + 1 + 1 + 1 + 1 by omega] at hP1
      clear hjk hup hle hcj hkj hM hP0
      generalize mtx (q + 2) = t2 at *
      generalize mtx (q + 3) = t3 at *
      generalize mtx (q + 6) = t6 at *
      have hP := hP1.keep (Below.refl _ wr).drew
      obtain ⟨⟨c0, c1, c2, c3, c4, c5, c6, c7⟩, _, _⟩ := hP1
      clear hbl
      go_wp2_with fail
      go_region_held3 (StC w h (j * 8) ⟨q, q + 1, t2, t3, q + 1 + 1 + 1 + 1, q + 1 + 1 + 1 + 1 + 1, t6⟩ vj) (first | exact hP | exact StC.keep (by assumption) hb) (first | (go_at_call 29; refine (HM2.out _).mono ?_; rintro e wA ⟨rfl, hb⟩) | fail)
      rename_i hPL
      clear hP c0 c1 c2 c3 c4 c5 c6 c7
      have hP := hPL.keep (Below.refl _ _).drew
      obtain ⟨⟨c0, c1, c2, c3, c4, c5, c6, c7⟩, _, _⟩ := hPL
      go_wp2_with fail
      go_region_held3 (StC w h (j * 8) ⟨q, q + 1, t2, t3, q + 1 + 1 + 1 + 1, q + 1 + 1 + 1 + 1 + 1, t6⟩ vj) (first | exact hP | exact StC.keep (by assumption) hb) (first | (go_at_call 29; refine (HM3.out _).mono ?_; rintro e wA ⟨rfl, hb⟩) | fail)
      rename_i hPL
      clear hP c0 c1 c2 c3 c4 c5 c6 c7
      have hP := hPL.keep (Below.refl _ _).drew
      obtain ⟨⟨c0, c1, c2, c3, c4, c5, c6, c7⟩, _, _⟩ := hPL
      go_wp2_with fail
      go_region_held3 (StC w h (j * 8) ⟨q, q + 1, t2, t3, q + 1 + 1 + 1 + 1, q + 1 + 1 + 1 + 1 + 1, t6⟩ vj) (first | exact hP | exact StC.keep (by assumption) hb) (first | (go_at_call 29; refine (HM6.out _).mono ?_; rintro e wA ⟨rfl, hb⟩) | fail)
      rename_i hPL
      clear hP c0 c1 c2 c3 c4 c5 c6 c7
      obtain ⟨⟨c0, c1, c2, c3, c4, c5, c6, c7⟩, _, hB⟩ := hPL
      go_wp2_with fail
      have hc := (HC.out _).resolve_right (fun h => h hB)
      refine hc.mono ?_
      rintro e w9 ⟨rfl, b9⟩
      have hB9 := below_step hB (Nat.le_refl _) b9
      obtain ⟨q', hq'⟩ : ∃ q', q + 7 + 7 * ((ks.kids j).size : Int) = q' := ⟨_, rfl⟩
      have HE' : Hid (q' = k + 7 * (ks.upTo (j + 1) : Int)) := by show _ = _; have := HE.out; have := HN.out; omega
      have hq0 : ¬ q' < 0 := by omega
      rw [hq']
      clear hc b9 hB hq' c0 c1 c2 c3 c4 c5 c6 c7 HC HM2 HM3 HM6
      go_wp2
      go_roundw
      case rel => exact ⟨j + 1, q', by omega, by go_num, rfl, HE', hB9⟩
      case measure => simp [intOf]; omega
    · obtain rfl : j = len := by omega
      have HV : Hid (q = k + 7 * (ks.size : Int)) := by show _ = _; rw [HE.out, ← HL.out, Fo.upTo_len]
      go_wp2
      go_ret
      exact ⟨ret_int' HV.out, hbl⟩
theorem heldS_size : ∀ (n : Nat) (ks : Fo), ks.size < n → HdS ks
  | 0, _, h => by omega
  | n + 1, ks, h => heldS_step ks fun i hi => heldS_size n _ (by have := ks.kids_lt i hi; omega)
theorem heldS_any (ks : Fo) : HdS ks := heldS_size _ ks (Nat.lt_succ_self _)
end Go.Proofs.Ythjibgnhpkonbaa
