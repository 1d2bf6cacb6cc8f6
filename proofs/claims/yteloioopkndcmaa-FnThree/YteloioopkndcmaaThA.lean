/- Towards the law FnThree: a choice out of bytes, and what the signs make of three values and of two of one kind (stage 12). -/
import Derived.Test.YteloioopkndcmaaBvO
import Derived.Test.YteloioopkndcmaaBytes
namespace Go.Proofs.Yteloioopkndcmaa
open Go.RowKit

set_option maxRecDepth 100000 in
set_option maxHeartbeats 4000000 in
theorem at_any {w : World} {a : Option Addr} {cap len : Nat} (h : Code w a len) (hlen : len ≤ 1048576) (i : Nat) (n : Int) (hi : i ≤ 10) (hn : 1 < n) (hn2 : n ≤ 10000) :
    Calls Try.prog 18 #[.slice a len cap, .int .i64 i, .int .i64 n] w fun e w' => ∃ r : Int, e = .returned (.int .i64 r) ∧ 0 ≤ r ∧ r < n ∧ Below w.heap.size w w' := by
  have H : Hid (Code w a len) := h
  clear h
  by_cases h0 : len = 0
  · subst h0
    go_enter Try.func18, Try.ntmps18
    go_wp2
    go_ret
    exact ⟨(i : Int) * 7 % n, by go_num, Int.emod_nonneg _ (by omega), Int.emod_lt_of_pos _ (by omega), Below.refl _ _⟩
  · have hp : i % len < len := Nat.mod_lt _ (by omega)
    have hq : (i + 1) % len < len := Nat.mod_lt _ (by omega)
    obtain ⟨b, off, u, rfl, _, u1, u2, hc1⟩ := H.out (i % len) hp
    obtain ⟨b', off', v, e', _, v1, v2, hc2⟩ := H.out ((i + 1) % len) hq
    cases e'
    have e1 : (i : Int) % (len : Int) = ((i % len : Nat) : Int) := by omega
    have e2 : ((i : Int) + 1) % (len : Int) = (((i + 1) % len : Nat) : Int) := by rw [Int.natCast_emod]; rfl
    generalize i % len = p at *
    generalize (i + 1) % len = q at *
    obtain ⟨d, hd⟩ : ∃ d : Nat, (i : Int) / (len : Int) = (d : Int) := ⟨i / len, by omega⟩
    have hd2 : d ≤ 10 := by
      have h1 : i / len ≤ i := Nat.div_le_self _ _
      have h2 : ((i / len : Nat) : Int) = (d : Int) := by omega
      omega
    have h0I : ¬ ((len : Int) = 0) := by omega
    have hpI : (p : Int) < (len : Int) := by omega
    have hqI : (q : Int) < (len : Int) := by omega
    clear H
    go_enter Try.func18, Try.ntmps18
    go_wp2_with fail
    go_quiet (fail)
    go_wp2
    go_ret
    exact ⟨(u * 31 + v + (d : Int)) % n, by go_num, Int.emod_nonneg _ (by omega), Int.emod_lt_of_pos _ (by omega), below_drewN (Below.refl _ _) _⟩

/-- Null, false, true. -/
inductive T3 | n | f | t
def tv : T3 → V3
  | .n => (0, 0, noT)
  | .f => (1, 0, noT)
  | .t => (1, 1, noT)
def and3 : T3 → T3 → T3
  | .f, _ => .f
  | _, .f => .f
  | .n, _ => .n
  | _, .n => .n
  | .t, .t => .t
def or3 : T3 → T3 → T3
  | .t, _ => .t
  | _, .t => .t
  | .n, _ => .n
  | _, .n => .n
  | .f, .f => .f
def not3 : T3 → T3
  | .n => .n
  | .f => .t
  | .t => .f
theorem morgan (a b : T3) : not3 (and3 a b) = or3 (not3 a) (not3 b) := by cases a <;> cases b <;> rfl
theorem binA_and (k n : Int) (t : ByteArray) (k2 n2 : Int) (t2 : ByteArray) : binA gAnd k n t k2 n2 t2 = biX 2 k n t k2 n2 t2 (decA 0 (k, n, t) (k2, n2, t2)) := by
  unfold binA
  rw [if_neg (by decide), if_neg (by simp), if_pos rfl]
theorem binA_or (k n : Int) (t : ByteArray) (k2 n2 : Int) (t2 : ByteArray) : binA gOr k n t k2 n2 t2 = biX 1 k n t k2 n2 t2 (decA 1 (k, n, t) (k2, n2, t2)) := by
  unfold binA
  rw [if_neg (by decide), if_pos rfl]
theorem unA_not (k n : Int) (t : ByteArray) : unA sNot k n t = unX 3 k n t (if k = 0 then zA 0 else ((1, bit (n == 0), noT), 0)) := by
  unfold unA
  rw [if_neg (by decide), if_neg (by simp), if_pos rfl]
theorem unA_nul (k n : Int) (t : ByteArray) : unA sNul k n t = unX 4 k n t ((1, bit (k == 0), noT), 0) := by
  unfold unA
  rw [if_neg (by decide), if_neg (by simp), if_neg (by simp), if_pos rfl]
theorem and_t3 (a b : T3) : binA gAnd (tv a).1 (tv a).2.1 (tv a).2.2 (tv b).1 (tv b).2.1 (tv b).2.2 = (tv (and3 a b), 0) := by
  rw [binA_and]
  cases a <;> cases b <;> simp [biX, tv, and3, okV, inB, fit2, fitK, opK, decA, ByteArray.toList_eq]
theorem or_t3 (a b : T3) : binA gOr (tv a).1 (tv a).2.1 (tv a).2.2 (tv b).1 (tv b).2.1 (tv b).2.2 = (tv (or3 a b), 0) := by
  rw [binA_or]
  cases a <;> cases b <;> simp [biX, tv, or3, okV, inB, fit2, fitK, opK, decA, ByteArray.toList_eq]
theorem not_t3 (a : T3) : unA sNot (tv a).1 (tv a).2.1 (tv a).2.2 = (tv (not3 a), 0) := by
  rw [unA_not]
  cases a <;> simp [unX, tv, not3, okV, inB, fitK, opK, bit, ByteArray.toList_eq]
theorem noT_small : noT.size ≤ maxLen := by decide
theorem tv_small (a : T3) : In64 (tv a).2.1 ∧ (tv a).2.2.size ≤ maxLen := by
  cases a <;> exact ⟨by simp [tv, In64], noT_small⟩
/-- A comparison and its opposite. -/
structure Opp (sg og : ByteArray) (p q : Int → Bool) : Prop where
  s : ∀ k n t k2 n2 t2, binA sg k n t k2 n2 t2 = biX 4 k n t k2 n2 t2 (cmpA p (k, n, t) (k2, n2, t2))
  o : ∀ k n t k2 n2 t2, binA og k n t k2 n2 t2 = biX 4 k n t k2 n2 t2 (cmpA q (k, n, t) (k2, n2, t2))
  h : ∀ c, q c = !p c
  m : sg.size ≤ maxLen ∧ og.size ≤ maxLen
theorem opp0 : Opp gEq gNe (fun c => c == 0) (fun c => c != 0) := ⟨fun _ _ _ _ _ _ => by unfold binA; rw [if_neg (by decide), if_neg (by simp), if_neg (by simp), if_pos rfl], fun _ _ _ _ _ _ => by unfold binA; rw [if_neg (by decide), if_neg (by simp), if_neg (by simp), if_neg (by simp), if_pos rfl], fun _ => rfl, by decide, by decide⟩
theorem opp1 : Opp gLt gGe (fun c => decide (c < 0)) (fun c => decide (0 ≤ c)) := ⟨fun _ _ _ _ _ _ => by unfold binA; rw [if_neg (by decide), if_neg (by simp), if_neg (by simp), if_neg (by simp), if_neg (by simp), if_pos rfl], fun _ _ _ _ _ _ => by unfold binA; rw [if_neg (by decide), if_neg (by simp), if_neg (by simp), if_neg (by simp), if_neg (by simp), if_neg (by simp), if_neg (by simp), if_neg (by simp), if_pos rfl], fun c => by by_cases h : c < 0 <;> simp [h] <;> omega, by decide, by decide⟩
theorem opp2 : Opp gLe gGt (fun c => decide (c ≤ 0)) (fun c => decide (0 < c)) := ⟨fun _ _ _ _ _ _ => by unfold binA; rw [if_neg (by decide), if_neg (by simp), if_neg (by simp), if_neg (by simp), if_neg (by simp), if_neg (by simp), if_pos rfl], fun _ _ _ _ _ _ => by unfold binA; rw [if_neg (by decide), if_neg (by simp), if_neg (by simp), if_neg (by simp), if_neg (by simp), if_neg (by simp), if_neg (by simp), if_pos rfl], fun c => by by_cases h : c ≤ 0 <;> simp [h] <;> omega, by decide, by decide⟩
theorem opp_math {sg og : ByteArray} {p q : Int → Bool} (O : Opp sg og p q) {k n : Int} {t : ByteArray} {n2 : Int} {t2 : ByteArray} (h1 : okV k n t = true) (h2 : okV k n2 t2 = true) :
    ∃ P Q NL : V3, binA sg k n t k n2 t2 = (P, 0) ∧ binA og k n t k n2 t2 = (Q, 0) ∧ unA sNot P.1 P.2.1 P.2.2 = (Q, 0) ∧ unA sNul P.1 P.2.1 P.2.2 = (NL, 0) ∧ ((NL.2.1 == 1) = (k == 0)) ∧ In64 P.2.1 ∧ P.2.2.size ≤ maxLen := by
  rw [O.s, O.o]
  have hf : fit2 4 k k = true := by rw [fit2_4]; simp
  unfold biX
  rw [h1, h2, hf]
  by_cases hk : k = 0
  · refine ⟨(0, 0, noT), (0, 0, noT), (1, 1, noT), ?_, ?_, ?_, ?_, ?_, ?_, ?_⟩
    · simp [cmpA, hk]
    · simp [cmpA, hk]
    · have := not_t3 .n; exact this
    · rw [unA_nul]; simp [unX, okV, fitK, opK, bit, ByteArray.toList_eq]
    · simp [hk]
    · unfold In64; simp
    · exact noT_small
  · have hc : ∀ r : Int → Bool, cmpA r (k, n, t) (k, n2, t2) = ((1, bit (r (cmpV k n t k n2 t2)), noT), 0) := fun r => by unfold cmpA; rw [if_neg (by simp [hk])]
    refine ⟨(1, bit (p (cmpV k n t k n2 t2)), noT), (1, bit (q (cmpV k n t k n2 t2)), noT), (1, 0, noT), ?_, ?_, ?_, ?_, ?_, ?_, ?_⟩
    · simp [hc]
    · simp [hc]
    · rw [O.h]
      cases p (cmpV k n t k n2 t2)
      · exact not_t3 .f
      · exact not_t3 .t
    · cases p (cmpV k n t k n2 t2) <;> (rw [unA_nul]; simp [unX, okV, inB, fitK, opK, bit, ByteArray.toList_eq])
    · have : (k == 0) = false := by simpa using hk
      rw [this]; rfl
    · cases p (cmpV k n t k n2 t2) <;> (unfold In64 bit; simp)
    · exact noT_small
end Go.Proofs.Yteloioopkndcmaa
