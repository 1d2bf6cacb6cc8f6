/- What the laws on sorts and groups call besides (stage 13). -/
import Derived.Test.YtmcjgncpblbhpaaSbQ
import Derived.Test.YtmcjgncpblbhpaaKsE
namespace Go.Proofs.Ytmcjgncpblbhpaa
open Go.RowKit

theorem Code.kept {w w' : World} {a : Option Addr} {len : Nat} (h : Code w a len) (hb : Below w.heap.size w w') : Code w' a len := h.below hb (fun x e hl => h.lt hl x e)
set_option maxRecDepth 100000 in
theorem at_any {w : World} {a : Option Addr} {cap len : Nat} (h : Code w a len) (hlen : len ≤ 1048576) (i : Nat) (n : Int) (hi : i ≤ 10) (hn : 1 < n) (hn2 : n ≤ 10000) :
    Calls Try.prog 14 #[.slice a len cap, .int .i64 i, .int .i64 n] w fun e w' => ∃ r : Int, e = .returned (.int .i64 r) ∧ 0 ≤ r ∧ r < n ∧ Below w.heap.size w w' := by
  have H : Hid (Code w a len) := h
  clear h
  by_cases h0 : len = 0
  · subst h0
    go_enter Try.func14, Try.ntmps14
    go_wp2
    go_ret
    exact ⟨(i : Int) * 7 % n, by go_num, Int.emod_nonneg _ (by omega), Int.emod_lt_of_pos _ (by omega), Below.refl _ _⟩
  · have hp : i % len < len := Nat.mod_lt _ (by omega)
    have hq : (i + 1) % len < len := Nat.mod_lt _ (by omega)
    obtain ⟨b, off, u, rfl, _, u1, u2, hc1⟩ := H.out (i % len) hp
    obtain ⟨b', off', v, e', _, v1, v2, hc2⟩ := H.out ((i + 1) % len) hq
    cases e'
    have e1 : (i : Int) % (len : Int) = ((i % len : Nat) : Int) := by omega
    have e2 : ((i : Int) + 1) % (len : Int) = (((i + 1) % len : Nat) : Int) := by rw [Int.natCast_emod]; rfl
    generalize i % len = p at *
    generalize (i + 1) % len = q at *
    obtain ⟨d, hd⟩ : ∃ d : Nat, (i : Int) / (len : Int) = (d : Int) := ⟨i / len, by omega⟩
    have hd2 : d ≤ 10 := by
      have h1 : i / len ≤ i := Nat.div_le_self _ _
      have h2 : ((i / len : Nat) : Int) = (d : Int) := by omega
      omega
    have h0I : ¬ ((len : Int) = 0) := by omega
    have hpI : (p : Int) < (len : Int) := by omega
    have hqI : (q : Int) < (len : Int) := by omega
    clear H
    go_enter Try.func14, Try.ntmps14
    go_wp2_with fail
    go_quiet (fail)
    go_wp2
    go_ret
    exact ⟨(u * 31 + v + (d : Int)) % n, by go_num, Int.emod_nonneg _ (by omega), Int.emod_lt_of_pos _ (by omega), below_drewN (Below.refl _ _) _⟩


set_option maxRecDepth 100000 in
theorem at_one {w : World} {a : Option Addr} {cap len : Nat} (i : Nat) : Calls Try.prog 14 #[.slice a len cap, .int .i64 i, .int .i64 1] w fun e w' => e = .returned (.int .i64 0) ∧ w' = w := by
  go_enter Try.func14, Try.ntmps14
  go_wp2
  go_ret
  exact ⟨rfl, rfl⟩
set_option maxRecDepth 100000 in
theorem specCompare_ok (x y : V3) (w : World) (hx : okV3 x = true) (hy : okV3 y = true) :
    Calls Try.prog 18 #[VV x.1 x.2.1 x.2.2, VV y.1 y.2.1 y.2.2] w fun e w' => e = .returned (.tuple #[.int .i64 (cmp3 x y), .int .i64 0]) ∧ Below w.heap.size w w' := by
  obtain ⟨k1, n1, t1⟩ := x
  obtain ⟨k2, n2, t2⟩ := y
  have S1 := fun W => specValueOK_any k1 n1 t1 W
  have S2 := fun W => specValueOK_any k2 n2 t2 W
  rw [show okV k1 n1 t1 = true from hx] at S1
  rw [show okV k2 n2 t2 = true from hy] at S2
  have C := fun W => l01Compare_any k1 n1 t1 k2 n2 t2 W
  have HE : Hid (cmp3 (k1, n1, t1) (k2, n2, t2) = cmpV k1 n1 t1 k2 n2 t2) := rfl
  have W0 : Below w.heap.size w ((w.alloc (.cells #[.int .i64 k1, .int .i64 n1, .string t1] 39)).alloc (.cells #[.int .i64 k2, .int .i64 n2, .string t2] 39)) := ((Below.refl _ _).alloc (Nat.le_refl _) _).alloc (by simp) _
  obtain ⟨w0, hw0⟩ : ∃ w0, ((w.alloc (.cells #[.int .i64 k1, .int .i64 n1, .string t1] 39)).alloc (.cells #[.int .i64 k2, .int .i64 n2, .string t2] 39)) = w0 := ⟨_, rfl⟩
  have HX : Hid (∀ W, Below w0.heap.size w0 W → (W.cell? ⟨w.heap.size, 0, none⟩ = some (.int .i64 k1) ∧ W.cell? ⟨w.heap.size, 1, none⟩ = some (.int .i64 n1) ∧ W.cell? ⟨w.heap.size, 2, none⟩ = some (.string t1)) ∧ (W.cell? ⟨w.heap.size + 1, 0, none⟩ = some (.int .i64 k2) ∧ W.cell? ⟨w.heap.size + 1, 1, none⟩ = some (.int .i64 n2) ∧ W.cell? ⟨w.heap.size + 1, 2, none⟩ = some (.string t2))) := fun W hW => by
    have hs : w0.heap.size = w.heap.size + 2 := by rw [← hw0]; simp
    have c := fun g o (h : g < w.heap.size + 2) => hW.cell (p := ⟨g, o, none⟩) (by rw [hs]; exact h)
    refine ⟨⟨?_, ?_, ?_⟩, ?_, ?_, ?_⟩ <;> rw [c _ _ (by omega), ← hw0] <;> simp
  generalize hcc : cmp3 (k1, n1, t1) (k2, n2, t2) = cc at *
  clear hcc
  rw [hw0] at W0
  obtain ⟨⟨x0, x1, x2⟩, y0, y1, y2⟩ := HX.out w0 (Below.refl _ _)
  go_enter Try.func18, Try.ntmps18
  go_wp2_with fail
  refine (S1 _).mono ?_
  rintro e w1 ⟨rfl, b1⟩
  clear S1 x0 x1 x2 y0 y1 y2
  obtain ⟨⟨x0, x1, x2⟩, y0, y1, y2⟩ := HX.out w1 b1
  go_wp2_with fail
  refine (S2 _).mono ?_
  rintro e w2 ⟨rfl, b2⟩
  have B2 := below_step b1 (Nat.le_refl _) b2
  clear S2 x0 x1 x2 y0 y1 y2
  obtain ⟨⟨x0, x1, x2⟩, y0, y1, y2⟩ := HX.out w2 B2
  go_wp2_with fail
  refine (C _).mono ?_
  rintro e w3 ⟨rfl, b3⟩
  have B3 := W0.trans ((below_step B2 (Nat.le_refl _) b3).mono W0.size)
  clear C
  go_wp2
  go_ret2
  exact ⟨by rw [HE.out]; rfl, B3⟩
set_option maxHeartbeats 2000000 in
theorem sameRows_same (a1 a2 : Option Addr) (c1 c2 : Nat) (rs : Rs) (w : World) (h1 : RowR w a1 rs) (h2 : RowR w a2 rs) (hsm : SmallR rs) :
    Calls Try.prog 17 #[.slice a1 rs.length c1, .slice a2 rs.length c2] w fun e w' => e = .returned (.bool true) ∧ Below w.heap.size w w' := by
  have H1 : Hid (RowR w a1 rs) := h1
  have H2 : Hid (RowR w a2 rs) := h2
  have HM : Hid (∀ i, i < rs.length → (nthR rs i).length ≤ 1048576) := hsm.2
  have hlen := hsm.1
  clear h1 h2 hsm
  generalize hL : rs.length = len at *
  have HL : Hid (rs.length = len) := hL
  clear hL
  go_enter Try.func17, Try.ntmps17
  go_wp2
  go_loopw [5] (fun i wr => ∃ k : Nat, k ≤ len ∧ i = .int .i64 k ∧ Below w.heap.size w wr) (fun i _ => len - (intOf i).toNat)
  case atStart => exact ⟨0, by omega, rfl, Below.refl _ _⟩
  case round =>
    obtain ⟨k, hk, rfl, hbl⟩ := hrel
    by_cases hlt : k < len
    · obtain ⟨b1, o1, x1, d1, rfl, hlb1, hc1, hr1, hsz⟩ := (H1.out.below hbl) k (by rw [HL.out]; exact hlt)
      obtain ⟨b2, o2, x2, d2, rfl, hlb2, hc2, hr2, _⟩ := (H2.out.below hbl) k (by rw [HL.out]; exact hlt)
      have hq := HM.out k hlt
      have hS : ∀ W, RowV W x1 (nthR rs k) → RowV W x2 (nthR rs k) → Calls Try.prog 12 #[.slice x1 (nthR rs k).length d1, .slice x2 (nthR rs k).length d2] W fun e w' => e = .returned (.bool true) ∧ Below W.heap.size W w' := fun W p1 p2 => by
        have := sameRow_any x1 x2 d1 d2 (nthR rs k) (nthR rs k) W p1 p2 (by unfold maxLen; omega)
        rw [(eqRow_iff _ _).2 rfl] at this
        exact this
      have HS : Hid (∀ W, RowV W x1 (nthR rs k) → RowV W x2 (nthR rs k) → Calls Try.prog 12 #[.slice x1 (nthR rs k).length d1, .slice x2 (nthR rs k).length d2] W fun e w' => e = .returned (.bool true) ∧ Below W.heap.size W w') := hS
      clear hS
      generalize nthR rs k = vs at *
      have hP : PairR w b1 (o1 + k) x1 d1 b2 (o2 + k) x2 d2 vs wr.drew := ⟨hc1, hc2, ⟨hr1.below (Below.refl _ _).drew, hr2.below (Below.refl _ _).drew⟩, hlb1, hlb2, hbl.drew⟩
      clear hc1 hc2 hr1 hr2 hlb1 hlb2
      go_wp2_with fail
      go_region_held3 (PairR w b1 (o1 + k) x1 d1 b2 (o2 + k) x2 d2 vs) (first | exact hP | exact PairR.keep (by assumption) hb) (first | (go_at_call 12; refine (HS.out _ (show PairR w b1 (o1 + k) x1 d1 b2 (o2 + k) x2 d2 vs _ by assumption).2.2.1.1 (show PairR w b1 (o1 + k) x1 d1 b2 (o2 + k) x2 d2 vs _ by assumption).2.2.1.2).mono ?_; rintro e wA ⟨rfl, hb⟩))
      all_goals
        have hE : Below w.heap.size w wA := below_step hbl (Nat.le_refl _) ((Below.refl _ _).drew.trans hb)
        go_wp2
        go_roundw
        case rel => exact ⟨k + 1, by omega, by go_num, hE⟩
        case measure => simp [intOf]; omega
    · go_wp2
      go_ret
      exact ⟨rfl, hbl⟩
end Go.Proofs.Ytmcjgncpblbhpaa
