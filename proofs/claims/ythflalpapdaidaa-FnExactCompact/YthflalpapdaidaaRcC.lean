/- The codes of forests with roots, on both sides (stage 5). -/
import Derived.Test.YthflalpapdaidaaRcB
import Derived.Test.YthflalpapdaidaaRcM
namespace Go.Proofs.Ythflalpapdaidaa
open Go.RowKit

theorem l01In_is5 {n lo hi : Int} {r : Bool} (h : inB n lo hi = r) (w : World) : Calls Try.prog 80 #[.int .i64 n, .int .i64 lo, .int .i64 hi] w fun e w' => e = .returned (.bool r) ∧ w' = w := by rw [← h]; exact l01In_any n lo hi w
/-- All roots are nodes or none. -/
def RgP (ns : List Nd) (rs : List Int) : Prop := ∀ j, j < rs.length → -1 ≤ nthI rs j ∧ nthI rs j < (ns.length : Int)
noncomputable def rtC (ns : List Nd) (rs : List Int) : Int := if 4096 < rs.length then 2 else if asB (ForOK ns) = false then 1 else if asB (RgP ns rs) = true then 0 else 4
set_option maxRecDepth 100000 in
set_option maxHeartbeats 4000000 in
theorem rootsCode_any (a ra : Option Addr) (cap rc : Nat) (ns : List Nd) (rs : List Int) (w : World) (h : RowN w a ns) (hr : RowI w ra rs) (hlen : ns.length ≤ 1048576) (hsm : ∀ i, i < ns.length → SmallN (nthN ns i)) (hrl : rs.length ≤ 1048576) :
    Calls Try.prog 70 #[FV (.slice a ns.length cap), .slice ra rs.length rc] w fun e w' => e = .returned (.int .i64 (rtC ns rs)) ∧ Below w.heap.size w w' := by
  have B0 : Below w.heap.size w (w.alloc (.cells #[.slice a ns.length cap] 25)) := (Below.refl _ _).alloc (Nat.le_refl _) _
  have X0 : Hid (BoxF w.heap.size (.slice a ns.length cap) (w.alloc (.cells #[.slice a ns.length cap] 25))) := BoxF.new 25
  have hc := implForestOK_any a cap ns _ (h.below B0) hlen hsm
  have HR : Hid (RowI w ra rs) := hr
  have HE : Hid (rtC ns rs = if 4096 < rs.length then 2 else if asB (ForOK ns) = false then 1 else if asB (RgP ns rs) = true then 0 else 4) := rfl
  clear h hr hsm
  obtain ⟨m, hm⟩ : ∃ m, rs.length = m := ⟨_, rfl⟩
  have HM : Hid (rs.length = m) := hm
  rw [hm] at hrl HE ⊢
  clear hm
  obtain ⟨n, hn⟩ : ∃ n, ns.length = n := ⟨_, rfl⟩
  have HN : Hid (ns.length = n) := hn
  rw [hn] at hlen hc X0 B0 ⊢
  clear hn
  by_cases h4 : (4096 : Int) < (m : Int)
  · have E : Hid (rtC ns rs = 2) := by show _ = _; rw [HE.out, if_pos (by omega)]
    go_enter Try.func70, Try.ntmps70
    go_wp2
    go_ret
    exact ⟨ret_int' E.out.symm, B0⟩
  go_enter Try.func70, Try.ntmps70
  go_wp2_with fail
  refine hc.mono ?_
  rintro e w1 ⟨rfl, b1⟩
  have B1 := B0.trans (b1.mono B0.size)
  have X1 : Hid (BoxF w.heap.size (.slice a n cap) w1) := X0.out.below b1
  clear hc b1 B0 X0
  cases hp : asB (ForOK ns) with
  | false =>
    have E : Hid (rtC ns rs = 1) := by show _ = _; rw [HE.out, if_neg (by omega), hp]; rfl
    clear hp
    go_wp2
    go_ret
    exact ⟨ret_int' E.out.symm, B1⟩
  | true =>
    have E : Hid (rtC ns rs = if asB (RgP ns rs) = true then 0 else 4) := by show _ = _; rw [HE.out, if_neg (by omega), hp]; rfl
    clear hp
    go_wp2
    go_loopw [15] (fun i wr => ∃ k : Nat, k ≤ m ∧ i = .int .i64 k ∧ Hid (∀ j, j < k → -1 ≤ nthI rs j ∧ nthI rs j < (ns.length : Int)) ∧ Hid (Below w.heap.size w wr ∧ BoxF w.heap.size (.slice a n cap) wr)) (fun i _ => m - (intOf i).toNat)
    case atStart => exact ⟨0, by omega, rfl, fun j hj => by omega, ⟨B1, X1.out⟩⟩
    case round =>
      clear B1 X1
      obtain ⟨k, hk, rfl, HS, HB⟩ := hrel
      have y0 := HB.out.2.1
      by_cases hlt : k < m
      · obtain ⟨b, off, rfl, hlb, hc0⟩ := (HR.out.below HB.out.1) k (by rw [HM.out]; exact hlt)
        have hltI : (k : Int) < (m : Int) := by omega
        obtain ⟨q, hq⟩ : ∃ q, nthI rs k = q := ⟨_, rfl⟩
        have HQ : Hid (nthI rs k = q) := hq
        rw [hq] at hc0
        clear hq
        have HF : Hid (¬ (-1 ≤ q ∧ q < (n : Int)) → rtC ns rs = 4) := fun hbad => by
          rw [E.out, ← asB_false (fun hh : RgP ns rs => hbad (by have := hh k (by rw [HM.out]; exact hlt); rw [HQ.out, HN.out] at this; exact this))]
          rfl
        have HS2 : Hid (-1 ≤ q ∧ q < (n : Int) → ∀ j, j < k + 1 → -1 ≤ nthI rs j ∧ nthI rs j < (ns.length : Int)) := fun hh j hj => by
          by_cases e : j = k
          · rw [e, HQ.out, HN.out]; exact hh
          · exact HS.out j (by omega)
        clear HS
        by_cases h1 : q < -1
        · have E4 : Hid (rtC ns rs = 4) := HF.out (by omega)
          go_wp2
          go_ret
          exact ⟨ret_int' E4.out.symm, HB.out.1⟩
        by_cases h2 : (n : Int) ≤ q
        · have E4 : Hid (rtC ns rs = 4) := HF.out (by omega)
          go_wp2
          go_ret
          exact ⟨ret_int' E4.out.symm, HB.out.1⟩
        have HS3 : Hid (∀ j, j < k + 1 → -1 ≤ nthI rs j ∧ nthI rs j < (ns.length : Int)) := HS2.out (by omega)
        clear HS2 HF
        go_wp2
        go_roundw
        case rel => exact ⟨k + 1, by omega, by go_num, HS3, HB⟩
        case measure => simp [intOf]; omega
      · obtain rfl : k = m := by omega
        have E0 : Hid (rtC ns rs = 0) := by show _ = _; rw [E.out, ← asB_true (show RgP ns rs from fun j hj => HS.out j (by rw [← HM.out]; exact hj))]; rfl
        go_wp2
        go_ret
        exact ⟨ret_int' E0.out.symm, HB.out.1⟩
set_option maxRecDepth 100000 in
set_option maxHeartbeats 4000000 in
theorem l05Roots_any (a ra : Option Addr) (cap rc : Nat) (ns : List Nd) (rs : List Int) (w : World) (h : RowN w a ns) (hr : RowI w ra rs) (hlen : ns.length ≤ 1048576) (hsm : ∀ i, i < ns.length → SmallN (nthN ns i)) (hrl : rs.length ≤ 1048576) :
    Calls Try.prog 72 #[FV (.slice a ns.length cap), .slice ra rs.length rc] w fun e w' => e = .returned (.int .i64 (rtC ns rs)) ∧ Below w.heap.size w w' := by
  have B0 : Below w.heap.size w (w.alloc (.cells #[.slice a ns.length cap] 25)) := (Below.refl _ _).alloc (Nat.le_refl _) _
  have X0 : Hid (BoxF w.heap.size (.slice a ns.length cap) (w.alloc (.cells #[.slice a ns.length cap] 25))) := BoxF.new 25
  have hc := specForestOK_any a cap ns _ (h.below B0) hlen hsm
  have HR : Hid (RowI w ra rs) := hr
  have HE : Hid (rtC ns rs = if 4096 < rs.length then 2 else if asB (ForOK ns) = false then 1 else if asB (RgP ns rs) = true then 0 else 4) := rfl
  clear h hr hsm
  obtain ⟨m, hm⟩ : ∃ m, rs.length = m := ⟨_, rfl⟩
  have HM : Hid (rs.length = m) := hm
  rw [hm] at hrl HE ⊢
  clear hm
  obtain ⟨n, hn⟩ : ∃ n, ns.length = n := ⟨_, rfl⟩
  have HN : Hid (ns.length = n) := hn
  rw [hn] at hlen hc X0 B0 ⊢
  clear hn
  by_cases h4 : (4096 : Int) < (m : Int)
  · have E : Hid (rtC ns rs = 2) := by show _ = _; rw [HE.out, if_pos (by omega)]
    go_enter Try.func72, Try.ntmps72
    go_wp2
    go_ret
    exact ⟨ret_int' E.out.symm, B0⟩
  go_enter Try.func72, Try.ntmps72
  go_wp2_with fail
  refine hc.mono ?_
  rintro e w1 ⟨rfl, b1⟩
  have B1 := B0.trans (b1.mono B0.size)
  have X1 : Hid (BoxF w.heap.size (.slice a n cap) w1) := X0.out.below b1
  clear hc b1 B0 X0
  cases hp : asB (ForOK ns) with
  | false =>
    have E : Hid (rtC ns rs = 1) := by show _ = _; rw [HE.out, if_neg (by omega), hp]; rfl
    clear hp
    go_wp2
    go_ret
    exact ⟨ret_int' E.out.symm, B1⟩
  | true =>
    have E : Hid (rtC ns rs = if asB (RgP ns rs) = true then 0 else 4) := by show _ = _; rw [HE.out, if_neg (by omega), hp]; rfl
    clear hp
    go_wp2
    go_loopw [5] (fun i wr => ∃ k : Nat, k ≤ m ∧ i = .int .i64 k ∧ Hid (∀ j, j < k → -1 ≤ nthI rs j ∧ nthI rs j < (ns.length : Int)) ∧ Hid (Below w.heap.size w wr ∧ BoxF w.heap.size (.slice a n cap) wr)) (fun i _ => m - (intOf i).toNat)
    case atStart => exact ⟨0, by omega, rfl, fun j hj => by omega, ⟨B1, X1.out⟩⟩
    case round =>
      clear B1 X1
      obtain ⟨k, hk, rfl, HS, HB⟩ := hrel
      have y0 := HB.out.2.1
      by_cases hlt : k < m
      · obtain ⟨b, off, rfl, hlb, hc0⟩ := (HR.out.below HB.out.1) k (by rw [HM.out]; exact hlt)
        have hltI : (k : Int) < (m : Int) := by omega
        obtain ⟨q, hq⟩ : ∃ q, nthI rs k = q := ⟨_, rfl⟩
        have HQ : Hid (nthI rs k = q) := hq
        rw [hq] at hc0
        clear hq
        have HF : Hid (¬ (-1 ≤ q ∧ q < (n : Int)) → rtC ns rs = 4) := fun hbad => by
          rw [E.out, ← asB_false (fun hh : RgP ns rs => hbad (by have := hh k (by rw [HM.out]; exact hlt); rw [HQ.out, HN.out] at this; exact this))]
          rfl
        have HS2 : Hid (-1 ≤ q ∧ q < (n : Int) → ∀ j, j < k + 1 → -1 ≤ nthI rs j ∧ nthI rs j < (ns.length : Int)) := fun hh j hj => by
          by_cases e : j = k
          · rw [e, HQ.out, HN.out]; exact hh
          · exact HS.out j (by omega)
        clear HS
        have HBD : Hid (∀ nq, Below w.heap.size w (wr.drewN nq) ∧ BoxF w.heap.size (.slice a n cap) (wr.drewN nq)) := fun nq => ⟨below_drewN HB.out.1 nq, HB.out.2.below (below_drewN (Below.refl _ _) nq)⟩
        cases hin : inB q (-1) ((n : Int) - 1) with
        | false =>
          have E4 : Hid (rtC ns rs = 4) := HF.out (by unfold inB at hin; simp at hin; omega)
          have hi : Hid (inB q (-1) ((n : Int) - 1) = false) := hin
          clear HS2 HF hin
          go_wp2_with fail
          go_quiet ((go_at_call 80; exact Calls.quiet_of_same (l01In_is5 hi.out _)))
          have XQ : Hid (Below w.heap.size w (wr.drewN nq) ∧ BoxF w.heap.size (.slice a n cap) (wr.drewN nq)) := HBD.out nq
          clear HBD y0
          go_wp2
          go_ret
          exact ⟨ret_int' E4.out.symm, XQ.out.1⟩
        | true =>
          have HS3 : Hid (∀ j, j < k + 1 → -1 ≤ nthI rs j ∧ nthI rs j < (ns.length : Int)) := HS2.out (by unfold inB at hin; simp at hin; omega)
          have hi : Hid (inB q (-1) ((n : Int) - 1) = true) := hin
          clear HS2 HF hin
          go_wp2_with fail
          go_quiet ((go_at_call 80; exact Calls.quiet_of_same (l01In_is5 hi.out _)))
          have XQ : Hid (Below w.heap.size w (wr.drewN nq) ∧ BoxF w.heap.size (.slice a n cap) (wr.drewN nq)) := HBD.out nq
          clear HBD y0
          go_wp2
          go_roundw
          case rel => exact ⟨k + 1, by omega, by go_num, HS3, XQ⟩
          case measure => simp [intOf]; omega
      · obtain rfl : k = m := by omega
        have E0 : Hid (rtC ns rs = 0) := by show _ = _; rw [E.out, ← asB_true (show RgP ns rs from fun j hj => HS.out j (by rw [← HM.out]; exact hj))]; rfl
        go_wp2
        go_ret
        exact ⟨ret_int' E0.out.symm, HB.out.1⟩
end Go.Proofs.Ythflalpapdaidaa
