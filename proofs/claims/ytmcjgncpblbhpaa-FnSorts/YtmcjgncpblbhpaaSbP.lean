/- What the laws hold for the same rows (stage 13). -/
import Derived.Test.YtmcjgncpblbhpaaSbN
namespace Go.Proofs.Ytmcjgncpblbhpaa
open Go.RowKit

set_option maxRecDepth 100000 in
set_option maxHeartbeats 2000000 in
theorem sameRow_any (a1 a2 : Option Addr) (c1 c2 : Nat) (vs us : List V3) (w : World) (h1 : RowV w a1 vs) (h2 : RowV w a2 us) (hl1 : vs.length ≤ maxLen) :
    Calls Try.prog 12 #[.slice a1 vs.length c1, .slice a2 us.length c2] w fun e w' => e = .returned (.bool (eqRow vs us)) ∧ Below w.heap.size w w' := by
  unfold maxLen at hl1
  by_cases hl : vs.length = us.length
  · have H : Hid (RowV w a1 vs ∧ RowV w a2 us ∧ vs.length = us.length) := ⟨h1, h2, hl⟩
    clear h1 h2
    rw [← hl]
    obtain ⟨n, hn⟩ : ∃ n, vs.length = n := ⟨_, rfl⟩
    have HN : Hid (vs.length = n) := hn
    rw [hn] at hl1 ⊢
    clear hl hn
    go_enter Try.func12, Try.ntmps12
    go_wp2
    go_loopw [5] (fun i wr => ∃ k : Nat, k ≤ n ∧ i = .int .i64 k ∧ Hid (∀ j, j < k → eqV3 (nthV vs j) (nthV us j) = true) ∧ Below w.heap.size w wr) (fun i _ => n - (intOf i).toNat)
    case atStart => exact ⟨0, by omega, rfl, fun j hj => by omega, Below.refl _ _⟩
    case round =>
      obtain ⟨k, hk, rfl, HA, hbl⟩ := hrel
      by_cases hlt : k < n
      · have hltI : (k : Int) < (n : Int) := by omega
        have k1 : k < vs.length := by rw [HN.out]; exact hlt
        have k2 : k < us.length := by rw [← H.out.2.2]; exact k1
        obtain ⟨b1, o1, rfl, lb1, ⟨x0, x1, x2⟩, _⟩ := (H.out.1.below hbl) k k1
        obtain ⟨b2, o2, rfl, lb2, ⟨y0, y1, y2⟩, _⟩ := (H.out.2.1.below hbl) k k2
        have Q := fun W => eq_val (nthV vs k).1 (nthV vs k).2.1 (nthV vs k).2.2 (nthV us k).1 (nthV us k).2.1 (nthV us k).2.2 W
        cases he : eqV3 (nthV vs k) (nthV us k) with
        | true =>
          have HA2 : Hid (∀ j, j < k + 1 → eqV3 (nthV vs j) (nthV us j) = true) := allV_step' HA.out he
          have he' : eqV3 ((nthV vs k).1, (nthV vs k).2.1, (nthV vs k).2.2) ((nthV us k).1, (nthV us k).2.1, (nthV us k).2.2) = true := he
          rw [he'] at Q
          clear he he' HA
          generalize nthV vs k = v at *
          generalize nthV us k = u at *
          go_wp2_with fail
          go_quiet (fail)
          go_wp2
          go_roundw
          case rel => exact ⟨k + 1, by omega, by go_num, HA2, below_drewN hbl _⟩
          case measure => simp [intOf]; omega
        | false =>
          have HF : Hid (eqRow vs us = false) := eqRow_bad he
          have he' : eqV3 ((nthV vs k).1, (nthV vs k).2.1, (nthV vs k).2.2) ((nthV us k).1, (nthV us k).2.1, (nthV us k).2.2) = false := he
          rw [he'] at Q
          clear he he' HA
          generalize nthV vs k = v at *
          generalize nthV us k = u at *
          go_wp2_with fail
          go_quiet (fail)
          go_wp2
          go_ret
          exact ⟨ret_bool' HF.out.symm, below_drewN hbl _⟩
      · have HF : Hid (eqRow vs us = true) := eqRow_good H.out.2.2 (fun j hj => HA.out j (by have := HN.out; omega))
        clear HA
        go_wp2
        go_ret
        exact ⟨ret_bool' HF.out.symm, hbl⟩
  · have HF : Hid (eqRow vs us = false) := eqRow_len hl
    have hne : ((vs.length : Int) != (us.length : Int)) = true := by simp; omega
    clear h1 h2 hl
    generalize vs.length = n1 at *
    generalize us.length = n2 at *
    go_enter Try.func12, Try.ntmps12
    go_wp2
    go_ret
    exact ⟨ret_bool' HF.out.symm, Below.refl _ _⟩

end Go.Proofs.Ytmcjgncpblbhpaa
