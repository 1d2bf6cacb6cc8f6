/- Rows that are right (stage 13). -/
import Derived.Test.YtepkdodicglilaaGreatVlD
namespace Go.Proofs.YtepkdodicglilaaGreat
open Go.ChangeShapes Go.WideShapes Go.ChangeAt Go.RowKit Go.Joins

/-- A right row. -/
def okRow (vs : List V3) : Bool := decide (vs.length ≤ 8) && vs.all okV3
theorem okRow_long {vs : List V3} (h : 8 < vs.length) : okRow vs = false := by
  unfold okRow; have : decide (vs.length ≤ 8) = false := by simp; omega
  rw [this]; rfl
theorem okRow_bad {vs : List V3} {k : Nat} (hk : k < vs.length) (h : okV3 (nthV vs k) = false) : okRow vs = false := by
  unfold okRow
  have : vs.all okV3 = false := by
    rw [List.all_eq_false]
    refine ⟨vs[k], List.getElem_mem hk, ?_⟩
    unfold nthV at h
    rw [List.getD_eq_getElem?_getD, List.getElem?_eq_getElem hk] at h
    simpa using h
  rw [this]; simp
theorem okRow_good {vs : List V3} (h8 : vs.length ≤ 8) (h : ∀ j, j < vs.length → okV3 (nthV vs j) = true) : okRow vs = true := by
  unfold okRow
  simp only [Bool.and_eq_true, decide_eq_true_eq, List.all_eq_true]
  refine ⟨h8, fun x hx => ?_⟩
  obtain ⟨i, hi, rfl⟩ := List.getElem_of_mem hx
  have := h i hi
  unfold nthV at this
  rwa [List.getD_eq_getElem?_getD, List.getElem?_eq_getElem hi] at this
set_option maxHeartbeats 1000000 in
theorem l01Row_any (a : Option Addr) (cap : Nat) (vs : List V3) (w : World) (hrow : RowV w a vs) (hlen : vs.length ≤ 1048576) :
    Calls Tryz.prog 21 #[.slice a vs.length cap] w fun e w' => e = .returned (.bool (okRow vs)) ∧ Below w.heap.size w w' := by
  have H1 : Hid (RowV w a vs) := hrow
  clear hrow
  generalize hL : vs.length = len at *
  have HL : Hid (vs.length = len) := hL
  clear hL
  by_cases h8 : 8 < len
  · have HR : Hid (okRow vs = false) := okRow_long (by rw [HL.out]; exact h8)
    go_enter Tryz.func21, Tryz.ntmps21
    go_wp2
    go_ret
    exact ⟨ret_bool' HR.out.symm, Below.refl _ _⟩
  go_enter Tryz.func21, Tryz.ntmps21
  go_wp2
  go_loopw [3] (fun i wr => ∃ k : Nat, k ≤ len ∧ i = .int .i64 k ∧ Hid (∀ j, j < k → okV3 (nthV vs j) = true) ∧ Below w.heap.size w wr) (fun i _ => len - (intOf i).toNat)
  case atStart => exact ⟨0, by omega, rfl, fun j hj => by omega, Below.refl _ _⟩
  case round =>
    obtain ⟨k, hk, rfl, HA, hbl⟩ := hrel
    by_cases hlt : k < len
    · obtain ⟨b, off, rfl, hlb, ⟨hc0, hc1, hc2⟩, hsz⟩ := (H1.out.below hbl) k (by rw [HL.out]; exact hlt)
      have hltI : (k : Int) < (len : Int) := by omega
      by_cases hok : okV (nthV vs k).1 (nthV vs k).2.1 (nthV vs k).2.2 = true
      · have HK : Hid (okV3 (nthV vs k) = true) := hok
        go_wp2_with fail
        refine (specValueOK_any _ _ _ _).mono ?_
        rintro e w1 ⟨rfl, hb1⟩
        have hB := below_step hbl (Nat.le_refl _) hb1
        clear hc0 hc1 hc2 hb1
        go_wp2
        go_roundw
        case rel => exact ⟨k + 1, by omega, by go_num, allV_step' HA.out HK.out, hB⟩
        case measure => simp [intOf]; omega
      · have hok' : okV (nthV vs k).1 (nthV vs k).2.1 (nthV vs k).2.2 = false := by simpa using hok
        have HR : Hid (okRow vs = false) := okRow_bad (by rw [HL.out]; exact hlt) hok'
        clear hok
        go_wp2_with fail
        refine (specValueOK_any _ _ _ _).mono ?_
        rintro e w1 ⟨rfl, hb1⟩
        have hB := below_step hbl (Nat.le_refl _) hb1
        clear hc0 hc1 hc2 hb1
        go_wp2
        go_ret
        exact ⟨ret_bool' HR.out.symm, hB⟩
    · have HR : Hid (okRow vs = true) := okRow_good (by rw [HL.out]; omega) (fun j hj => HA.out j (by have := HL.out; omega))
      go_wp2
      go_ret
      exact ⟨ret_bool' HR.out.symm, hbl⟩

end Go.Proofs.YtepkdodicglilaaGreat
