/- A copy of a space, and the oldest epoch that is needed (stage 4). -/
import Derived.Test.YtaklphoplfofbaaStA
namespace Go.Proofs.Ytaklphoplfofbaa
open Go.RowKit

/-- The same of the first k pins. -/
def oldK (e : Int) (qs : List Int) (k : Nat) : Int := (qs.take k).foldl min (max (e - 1) 0)
theorem oldN_snoc (e : Int) (qs : List Int) (k : Nat) (hk : k < qs.length) : oldK e qs (k + 1) = min (oldK e qs k) (nthI qs k) := by
  unfold oldK
  rw [List.take_add_one, List.foldl_append, List.getElem?_eq_getElem hk]
  unfold nthI
  rw [List.getD_eq_getElem?_getD, List.getElem?_eq_getElem hk]
  rfl

set_option maxRecDepth 100000 in
set_option maxHeartbeats 2000000 in
theorem oldest_any (t e : Int) (v1 v2 : Value) (a3 : Option Addr) (c3 : Nat) (qs : List Int) (w : World) (h : RowI w a3 qs) (hl : qs.length ≤ 64) (he : 0 ≤ e) (he2 : e ≤ 1000001) :
    Calls Try.prog 77 #[SV t e v1 v2 (.slice a3 qs.length c3)] w fun r w' => r = .returned (.int .i64 (oldN e qs)) ∧ Below w.heap.size w w' := by
  have HR : Hid (RowI w a3 qs) := h
  clear h
  have B0 : Below w.heap.size w (w.alloc (SC t e v1 v2 (.slice a3 qs.length c3) 29)) := (Below.refl _ _).alloc (Nat.le_refl _) _
  generalize hL : qs.length = len at *
  have HL : Hid (qs.length = len) := hL
  clear hL
  have hk0 : oldK e qs 0 = max (e - 1) 0 := rfl
  have HK0 : Hid (oldK e qs 0 = max (e - 1) 0) := hk0
  clear hk0
  rcases (show (0 ≤ e - 1 ∧ max (e - 1) 0 = e - 1) ∨ (¬ 0 ≤ e - 1 ∧ max (e - 1) 0 = 0) by omega) with ⟨he1, hm⟩ | ⟨he1, hm⟩
  all_goals
    go_enter Try.func77, Try.ntmps77
    go_wp2
    go_loopw [3, 13] (fun acc i wr => ∃ k : Nat, k ≤ len ∧ i = .int .i64 k ∧ acc = .int .i64 (oldK e qs k) ∧ Below w.heap.size w wr) (fun _ i _ => len - (intOf i).toNat)
    case atStart => exact ⟨0, by omega, rfl, by rw [HK0.out]; first | rfl | rw [hm], B0⟩
    case round =>
      clear B0
      obtain ⟨k, hk, rfl, rfl, hbl⟩ := hrel
      by_cases hlt : k < len
      · have hltI : (k : Int) < (len : Int) := by omega
        obtain ⟨b, off, rfl, hlb, hc⟩ := (HR.out.below hbl) k (by rw [HL.out]; exact hlt)
        have HS : Hid (oldK e qs (k + 1) = min (oldK e qs k) (nthI qs k)) := oldN_snoc e qs k (by rw [HL.out]; exact hlt)
        generalize oldK e qs k = x at *
        generalize nthI qs k = y at *
        rcases (show (x ≤ y ∧ min x y = x) ∨ (¬ x ≤ y ∧ min x y = y) by omega) with ⟨hxy, hmn⟩ | ⟨hxy, hmn⟩
        all_goals
          go_wp2
          go_roundw
          case rel => exact ⟨k + 1, by omega, by go_num, (by have := HS.out; go_num), hbl⟩
          case measure => simp [intOf]; omega
      · obtain rfl : k = len := by omega
        have HE : Hid (oldK e qs k = oldN e qs) := by show _ = _; unfold oldN oldK; rw [List.take_of_length_le (by rw [HL.out]; exact Nat.le_refl _)]
        generalize oldK e qs k = x at *
        go_wp2
        go_ret
        exact ⟨ret_int' HE.out, hbl⟩
end Go.Proofs.Ytaklphoplfofbaa
