/- What spec's DiskOK answers. -/
import Derived.Test.YtgfgaiimigchkaaDoorDiskF
namespace Go.Proofs.YtgfgaiimigchkaaDoor
open Go.RowKit

theorem l01In_is {n lo hi : Int} {b : Bool} (h : inB n lo hi = b) (w : World) :
    Calls Tryd.prog 54 #[.int .i64 n, .int .i64 lo, .int .i64 hi] w fun e w' => e = .returned (.bool b) ∧ w' = w := by
  rw [← h]; exact l01In_any n lo hi w
theorem okAt_in {x : Int} {len : Nat} : okAt x len = inB x 0 ((len : Int) - 1) := by
  unfold okAt inB; rw [Bool.eq_iff_iff]; simp; omega

set_option maxRecDepth 100000 in
set_option maxHeartbeats 2000000 in
theorem specDiskOK_any (a a' : Option Addr) (c c' : Nat) (ss : List ByteArray) (ps : List P2) (w : World) (hs : RowS w a ss) (hp : RowP w a' ps) (hls : ss.length ≤ 1048576) (hlp : ps.length ≤ 1048576) :
    Calls Tryd.prog 20 #[DV a ss.length c a' ps.length c'] w fun e w' => e = .returned (.bool (okDisk ss ps)) ∧ Below w.heap.size w w' := by
  have HS : Hid (RowS w a ss) := hs
  have HP : Hid (RowP w a' ps) := hp
  clear hs hp
  have B0 : Below w.heap.size w (w.alloc (.cells #[.slice a ss.length c, .slice a' ps.length c'] 28)) := (Below.refl _ _).alloc (Nat.le_refl _) _
  have X0 : BoxD w.heap.size a ss.length c a' ps.length c' (w.alloc (.cells #[.slice a ss.length c, .slice a' ps.length c'] 28)) := BoxD.new 28
  generalize hL : ss.length = len at *
  generalize hM : ps.length = num at *
  have HL : Hid (ss.length = len) := hL
  have HM : Hid (ps.length = num) := hM
  clear hL hM
  by_cases h0 : inB len 1 256 = true
  · have h0' : 1 ≤ len ∧ len ≤ 256 := by unfold inB at h0; simp at h0; omega
    by_cases h3 : num ≤ 4096
    · obtain ⟨h1, h2⟩ := h0'
      go_enter Tryd.func20, Tryd.ntmps20
      go_wp2_with (go_at_call 54; refine (l01In_any _ _ _ _).mono ?_; rintro e w' ⟨rfl, rfl⟩)
      clear h0
      go_loopw [3] (fun i wr => ∃ k : Nat, k ≤ len ∧ i = .int .i64 k ∧ (∀ j, j < k → (nthS ss j).size = 32) ∧ Below w.heap.size w wr ∧ BoxD w.heap.size a len c a' num c' wr) (fun i _ => len - (intOf i).toNat)
      case atStart => exact ⟨0, by omega, rfl, fun j hj => by omega, B0, X0⟩
      case round =>
        obtain ⟨k, hk, rfl, hall, hbl, hx0, hx1, hx2⟩ := hrel
        by_cases hlt : k < len
        · obtain ⟨b, off, rfl, hlb, hc0, hsz⟩ := (HS.out.below hbl) k (by rw [HL.out]; exact hlt)
          by_cases h32 : (nthS ss k).size = 32
          · clear B0 X0
            have HA : Hid (∀ j, j < k + 1 → (nthS ss j).size = 32) := all_step' hall h32
            clear hall
            go_wp2
            go_roundw
            case rel => exact ⟨k + 1, by omega, by go_num, HA.out, hbl, hx0, hx1, hx2⟩
            case measure => simp [intOf]; omega
          · have H : Hid (okDisk ss ps = false) := okDisk_badS (by rw [HL.out]; exact hlt) h32
            have h32' : ¬ ((nthS ss k).size : Int) = 32 := by omega
            clear hall
            go_wp2
            go_ret
            exact ⟨ret_bool' H.out.symm, hbl⟩
        · have HA : Hid (∀ j, j < len → (nthS ss j).size = 32) := fun j hj => hall j (by omega)
          clear hall B0 X0
          go_wp2
          go_loopw [4] (fun i wr' => ∃ k' : Nat, k' ≤ num ∧ i = .int .i64 k' ∧ (∀ j, j < k' → okAt (nthP ps j).1 len = true ∧ (nthP ps j).2.size = 32) ∧ Below w.heap.size w wr' ∧ BoxD w.heap.size a len c a' num c' wr') (fun i _ => num - (intOf i).toNat)
          case atStart => exact ⟨0, by omega, rfl, fun j hj => by omega, hbl, hx0, hx1, hx2⟩
          case round =>
            clear hbl hx0 hx1 hx2
            obtain ⟨k', hk', rfl, hall, hbl', hx0, hx1, hx2⟩ := hrel
            by_cases hlt' : k' < num
            · obtain ⟨b, off, rfl, hlb, ⟨hc0, hc1⟩, hsz⟩ := (HP.out.below hbl') k' (by rw [HM.out]; exact hlt')
              have HA' : Hid (∀ j, j < k' → okAt (nthP ps j).1 len = true ∧ (nthP ps j).2.size = 32) := hall
              clear hall
              obtain ⟨v, hv⟩ : ∃ v, nthP ps k' = v := ⟨_, rfl⟩
              rw [hv] at hc0 hc1 hsz
              obtain ⟨x, t⟩ := v
              have HV : Hid (nthP ps k' = (x, t)) := hv
              clear hv
              have hltI : (k' : Int) < (num : Int) := by omega
              by_cases hin : inB x 0 ((len : Int) - 1) = true
              · by_cases h32 : t.size = 32
                · have HB : Hid (∀ j, j < k' + 1 → okAt (nthP ps j).1 len = true ∧ (nthP ps j).2.size = 32) := all_step' (P := fun j => okAt (nthP ps j).1 len = true ∧ (nthP ps j).2.size = 32) HA'.out (by rw [HV.out]; exact ⟨okAt_in.trans hin, h32⟩)
                  have h32' : (t.size : Int) = 32 := by omega
                  go_wp2_with fail
                  go_quiet ((go_at_call 54; exact Calls.quiet_of_same (l01In_is hin _)))
                  go_wp2
                  go_roundw
                  case rel => exact ⟨k' + 1, by omega, by go_num, HB.out, below_drewN hbl' _, hx0, hx1, hx2⟩
                  case measure => simp [intOf]; omega
                · have h32' : ¬ (t.size : Int) = 32 := by omega
                  have H : Hid (okDisk ss ps = false) := okDisk_badP (k := k') (by rw [HM.out]; exact hlt') (by rw [HV.out]; exact fun h => h32 h.2)
                  go_wp2_with fail
                  go_quiet ((go_at_call 54; exact Calls.quiet_of_same (l01In_is hin _)))
                  go_wp2
                  go_ret
                  exact ⟨ret_bool' H.out.symm, below_drewN hbl' _⟩
              · have hinF : inB x 0 ((len : Int) - 1) = false := by simpa using hin
                have H : Hid (okDisk ss ps = false) := okDisk_badP (k := k') (by rw [HM.out]; exact hlt') (by rw [HV.out, HL.out]; exact fun h => hin (okAt_in.symm.trans h.1))
                clear hin
                go_wp2_with fail
                go_quiet ((go_at_call 54; exact Calls.quiet_of_same (l01In_is hinF _)))
                go_wp2
                go_ret
                exact ⟨ret_bool' H.out.symm, below_drewN hbl' _⟩
            · have HA' : Hid (∀ j, j < num → okAt (nthP ps j).1 len = true ∧ (nthP ps j).2.size = 32) := fun j hj => hall j (by omega)
              have H : Hid (okDisk ss ps = true) := okDisk_good (by rw [HL.out, HM.out]; exact ⟨h1, h2, h3⟩) (by rw [HL.out]; exact HA.out) (by rw [HL.out, HM.out]; exact HA'.out)
              clear hall
              go_wp2
              go_ret
              exact ⟨ret_bool' H.out.symm, hbl'⟩
    · have H : Hid (okDisk ss ps = false) := okDisk_head (by rw [HL.out, HM.out]; omega)
      clear h0'
      go_enter Tryd.func20, Tryd.ntmps20
      go_wp2_with (go_at_call 54; refine (l01In_any _ _ _ _).mono ?_; rintro e w' ⟨rfl, rfl⟩)
      go_ret
      exact ⟨ret_bool' H.out.symm, B0⟩
  · have h0' : ¬ (1 ≤ len ∧ len ≤ 256) := by unfold inB at h0; simp at h0; omega
    have H : Hid (okDisk ss ps = false) := okDisk_head (by rw [HL.out, HM.out]; omega)
    clear h0'
    have h0f : inB len 1 256 = false := by simpa using h0
    clear h0
    go_enter Tryd.func20, Tryd.ntmps20
    go_wp2_with (go_at_call 54; refine (l01In_any _ _ _ _).mono ?_; rintro e w' ⟨rfl, rfl⟩)
    go_ret
    exact ⟨ret_bool' H.out.symm, B0⟩
end Go.Proofs.YtgfgaiimigchkaaDoor
