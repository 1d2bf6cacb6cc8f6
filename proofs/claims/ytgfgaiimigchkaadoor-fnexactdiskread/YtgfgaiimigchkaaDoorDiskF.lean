/- What both sides' DiskOK answer. -/
import Derived.Test.YtgfgaiimigchkaaDoorDiskE
namespace Go.Proofs.YtgfgaiimigchkaaDoor
open Go.RowKit

theorem all_step' {P : Nat → Prop} {k : Nat} (h : ∀ j, j < k → P j) (hk : P k) : ∀ j, j < k + 1 → P j := fun j hj => by
  by_cases e : j = k
  · rw [e]; exact hk
  · exact h j (by omega)

/-- A disk lies in block b. -/
abbrev BoxD (b : Nat) (a : Option Addr) (n c : Nat) (a' : Option Addr) (n' c' : Nat) (w : World) : Prop :=
  w.cell? ⟨b, 0, none⟩ = some (.slice a n c) ∧ w.cell? ⟨b, 1, none⟩ = some (.slice a' n' c') ∧ b < w.heap.size
theorem BoxD.below {b : Nat} {a : Option Addr} {n c : Nat} {a' : Option Addr} {n' c' : Nat} {w w' : World} (h : BoxD b a n c a' n' c' w) (hb : Below w.heap.size w w') : BoxD b a n c a' n' c' w' :=
  ⟨(hb.cell (p := ⟨b, 0, none⟩) h.2.2).trans h.1, (hb.cell (p := ⟨b, 1, none⟩) h.2.2).trans h.2.1, Nat.lt_of_lt_of_le h.2.2 hb.size⟩
theorem BoxD.new {a : Option Addr} {n c : Nat} {a' : Option Addr} {n' c' : Nat} {w : World} (t : TypeId) : BoxD w.heap.size a n c a' n' c' (w.alloc (.cells #[.slice a n c, .slice a' n' c'] t)) :=
  ⟨by go_simp, by go_simp, by simp⟩

set_option maxRecDepth 100000 in
set_option maxHeartbeats 2000000 in
theorem implDiskOK_any (a a' : Option Addr) (c c' : Nat) (ss : List ByteArray) (ps : List P2) (t0 t1 : TypeId) (v0 v1 : Value) (w : World) (hs : RowS w a ss) (hp : RowP w a' ps) (hg : Gl w (.iface t0 v0) (.iface t1 v1)) (hls : ss.length ≤ 1048576) (hlp : ps.length ≤ 1048576) :
    Calls Tryd.prog 13 #[DV a ss.length c a' ps.length c'] w fun e w' => e = .returned (.bool (okDisk ss ps)) ∧ Below w.heap.size w w' := by
  have HS : Hid (RowS w a ss) := hs
  have HP : Hid (RowP w a' ps) := hp
  have HG : Hid (Gl w (.iface t0 v0) (.iface t1 v1)) := hg
  clear hs hp hg
  have B0 : Below w.heap.size w (w.alloc (.cells #[.slice a ss.length c, .slice a' ps.length c'] 28)) := (Below.refl _ _).alloc (Nat.le_refl _) _
  have X0 : BoxD w.heap.size a ss.length c a' ps.length c' (w.alloc (.cells #[.slice a ss.length c, .slice a' ps.length c'] 28)) := BoxD.new 28
  generalize hL : ss.length = len at *
  generalize hM : ps.length = num at *
  have HL : Hid (ss.length = len) := hL
  have HM : Hid (ps.length = num) := hM
  clear hL hM
  by_cases hh : 1 ≤ len ∧ len ≤ 256 ∧ num ≤ 4096
  · obtain ⟨h1, h2, h3⟩ := hh
    go_enter Tryd.func13, Tryd.ntmps13
    go_wp2
    go_loopw [26] (fun i wr => ∃ k : Nat, k ≤ len ∧ i = .int .i64 k ∧ (∀ j, j < k → (nthS ss j).size = 32) ∧ Below w.heap.size w wr ∧ BoxD w.heap.size a len c a' num c' wr) (fun i _ => len - (intOf i).toNat)
    case atStart => exact ⟨0, by omega, rfl, fun j hj => by omega, B0, X0⟩
    case round =>
      obtain ⟨k, hk, rfl, hall, hbl, hX⟩ := hrel
      by_cases hlt : k < len
      · obtain ⟨b, off, rfl, hlb, hc0, hsz⟩ := (HS.out.below hbl) k (by rw [HL.out]; exact hlt)
        by_cases h32 : (nthS ss k).size = 32
        · clear B0 X0
          have hX' := hX
          have HA : Hid (∀ j, j < k + 1 → (nthS ss j).size = 32) := all_step' hall h32
          clear hall hX'
          go_wp2
          go_roundw
          case rel => exact ⟨k + 1, by omega, by go_num, HA.out, hbl, hX⟩
          case measure => simp [intOf]; omega
        · have H : Hid (okDisk ss ps = false) := okDisk_badS (by rw [HL.out]; exact hlt) h32
          have h32' : ¬ ((nthS ss k).size : Int) = 32 := by omega
          clear hall
          go_wp2
          go_ret
          exact ⟨ret_bool' H.out.symm, hbl⟩
      · have HA : Hid (∀ j, j < len → (nthS ss j).size = 32) := fun j hj => hall j (by omega)
        obtain ⟨hx0, hx1, hx2⟩ := hX
        clear hall
        go_wp2
        go_loopw [37] (fun i wr' => ∃ k' : Nat, k' ≤ num ∧ i = .int .i64 k' ∧ (∀ j, j < k' → okAt (nthP ps j).1 len = true ∧ (nthP ps j).2.size = 32) ∧ Below w.heap.size w wr' ∧ BoxD w.heap.size a len c a' num c' wr') (fun i _ => num - (intOf i).toNat)
        case atStart => exact ⟨0, by omega, rfl, fun j hj => by omega, hbl, hx0, hx1, hx2⟩
        case round =>
          obtain ⟨k', hk', rfl, hall, hbl', hX⟩ := hrel
          obtain ⟨hx0, hx1, hx2⟩ := hX
          by_cases hlt' : k' < num
          · obtain ⟨b, off, rfl, hlb, ⟨hc0, hc1⟩, hsz⟩ := (HP.out.below hbl') k' (by rw [HM.out]; exact hlt')
            have HA' : Hid (∀ j, j < k' → okAt (nthP ps j).1 len = true ∧ (nthP ps j).2.size = 32) := hall
            clear hall
            obtain ⟨v, hv⟩ : ∃ v, nthP ps k' = v := ⟨_, rfl⟩
            rw [hv] at hc0 hc1 hsz
            obtain ⟨x, t⟩ := v
            have HV : Hid (nthP ps k' = (x, t)) := hv
            clear B0 X0 hbl hv
            have B1 : Below w.heap.size w (wr.alloc (.cells #[.int .i64 x, .string t] 46)) := hbl'.alloc hbl'.size _
            by_cases hok : okAt x len = true ∧ t.size = 32
            · have hw : wrErr (x, t) len (.iface t0 v0) (.iface t1 v1) = .nilIface := by unfold wrErr; rw [if_pos hok.1, if_pos hok.2]
              have HB : Hid (∀ j, j < k' + 1 → okAt (nthP ps j).1 len = true ∧ (nthP ps j).2.size = 32) := all_step' (P := fun j => okAt (nthP ps j).1 len = true ∧ (nthP ps j).2.size = 32) HA'.out (by rw [HV.out]; exact hok)
              clear hok
              go_wp2_with fail
              refine (checkWrite_any x t a _ len c num c' t0 t1 v0 v1 _ (Gl.below HG.out B1)).mono ?_
              rintro e w2 ⟨rfl, hb2⟩
              rw [hw]
              have B2 := B1.trans (hb2.mono B1.size)
              have X2 : BoxD w.heap.size a len c (some ⟨b, off, none⟩) num c' w2 := by
                have Y : BoxD w.heap.size a len c (some ⟨b, off, none⟩) num c' (wr.alloc (.cells #[.int .i64 x, .string t] 46)) := BoxD.below (w := wr) ⟨hx0, hx1, hx2⟩ ((Below.refl _ _).alloc (Nat.le_refl _) _)
                exact Y.below hb2
              clear hc0 hc1 hlb hb2 hx0 hx1 hx2 B1 hw
              go_wp2
              go_roundw
              case rel => exact ⟨k' + 1, by omega, by go_num, HB.out, B2, X2⟩
              case measure => simp [intOf]; omega
            · obtain ⟨u, hw⟩ : ∃ u, wrErr (x, t) len (.iface t0 v0) (.iface t1 v1) = .iface 113 u := by
                unfold wrErr
                split
                · split
                  · exact absurd ⟨by assumption, by assumption⟩ hok
                  · exact ⟨_, rfl⟩
                · exact ⟨_, rfl⟩
              have H : Hid (okDisk ss ps = false) := okDisk_badP (k := k') (by rw [HM.out]; exact hlt') (by rw [HV.out, HL.out]; exact hok)
              clear hok
              go_wp2_with fail
              refine (checkWrite_any x t a _ len c num c' t0 t1 v0 v1 _ (Gl.below HG.out B1)).mono ?_
              rintro e w2 ⟨rfl, hb2⟩
              rw [hw]
              have B2 := B1.trans (hb2.mono B1.size)
              clear hc0 hc1 hlb hb2 hx0 hx1 hx2 B1 hw
              go_wp2
              go_ret
              exact ⟨ret_bool' H.out.symm, B2⟩
          · have HA' : Hid (∀ j, j < num → okAt (nthP ps j).1 len = true ∧ (nthP ps j).2.size = 32) := fun j hj => hall j (by omega)
            have H : Hid (okDisk ss ps = true) := okDisk_good (by rw [HL.out, HM.out]; exact ⟨h1, h2, h3⟩) (by rw [HL.out]; exact HA.out) (by rw [HL.out, HM.out]; exact HA'.out)
            clear hall
            go_wp2
            go_ret
            exact ⟨ret_bool' H.out.symm, hbl'⟩
  · have H : Hid (okDisk ss ps = false) := okDisk_head (by rw [HL.out, HM.out]; exact hh)
    by_cases h1 : len < 1
    · go_enter Tryd.func13, Tryd.ntmps13
      go_wp2
      go_ret
      exact ⟨ret_bool' H.out.symm, B0⟩
    by_cases h2 : 256 < len
    · go_enter Tryd.func13, Tryd.ntmps13
      go_wp2
      go_ret
      exact ⟨ret_bool' H.out.symm, B0⟩
    have h3 : 4096 < num := by omega
    go_enter Tryd.func13, Tryd.ntmps13
    go_wp2
    go_ret
    exact ⟨ret_bool' H.out.symm, B0⟩
end Go.Proofs.YtgfgaiimigchkaaDoor
