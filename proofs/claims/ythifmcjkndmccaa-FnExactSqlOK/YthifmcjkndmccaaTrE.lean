/- How many nodes a tree has: the specification (stage 10). -/
import Derived.Test.YthifmcjkndmccaaTrD
namespace Go.Proofs.Ythifmcjkndmccaa
open Go.RowKit

set_option maxRecDepth 100000 in
set_option maxHeartbeats 2000000 in
theorem l10Size_all : ∀ (m : Nat) (x : ND) (ks : Fo) (ka : Option Addr) (kc : Nat) (w : World), ks.size ≤ m → ks.size ≤ 1048576 → RowT 0 w ka 0 ks →
    Calls Try.prog 39 #[ValT x (.slice ka ks.len kc)] w fun e w' => e = .returned (.int .i64 ((ks.size : Int) + 1)) ∧ Below w.heap.size w w' := by
  intro m
  induction m with
  | zero =>
    intro x ks ka kc w hm hsz hrow
    have hl0 : ks.len = 0 := by have := ks.len_le; omega
    have HZ : Hid (ks.size = 0) := (by omega : ks.size = 0)
    rw [hl0]
    clear hm hsz hrow hl0
    have B0 : Below w.heap.size w (w.alloc (.cells #[.int .i64 x.k, .int .i64 x.n, .string x.nm, .string x.of, .int .i64 x.vk, .int .i64 x.vn, .string x.vt, .slice ka 0 kc] 38)) := (Below.refl _ _).alloc (Nat.le_refl _) _
    go_enter Try.func39, Try.ntmps39
    go_wp2
    go_loopw [3, 4] (fun s i wr => s = .int .i64 1 ∧ i = .int .i64 0 ∧ wr = w.alloc (.cells #[.int .i64 x.k, .int .i64 x.n, .string x.nm, .string x.of, .int .i64 x.vk, .int .i64 x.vn, .string x.vt, .slice ka 0 kc] 38)) (fun _ _ _ => 0)
    case atStart => exact ⟨rfl, rfl, rfl⟩
    case round =>
      obtain ⟨rfl, rfl, rfl⟩ := hrel
      go_wp2
      go_ret
      exact ⟨ret_int' (by rw [HZ.out]; rfl), B0⟩
  | succ m ih =>
    intro x ks ka kc w hm hsz hrow
    have HR : Hid (RowT 0 w ka 0 ks) := hrow
    have IH : Hid (∀ (x : ND) (ks : Fo) (ka : Option Addr) (kc : Nat) (w : World), ks.size ≤ m → ks.size ≤ 1048576 → RowT 0 w ka 0 ks → Calls Try.prog 39 #[ValT x (.slice ka ks.len kc)] w fun e w' => e = .returned (.int .i64 ((ks.size : Int) + 1)) ∧ Below w.heap.size w w') := ih
    have HM : Hid (ks.size ≤ m + 1 ∧ ks.size ≤ 1048576) := ⟨hm, hsz⟩
    clear hrow ih hm
    obtain ⟨len, hL⟩ : ∃ m, ks.len = m := ⟨_, rfl⟩
    have HL : Hid (ks.len = len) := hL
    have hlen : len ≤ 1048576 := by have := ks.len_le; omega
    rw [hL]
    clear hL hsz
    have B0 : Below w.heap.size w (w.alloc (.cells #[.int .i64 x.k, .int .i64 x.n, .string x.nm, .string x.of, .int .i64 x.vk, .int .i64 x.vn, .string x.vt, .slice ka len kc] 38)) := (Below.refl _ _).alloc (Nat.le_refl _) _
    have X0 : BoxN w.heap.size x (.slice ka len kc) (w.alloc (.cells #[.int .i64 x.k, .int .i64 x.n, .string x.nm, .string x.of, .int .i64 x.vk, .int .i64 x.vn, .string x.vt, .slice ka len kc] 38)) := BoxN.new 38
    have HB : Hid (Below w.heap.size w _ ∧ BoxN w.heap.size x (.slice ka len kc) _) := ⟨B0, X0⟩
    clear B0 X0
    go_enter Try.func39, Try.ntmps39
    go_wp2
    go_loopw [3, 4] (fun s i wr => ∃ k : Nat, k ≤ len ∧ i = .int .i64 k ∧ s = .int .i64 ((ks.upTo k : Int) + 1) ∧ Hid (Below w.heap.size w wr ∧ BoxN w.heap.size x (.slice ka len kc) wr)) (fun _ i _ => len - (intOf i).toNat)
    case atStart => exact ⟨0, by omega, rfl, by rw [Fo.upTo_zero]; rfl, HB⟩
    case round =>
      obtain ⟨k, hk, rfl, rfl, HW⟩ := hrel
      clear HB
      obtain ⟨⟨_, _, _, _, _, _, _, y7⟩, _⟩ := HW.out.2
      by_cases hlt : k < len
      · have hkf : k < ks.len := by rw [HL.out]; exact hlt
        obtain ⟨b, off, ca, cc, rfl, _, hlb, ⟨c0, c1, c2, c3, c4, c5, c6, c7⟩, _, hkr⟩ := (HR.out.below HW.out.1).at k hkf
        have HU : Hid (ks.upTo (k + 1) = ks.upTo k + (ks.kids k).size + 1) := ks.upTo_succ k hkf
        have hkz : (ks.kids k).size ≤ m ∧ (ks.kids k).size ≤ 1048576 := by have := ks.kids_lt k hkf; have := HM.out; omega
        have hub : ks.upTo (k + 1) ≤ 1048576 := by have := ks.upTo_le (k + 1); have := HM.out; omega
        have HK : Hid (RowT 0 wr ca 0 (ks.kids k) ∧ (ks.kids k).size ≤ m ∧ (ks.kids k).size ≤ 1048576) := ⟨hkr, hkz⟩
        clear hkr hkf
        obtain ⟨u, hu⟩ : ∃ u, ks.upTo k = u := ⟨_, rfl⟩
        have HU1 : Hid (ks.upTo k = u) := hu
        rw [hu]
        have hub' : (u : Int) + 1 + ((ks.kids k).size + 1) ≤ 1048577 := by have := HU.out; rw [hu] at this; omega
        clear hu hub
        go_wp2_with fail
        refine (IH.out (ks.node k) (ks.kids k) ca cc wr HK.out.2.1 HK.out.2.2 HK.out.1).mono ?_
        rintro e w1 ⟨rfl, b1⟩
        have HW1 : Hid (Below w.heap.size w w1 ∧ BoxN w.heap.size x (.slice (some ⟨b, off, none⟩) len kc) w1) := ⟨below_step HW.out.1 (Nat.le_refl _) b1, HW.out.2.below b1⟩
        clear HW y7 c0 c1 c2 c3 c4 c5 c6 c7 b1 hlb
        go_wp2
        go_roundw
        case rel => exact ⟨k + 1, by omega, by go_num, by rw [HU.out, HU1.out]; go_num, HW1⟩
        case measure => simp [intOf]; omega
      · obtain rfl : k = len := by omega
        have HE : Hid (ks.upTo k = ks.size) := by show _ = _; rw [← HL.out, Fo.upTo_len]
        go_wp2
        go_ret
        exact ⟨ret_int' (by rw [HE.out]), HW.out.1⟩
set_option maxRecDepth 100000 in
theorem specSize_any (x : ND) (ks : Fo) (ka : Option Addr) (kc : Nat) (w : World) (hsz : ks.size ≤ 1048576) (hrow : RowT 0 w ka 0 ks) :
    Calls Try.prog 16 #[ValT x (.slice ka ks.len kc)] w fun e w' => e = .returned (.int .i64 ((ks.size : Int) + 1)) ∧ Below w.heap.size w w' := by
  have B0 : Below w.heap.size w (w.alloc (.cells #[.int .i64 x.k, .int .i64 x.n, .string x.nm, .string x.of, .int .i64 x.vk, .int .i64 x.vn, .string x.vt, .slice ka ks.len kc] 38)) := (Below.refl _ _).alloc (Nat.le_refl _) _
  have hc := l10Size_all _ x ks ka kc _ (Nat.le_refl _) hsz (hrow.below B0)
  clear hrow
  go_enter Try.func16, Try.ntmps16
  go_wp2_with fail
  refine hc.mono ?_
  rintro e w1 ⟨rfl, b1⟩
  have B1 := B0.trans (b1.mono B0.size)
  clear hc b1 B0
  go_wp2
  go_ret
  exact ⟨rfl, B1⟩
end Go.Proofs.Ythifmcjkndmccaa
