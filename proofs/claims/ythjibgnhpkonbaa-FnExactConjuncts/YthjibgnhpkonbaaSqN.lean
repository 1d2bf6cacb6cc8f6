/- The specification's l10Left (stage 14). -/
import Derived.Test.YthjibgnhpkonbaaSqE
import Derived.Test.YthjibgnhpkonbaaSqJ
namespace Go.Proofs.Ythjibgnhpkonbaa
open Go.RowKit

/-- So many nodes are left, and none stands too deep. -/
def LeftOK (ks : Fo) (left depth : Int) : Prop := (ks.size : Int) + 1 ≤ left ∧ depth + (ks.dep : Int) ≤ 20
def LeC (m : Nat) : Prop := ∀ (x : ND) (ks : Fo) (ka : Option Addr) (kc : Nat) (left depth : Int) (w : World), ks.size ≤ m → ks.size ≤ 1048576 → 0 ≤ left → left ≤ 120 → 1 ≤ depth → depth ≤ 21 → RowT 0 w ka 0 ks →
    Calls Try.prog 30 #[ValT x (.slice ka ks.len kc), .int .i64 left, .int .i64 depth] w fun e w' => ∃ r : Int, e = .returned (.int .i64 r) ∧ -1 ≤ r ∧ (LeftOK ks left depth → r = left - ((ks.size : Int) + 1)) ∧ (¬ LeftOK ks left depth → r < 0) ∧ Below w.heap.size w w'
set_option maxRecDepth 100000 in
set_option maxHeartbeats 4000000 in
theorem l10Left_step (m : Nat) (ih : ∀ (x : ND) (ks : Fo) (ka : Option Addr) (kc : Nat) (left depth : Int) (w : World), ks.size < m → ks.size ≤ 1048576 → 0 ≤ left → left ≤ 120 → 1 ≤ depth → depth ≤ 21 → RowT 0 w ka 0 ks →
    Calls Try.prog 30 #[ValT x (.slice ka ks.len kc), .int .i64 left, .int .i64 depth] w fun e w' => ∃ r : Int, e = .returned (.int .i64 r) ∧ -1 ≤ r ∧ (LeftOK ks left depth → r = left - ((ks.size : Int) + 1)) ∧ (¬ LeftOK ks left depth → r < 0) ∧ Below w.heap.size w w') : LeC m := by
  intro x ks ka kc left depth w hm hsz h0 h1 h2 h3 hrow
  have HR : Hid (RowT 0 w ka 0 ks) := hrow
  have IH : Hid (∀ (x : ND) (ks : Fo) (ka : Option Addr) (kc : Nat) (left depth : Int) (w : World), ks.size < m → ks.size ≤ 1048576 → 0 ≤ left → left ≤ 120 → 1 ≤ depth → depth ≤ 21 → RowT 0 w ka 0 ks →
    Calls Try.prog 30 #[ValT x (.slice ka ks.len kc), .int .i64 left, .int .i64 depth] w fun e w' => ∃ r : Int, e = .returned (.int .i64 r) ∧ -1 ≤ r ∧ (LeftOK ks left depth → r = left - ((ks.size : Int) + 1)) ∧ (¬ LeftOK ks left depth → r < 0) ∧ Below w.heap.size w w') := ih
  have HM : Hid (ks.size ≤ m ∧ ks.size ≤ 1048576) := ⟨hm, hsz⟩
  have HD : Hid (∀ l d, LeftOK ks l d ↔ (ks.size : Int) + 1 ≤ l ∧ d + (ks.dep : Int) ≤ 20) := fun _ _ => Iff.rfl
  clear hrow ih hm
  obtain ⟨len, hL⟩ : ∃ m, ks.len = m := ⟨_, rfl⟩
  have HL : Hid (ks.len = len) := hL
  have hlen : len ≤ 1048576 := by have := ks.len_le; omega
  rw [hL]
  clear hL hsz
  have B0 : Below w.heap.size w (w.alloc (.cells #[.int .i64 x.k, .int .i64 x.n, .string x.nm, .string x.of, .int .i64 x.vk, .int .i64 x.vn, .string x.vt, .slice ka len kc] 33)) := (Below.refl _ _).alloc (Nat.le_refl _) _
  by_cases hd : 20 < depth
  · go_enter Try.func30, Try.ntmps30
    go_wp2
    go_ret
    exact ⟨-1, rfl, by omega, fun h => by have := (HD.out _ _).1 h; omega, fun _ => by omega, B0⟩
  have HB : Hid (Below w.heap.size w (w.alloc (.cells #[.int .i64 x.k, .int .i64 x.n, .string x.nm, .string x.of, .int .i64 x.vk, .int .i64 x.vn, .string x.vt, .slice ka len kc] 33)) ∧ BoxN w.heap.size x (.slice ka len kc) (w.alloc (.cells #[.int .i64 x.k, .int .i64 x.n, .string x.nm, .string x.of, .int .i64 x.vk, .int .i64 x.vn, .string x.vt, .slice ka len kc] 33))) := ⟨B0, BoxN.new 33⟩
  clear B0
  go_enter Try.func30, Try.ntmps30
  go_wp2
  go_loopw [1, 7] (fun l i wr => ∃ (k : Nat) (l' : Int), k ≤ len ∧ i = .int .i64 k ∧ l = .int .i64 l' ∧ -1 ≤ l' ∧ l' ≤ 120 ∧ Hid ((0 ≤ l' ∧ l' = left - 1 - (ks.upTo k : Int) ∧ depth + (ks.depTo k : Int) ≤ 20) ∨ (l' < 0 ∧ ¬ LeftOK ks left depth)) ∧ Hid (Below w.heap.size w wr ∧ BoxN w.heap.size x (.slice ka len kc) wr)) (fun _ i _ => len - (intOf i).toNat)
  case atStart =>
    refine ⟨0, left - 1, by omega, rfl, rfl, by omega, by omega, ?_, HB⟩
    by_cases e : 0 ≤ left - 1
    · exact .inl ⟨e, by rw [Fo.upTo_zero]; omega, by rw [Fo.depTo_zero]; omega⟩
    · exact .inr ⟨by omega, fun h => by have := (HD.out _ _).1 h; omega⟩
  case round =>
    clear HB
    obtain ⟨k, l', hk, rfl, rfl, hl0, hl1, HS, HW⟩ := hrel
    obtain ⟨⟨_, _, _, _, _, _, _, y7⟩, _⟩ := HW.out.2
    by_cases hneg : l' < 0
    · have hneg' : ¬ (0 ≤ l') := by omega
      have HF : Hid (¬ LeftOK ks left depth) := by
        rcases HS.out with ⟨h, _⟩ | ⟨_, h⟩
        · omega
        · exact h
      by_cases hlt : (k : Int) < (len : Int)
      · go_wp2
        go_ret
        exact ⟨l', rfl, hl0, fun h => absurd h HF.out, fun _ => hneg, HW.out.1⟩
      · go_wp2
        go_ret
        exact ⟨l', rfl, hl0, fun h => absurd h HF.out, fun _ => hneg, HW.out.1⟩
    have hpos : 0 ≤ l' := by omega
    have HG : Hid (l' = left - 1 - (ks.upTo k : Int) ∧ depth + (ks.depTo k : Int) ≤ 20) := by
      rcases HS.out with ⟨_, h⟩ | ⟨h, _⟩
      · exact h
      · omega
    clear HS
    by_cases hlt : k < len
    · have hkf : k < ks.len := by rw [HL.out]; exact hlt
      obtain ⟨b, off, ca, cc, rfl, _, hlb, ⟨c0, c1, c2, c3, c4, c5, c6, c7⟩, _, hkr⟩ := (HR.out.below HW.out.1).at k hkf
      have hkz := ks.kids_lt k hkf
      have hc := IH.out (ks.node k) (ks.kids k) ca cc l' (depth + 1) wr (by have := HM.out; omega) (by have := HM.out; omega) hpos hl1 (by omega) (by omega) hkr
      have HU : Hid (ks.upTo (k + 1) = ks.upTo k + (ks.kids k).size + 1 ∧ ks.depTo (k + 1) = max (ks.depTo k) ((ks.kids k).dep + 1) ∧ ks.upTo (k + 1) ≤ ks.size ∧ ks.depTo (k + 1) ≤ ks.dep) := ⟨ks.upTo_succ k hkf, ks.depTo_succ k hkf, ks.upTo_le _, ks.depTo_le _⟩
      clear hkr hkf hkz
      go_wp2_with fail
      refine hc.mono ?_
      rintro e w2 ⟨r, rfl, r0, r1, r2, b2⟩
      have HW2 : Hid (Below w.heap.size w w2 ∧ BoxN w.heap.size x (.slice (some ⟨b, off, none⟩) len kc) w2) := ⟨below_step HW.out.1 (Nat.le_refl _) b2, HW.out.2.below b2⟩
      have HS : Hid (r ≤ 120 ∧ ((0 ≤ r ∧ r = left - 1 - (ks.upTo (k + 1) : Int) ∧ depth + (ks.depTo (k + 1) : Int) ≤ 20) ∨ (r < 0 ∧ ¬ LeftOK ks left depth))) := by
        show _ ∧ _
        have hu := HU.out
        have hg := HG.out
        by_cases hok : LeftOK (ks.kids k) l' (depth + 1)
        · have e := r1 hok
          unfold LeftOK at hok
          refine ⟨by omega, .inl ⟨by omega, by omega, by omega⟩⟩
        · have e := r2 hok
          unfold LeftOK at hok
          refine ⟨by omega, .inr ⟨e, fun h => hok ?_⟩⟩
          have := (HD.out _ _).1 h
          omega
      have hr1 : r ≤ 120 := HS.out.1
      have HS2 : Hid ((0 ≤ r ∧ r = left - 1 - (ks.upTo (k + 1) : Int) ∧ depth + (ks.depTo (k + 1) : Int) ≤ 20) ∨ (r < 0 ∧ ¬ LeftOK ks left depth)) := HS.out.2
      clear c0 c1 c2 c3 c4 c5 c6 c7 y7 b2 hlb hc r1 r2 HS HW HG HU
      go_wp2
      go_roundw
      case rel => exact ⟨k + 1, r, by omega, by go_num, rfl, r0, hr1, HS2, HW2⟩
      case measure => simp [intOf]; omega
    · obtain rfl : k = len := by omega
      have HE : Hid (ks.upTo k = ks.size ∧ ks.depTo k = ks.dep) := ⟨by rw [← HL.out, Fo.upTo_len], by rw [← HL.out, Fo.depTo_len]⟩
      go_wp2
      go_ret
      have hg := HG.out
      rw [HE.out.1, HE.out.2] at hg
      exact ⟨l', rfl, hl0, fun _ => by omega, fun h => absurd ((HD.out _ _).2 (by omega)) h, HW.out.1⟩
theorem l10Left_all : ∀ m, LeC m
  | 0 => l10Left_step 0 fun x ks ka kc left depth w h => by omega
  | m + 1 => l10Left_step (m + 1) fun x ks ka kc left depth w h h' h0 h1 h2 h3 hr => l10Left_all m x ks ka kc left depth w (by omega) h' h0 h1 h2 h3 hr
end Go.Proofs.Ythjibgnhpkonbaa
