/- The specification's l10Left and l10Ends (stage 11). -/
import Derived.Test.YteejkmcljokloaaGreatDoorSqH
import Derived.Test.YteejkmcljokloaaGreatDoorSqK
namespace Go.Proofs.YteejkmcljokloaaGreatDoor
open Go.RowKit

/-- So many nodes are left, and none stands too deep. -/
def LeftOK (ks : Fo) (left depth : Int) : Prop := (ks.size : Int) + 1 ≤ left ∧ depth + (ks.dep : Int) ≤ 20
def LeC (m : Nat) : Prop := ∀ (x : ND) (ks : Fo) (ka : Option Addr) (kc : Nat) (left depth : Int) (w : World), ks.size ≤ m → ks.size ≤ 1048576 → 0 ≤ left → left ≤ 120 → 1 ≤ depth → depth ≤ 21 → RowT 0 w ka 0 ks →
    Calls Tryz.prog 40 #[ValT x (.slice ka ks.len kc), .int .i64 left, .int .i64 depth] w fun e w' => ∃ r : Int, e = .returned (.int .i64 r) ∧ -1 ≤ r ∧ (LeftOK ks left depth → r = left - ((ks.size : Int) + 1)) ∧ (¬ LeftOK ks left depth → r < 0) ∧ Below w.heap.size w w'
set_option maxRecDepth 100000 in
set_option maxHeartbeats 4000000 in
theorem l10Left_step (m : Nat) (ih : ∀ (x : ND) (ks : Fo) (ka : Option Addr) (kc : Nat) (left depth : Int) (w : World), ks.size < m → ks.size ≤ 1048576 → 0 ≤ left → left ≤ 120 → 1 ≤ depth → depth ≤ 21 → RowT 0 w ka 0 ks →
    Calls Tryz.prog 40 #[ValT x (.slice ka ks.len kc), .int .i64 left, .int .i64 depth] w fun e w' => ∃ r : Int, e = .returned (.int .i64 r) ∧ -1 ≤ r ∧ (LeftOK ks left depth → r = left - ((ks.size : Int) + 1)) ∧ (¬ LeftOK ks left depth → r < 0) ∧ Below w.heap.size w w') : LeC m := by
  intro x ks ka kc left depth w hm hsz h0 h1 h2 h3 hrow
  have HR : Hid (RowT 0 w ka 0 ks) := hrow
  have IH : Hid (∀ (x : ND) (ks : Fo) (ka : Option Addr) (kc : Nat) (left depth : Int) (w : World), ks.size < m → ks.size ≤ 1048576 → 0 ≤ left → left ≤ 120 → 1 ≤ depth → depth ≤ 21 → RowT 0 w ka 0 ks →
    Calls Tryz.prog 40 #[ValT x (.slice ka ks.len kc), .int .i64 left, .int .i64 depth] w fun e w' => ∃ r : Int, e = .returned (.int .i64 r) ∧ -1 ≤ r ∧ (LeftOK ks left depth → r = left - ((ks.size : Int) + 1)) ∧ (¬ LeftOK ks left depth → r < 0) ∧ Below w.heap.size w w') := ih
  have HM : Hid (ks.size ≤ m ∧ ks.size ≤ 1048576) := ⟨hm, hsz⟩
  have HD : Hid (∀ l d, LeftOK ks l d ↔ (ks.size : Int) + 1 ≤ l ∧ d + (ks.dep : Int) ≤ 20) := fun _ _ => Iff.rfl
  clear hrow ih hm
  obtain ⟨len, hL⟩ : ∃ m, ks.len = m := ⟨_, rfl⟩
  have HL : Hid (ks.len = len) := hL
  have hlen : len ≤ 1048576 := by have := ks.len_le; omega
  rw [hL]
  clear hL hsz
  have B0 : Below w.heap.size w (w.alloc (.cells #[.int .i64 x.k, .int .i64 x.n, .string x.nm, .string x.of, .int .i64 x.vk, .int .i64 x.vn, .string x.vt, .slice ka len kc] 38)) := (Below.refl _ _).alloc (Nat.le_refl _) _
  by_cases hd : 20 < depth
  · go_enter Tryz.func40, Tryz.ntmps40
    go_wp2
    go_ret
    exact ⟨-1, rfl, by omega, fun h => by have := (HD.out _ _).1 h; omega, fun _ => by omega, B0⟩
  have HB : Hid (Below w.heap.size w (w.alloc (.cells #[.int .i64 x.k, .int .i64 x.n, .string x.nm, .string x.of, .int .i64 x.vk, .int .i64 x.vn, .string x.vt, .slice ka len kc] 38)) ∧ BoxN w.heap.size x (.slice ka len kc) (w.alloc (.cells #[.int .i64 x.k, .int .i64 x.n, .string x.nm, .string x.of, .int .i64 x.vk, .int .i64 x.vn, .string x.vt, .slice ka len kc] 38))) := ⟨B0, BoxN.new 38⟩
  clear B0
  go_enter Tryz.func40, Tryz.ntmps40
  go_wp2
  go_loopw [1, 7] (fun l i wr => ∃ (k : Nat) (l' : Int), k ≤ len ∧ i = .int .i64 k ∧ l = .int .i64 l' ∧ -1 ≤ l' ∧ l' ≤ 120 ∧ Hid ((0 ≤ l' ∧ l' = left - 1 - (ks.upTo k : Int) ∧ depth + (ks.depTo k : Int) ≤ 20) ∨ (l' < 0 ∧ ¬ LeftOK ks left depth)) ∧ Hid (Below w.heap.size w wr ∧ BoxN w.heap.size x (.slice ka len kc) wr)) (fun _ i _ => len - (intOf i).toNat)
  case atStart =>
    refine ⟨0, left - 1, by omega, rfl, rfl, by omega, by omega, ?_, HB⟩
    by_cases e : 0 ≤ left - 1
    · exact .inl ⟨e, by rw [Fo.upTo_zero]; omega, by rw [Fo.depTo_zero]; omega⟩
    · exact .inr ⟨by omega, fun h => by have := (HD.out _ _).1 h; omega⟩
  case round =>
    clear HB
    obtain ⟨k, l', hk, rfl, rfl, hl0, hl1, HS, HW⟩ := hrel
    obtain ⟨⟨_, _, _, _, _, _, _, y7⟩, _⟩ := HW.out.2
    by_cases hneg : l' < 0
    · have hneg' : ¬ (0 ≤ l') := by omega
      have HF : Hid (¬ LeftOK ks left depth) := by
        rcases HS.out with ⟨h, _⟩ | ⟨_, h⟩
        · omega
        · exact h
      by_cases hlt : (k : Int) < (len : Int)
      · go_wp2
        go_ret
        exact ⟨l', rfl, hl0, fun h => absurd h HF.out, fun _ => hneg, HW.out.1⟩
      · go_wp2
        go_ret
        exact ⟨l', rfl, hl0, fun h => absurd h HF.out, fun _ => hneg, HW.out.1⟩
    have hpos : 0 ≤ l' := by omega
    have HG : Hid (l' = left - 1 - (ks.upTo k : Int) ∧ depth + (ks.depTo k : Int) ≤ 20) := by
      rcases HS.out with ⟨_, h⟩ | ⟨h, _⟩
      · exact h
      · omega
    clear HS
    by_cases hlt : k < len
    · have hkf : k < ks.len := by rw [HL.out]; exact hlt
      obtain ⟨b, off, ca, cc, rfl, _, hlb, ⟨c0, c1, c2, c3, c4, c5, c6, c7⟩, _, hkr⟩ := (HR.out.below HW.out.1).at k hkf
      have hkz := ks.kids_lt k hkf
      have hc := IH.out (ks.node k) (ks.kids k) ca cc l' (depth + 1) wr (by have := HM.out; omega) (by have := HM.out; omega) hpos hl1 (by omega) (by omega) hkr
      have HU : Hid (ks.upTo (k + 1) = ks.upTo k + (ks.kids k).size + 1 ∧ ks.depTo (k + 1) = max (ks.depTo k) ((ks.kids k).dep + 1) ∧ ks.upTo (k + 1) ≤ ks.size ∧ ks.depTo (k + 1) ≤ ks.dep) := ⟨ks.upTo_succ k hkf, ks.depTo_succ k hkf, ks.upTo_le _, ks.depTo_le _⟩
      clear hkr hkf hkz
      go_wp2_with fail
      refine hc.mono ?_
      rintro e w2 ⟨r, rfl, r0, r1, r2, b2⟩
      have HW2 : Hid (Below w.heap.size w w2 ∧ BoxN w.heap.size x (.slice (some ⟨b, off, none⟩) len kc) w2) := ⟨below_step HW.out.1 (Nat.le_refl _) b2, HW.out.2.below b2⟩
      have HS : Hid (r ≤ 120 ∧ ((0 ≤ r ∧ r = left - 1 - (ks.upTo (k + 1) : Int) ∧ depth + (ks.depTo (k + 1) : Int) ≤ 20) ∨ (r < 0 ∧ ¬ LeftOK ks left depth))) := by
        show _ ∧ _
        have hu := HU.out
        have hg := HG.out
        by_cases hok : LeftOK (ks.kids k) l' (depth + 1)
        · have e := r1 hok
          unfold LeftOK at hok
          refine ⟨by omega, .inl ⟨by omega, by omega, by omega⟩⟩
        · have e := r2 hok
          unfold LeftOK at hok
          refine ⟨by omega, .inr ⟨e, fun h => hok ?_⟩⟩
          have := (HD.out _ _).1 h
          omega
      have hr1 : r ≤ 120 := HS.out.1
      have HS2 : Hid ((0 ≤ r ∧ r = left - 1 - (ks.upTo (k + 1) : Int) ∧ depth + (ks.depTo (k + 1) : Int) ≤ 20) ∨ (r < 0 ∧ ¬ LeftOK ks left depth)) := HS.out.2
      clear c0 c1 c2 c3 c4 c5 c6 c7 y7 b2 hlb hc r1 r2 HS HW HG HU
      go_wp2
      go_roundw
      case rel => exact ⟨k + 1, r, by omega, by go_num, rfl, r0, hr1, HS2, HW2⟩
      case measure => simp [intOf]; omega
    · obtain rfl : k = len := by omega
      have HE : Hid (ks.upTo k = ks.size ∧ ks.depTo k = ks.dep) := ⟨by rw [← HL.out, Fo.upTo_len], by rw [← HL.out, Fo.depTo_len]⟩
      go_wp2
      go_ret
      have hg := HG.out
      rw [HE.out.1, HE.out.2] at hg
      exact ⟨l', rfl, hl0, fun _ => by omega, fun h => absurd ((HD.out _ _).2 (by omega)) h, HW.out.1⟩
theorem l10Left_all : ∀ m, LeC m
  | 0 => l10Left_step 0 fun x ks ka kc left depth w h => by omega
  | m + 1 => l10Left_step (m + 1) fun x ks ka kc left depth w h h' h0 h1 h2 h3 hr => l10Left_all m x ks ka kc left depth w (by omega) h' h0 h1 h2 h3 hr
/-- The part of this kind may stand there. -/
def EndK (sets : Bool) (n i : Nat) (k : Int) : Prop := (k = 12 ∧ sets = true) ∨ (k = 8 ∧ i + 1 = n ∧ (0 < i ∨ sets = false))
set_option maxRecDepth 100000 in
set_option maxHeartbeats 4000000 in
theorem l10Ends_any (x : ND) (ks : Fo) (sets : Bool) (ka : Option Addr) (kc : Nat) (w : World) (hrow : RowT 0 w ka 0 ks) (hsz : ks.size ≤ 1048576) :
    Calls Tryz.prog 44 #[ValT x (.slice ka ks.len kc), .bool sets] w fun e w' => e = .returned (.bool (endB sets ks)) ∧ Below w.heap.size w w' := by
  have HR : Hid (RowT 0 w ka 0 ks ∧ ks.size ≤ 1048576) := ⟨hrow, hsz⟩
  have hlen : ks.len ≤ 1048576 := by have := ks.len_le; omega
  clear hrow hsz
  obtain ⟨len, hL⟩ : ∃ m, ks.len = m := ⟨_, rfl⟩
  have HL : Hid (ks.len = len) := hL
  rw [hL] at hlen ⊢
  clear hL
  have X0 : Hid (OneB w w.heap.size x (.slice ka len kc) _) := OneB.new (x := x)
  go_enter Tryz.func44, Tryz.ntmps44
  go_wp2
  go_loopw [5] (fun i wr => ∃ k : Nat, k ≤ len ∧ i = .int .i64 k ∧ Hid (∀ j, j < k → partB (ks.node j) (ks.kids j) = true ∧ EndK sets len j (ks.node j).k) ∧ Hid (OneB w w.heap.size x (.slice ka len kc) wr)) (fun i _ => len - (intOf i).toNat)
  case atStart => exact ⟨0, by omega, rfl, fun j hj => by omega, X0⟩
  case round =>
    clear X0
    obtain ⟨k, hk, rfl, HS, X⟩ := hrel
    obtain ⟨y0, y1, y2, y3, y4, y5, y6, y7⟩ := X.out.facts
    by_cases hlt : k < len
    · have hkf : k < ks.len := by rw [HL.out]; exact hlt
      obtain ⟨b, off, ca, cc, rfl, hlb, ⟨c0, c1, c2, c3, c4, c5, c6, c7⟩, hkr, htx⟩ := el_cells (HR.out.1.below X.out.2) HL.out hlt
      have hc := l10Part_any (ks.node k) (ks.kids k) ca cc wr hkr (by have := ks.kids_lt k hkf; have := (ks.kids k).len_le; have := HR.out.2; omega) htx
      have HP : Hid (partB (ks.node k) (ks.kids k) = false → endB sets ks = false) := fun h => by unfold endB; rw [allP_false k hkf h, Bool.and_false]
      have HB0 : Hid (¬ EndK sets len k (ks.node k).k → endB sets ks = false) := fun h => by
        unfold endB
        rw [asQ_false fun hE => h ?_]
        · rfl
        · have := hE.1 k hkf
          rw [HL.out] at this
          exact this
      have HS0 : Hid (partB (ks.node k) (ks.kids k) = true → EndK sets len k (ks.node k).k → ∀ j, j < k + 1 → partB (ks.node j) (ks.kids j) = true ∧ EndK sets len j (ks.node j).k) := fun h h' j hj => by
        by_cases e : j = k
        · rw [e]; exact ⟨h, h'⟩
        · exact HS.out j (by omega)
      clear hkr htx hkf HS
      go_wp2_with fail
      refine hc.mono ?_
      rintro e w2 ⟨rfl, b2⟩
      have X2 : Hid (OneB w w.heap.size x (.slice (some ⟨b, off, none⟩) len kc) w2) := X.out.keep b2
      clear c0 c1 c2 c3 c4 c5 c6 c7 y0 y1 y2 y3 y4 y5 y6 y7 b2 hc X
      cases hx : partB (ks.node k) (ks.kids k) with
      | false =>
        have HF : Hid (endB sets ks = false) := HP.out hx
        clear hx HP HB0 HS0
        go_wp2
        go_ret
        exact ⟨ret_bool' HF.out.symm, X2.out.2⟩
      | true =>
        obtain ⟨q, hq⟩ : ∃ q, (ks.node k).k = q := ⟨_, rfl⟩
        have HS' : Hid (EndK sets len k q → ∀ j, j < k + 1 → partB (ks.node j) (ks.kids j) = true ∧ EndK sets len j (ks.node j).k) := fun h => HS0.out hx (hq ▸ h)
        have HB : Hid (¬ EndK sets len k q → endB sets ks = false) := fun h => HB0.out (hq ▸ h)
        rw [hq]
        clear hx HP HB0 HS0 hq
        by_cases h12 : q = 12
        · subst h12
          cases sets with
          | true =>
            have HS2 : Hid (∀ j, j < k + 1 → partB (ks.node j) (ks.kids j) = true ∧ EndK true len j (ks.node j).k) := HS'.out (.inl ⟨rfl, rfl⟩)
            clear HS' HB
            go_wp2
            go_roundw
            case rel => exact ⟨k + 1, by omega, by go_num, HS2, X2⟩
            case measure => simp [intOf]; omega
          | false =>
            have HF : Hid (endB false ks = false) := HB.out (fun h => by simp [EndK] at h)
            clear HS' HB
            go_wp2
            go_ret
            exact ⟨ret_bool' HF.out.symm, X2.out.2⟩
        · by_cases h8 : q = 8
          · subst h8
            by_cases hl : (k : Int) = (len : Int) - 1
            · cases sets with
              | false =>
                have HS2 : Hid (∀ j, j < k + 1 → partB (ks.node j) (ks.kids j) = true ∧ EndK false len j (ks.node j).k) := HS'.out (.inr ⟨rfl, by omega, .inr rfl⟩)
                rw [show k + 1 = len by omega] at HS2
                clear HS' HB
                go_wp2
                all_goals exact ⟨⟨len, Nat.le_refl _, rfl, HS2, X2⟩, by simp [intOf]; omega⟩
              | true =>
                by_cases h0 : 0 < k
                · have h0I : (0 : Int) < (k : Int) := by omega
                  have h0J : (1 : Int) < (len : Int) := by omega
                  have HS2 : Hid (∀ j, j < k + 1 → partB (ks.node j) (ks.kids j) = true ∧ EndK true len j (ks.node j).k) := HS'.out (.inr ⟨rfl, by omega, .inl h0⟩)
                  rw [show k + 1 = len by omega] at HS2
                  clear HS' HB
                  go_wp2
                  all_goals exact ⟨⟨len, Nat.le_refl _, rfl, HS2, X2⟩, by simp [intOf]; omega⟩
                · obtain rfl : k = 0 := by omega
                  obtain rfl : len = 1 := by omega
                  have HF : Hid (endB true ks = false) := HB.out (fun h => by simp [EndK] at h)
                  clear HS' HB
                  go_wp2
                  go_ret
                  exact ⟨ret_bool' HF.out.symm, X2.out.2⟩
            · cases sets with
              | false =>
                have HF : Hid (endB false ks = false) := HB.out (fun h => by simp [EndK] at h; omega)
                clear HS' HB
                go_wp2
                go_ret
                exact ⟨ret_bool' HF.out.symm, X2.out.2⟩
              | true =>
                have HF : Hid (endB true ks = false) := HB.out (fun h => by simp [EndK] at h; omega)
                clear HS' HB
                go_wp2
                go_ret
                exact ⟨ret_bool' HF.out.symm, X2.out.2⟩
          · cases sets with
            | false =>
              have HF : Hid (endB false ks = false) := HB.out (fun h => by simp [EndK, h12, h8] at h)
              clear HS' HB
              go_wp2
              go_ret
              exact ⟨ret_bool' HF.out.symm, X2.out.2⟩
            | true =>
              have HF : Hid (endB true ks = false) := HB.out (fun h => by simp [EndK, h12, h8] at h)
              clear HS' HB
              go_wp2
              go_ret
              exact ⟨ret_bool' HF.out.symm, X2.out.2⟩
    · obtain rfl : k = len := by omega
      have HA : Hid (allP ks = true) := allP_true (by rw [HL.out]; exact fun i hi => (HS.out i hi).1)
      cases sets with
      | false =>
        have HF : Hid (endB false ks = true) := by
          show _ = _
          unfold endB
          rw [HA.out, asQ_true ⟨by rw [HL.out]; exact fun i hi => (HS.out i hi).2, fun e => by cases e⟩]
          rfl
        go_wp2
        go_ret
        exact ⟨ret_bool' HF.out.symm, X.out.2⟩
      | true =>
        by_cases hz : 0 < k
        · have hzI : (0 : Int) < (k : Int) := by omega
          have HF : Hid (endB true ks = true) := by
            show _ = _
            unfold endB
            rw [HA.out, asQ_true ⟨by rw [HL.out]; exact fun i hi => (HS.out i hi).2, fun _ => by rw [HL.out]; exact hz⟩]
            rfl
          go_wp2
          go_ret
          exact ⟨ret_bool' HF.out.symm, X.out.2⟩
        · have hzI : ¬ (0 : Int) < (k : Int) := by omega
          have HF : Hid (endB true ks = false) := by
            show _ = _
            unfold endB
            rw [asQ_false fun h => hz (by have := h.2 rfl; rwa [HL.out] at this)]
            rfl
          go_wp2
          go_ret
          exact ⟨ret_bool' HF.out.symm, X.out.2⟩
end Go.Proofs.YteejkmcljokloaaGreatDoor
