/- Which expressions are safe: spec's l14Safe (stage 14). -/
import Derived.Test.YthjibgnhpkonbaaSfA
namespace Go.Proofs.Ythjibgnhpkonbaa
open Go.RowKit

/-- What spec's l14Safe answers of this tree. -/
def SaS (x : ND) (ks : Fo) : Prop := ∀ (ka : Option Addr) (kc : Nat) (w : World), RowT 0 w ka 0 ks → ks.len ≤ maxLen →
    Calls Try.prog 19 #[ValT x (.slice ka ks.len kc)] w fun e w' => e = .returned (.bool (safeT x ks)) ∧ Below w.heap.size w w'
set_option maxRecDepth 100000 in
set_option maxHeartbeats 4000000 in
theorem l14Safe_of (x : ND) (ks : Fo) (ih : ∀ i, i < ks.len → SaS (ks.node i) (ks.kids i)) : SaS x ks := by
  intro ka kc w hrow hlen
  have HR : Hid (RowT 0 w ka 0 ks) := hrow
  have IH : Hid (∀ i, i < ks.len → SaS (ks.node i) (ks.kids i)) := ih
  clear hrow ih
  unfold maxLen at hlen
  obtain ⟨len, hL⟩ : ∃ m, ks.len = m := ⟨_, rfl⟩
  have HL : Hid (ks.len = len) := hL
  rw [hL] at hlen ⊢
  clear hL
  obtain ⟨W1, hW1⟩ : ∃ W1, w.alloc (.cells #[.int .i64 x.k, .int .i64 x.n, .string x.nm, .string x.of, .int .i64 x.vk, .int .i64 x.vn, .string x.vt, .slice ka len kc] 33) = W1 := ⟨_, rfl⟩
  have B1 : Below w.heap.size w W1 := hW1 ▸ (Below.refl _ _).alloc (Nat.le_refl _) _
  have X1 : Hid (CellT W1 w.heap.size 0 x (.slice ka len kc)) := hW1 ▸ cellT_new x _ 33
  have S1 : w.heap.size < W1.heap.size := by rw [← hW1]; simp
  have HB1 : Hid (badN x = true → safeT x ks = false) := safe_bad x ks
  have HB0 : Hid (badN x = false → safeT x ks = safeF ks) := safe_step x ks
  generalize safeT x ks = ans at HB1 HB0 ⊢
  have K : Hid ((x.k = 17 ∧ badN x = true) ∨ (x.k = 15 ∧ (x.nm.toList == [45]) = badN x) ∨ (x.k = 16 ∧ decide (levS x.nm > 4) = badN x) ∨ ((x.k == 15) = false ∧ (x.k == 16) = false ∧ (x.k == 17) = false ∧ badN x = false)) := by
    show _
    by_cases h17 : x.k = 17
    · exact .inl ⟨h17, badN_17 h17⟩
    by_cases h15 : x.k = 15
    · exact .inr (.inl ⟨h15, (badN_15 h15).symm⟩)
    by_cases h16 : x.k = 16
    · exact .inr (.inr (.inl ⟨h16, (badN_16 h16).symm⟩))
    · exact .inr (.inr (.inr ⟨beq_eq_false_iff_ne.2 h15, beq_eq_false_iff_ne.2 h16, beq_eq_false_iff_ne.2 h17, badN_no h15 h16 h17⟩))
  obtain ⟨y0, y1, y2, y3, y4, y5, y6, y7⟩ := X1.out
  have hA : badN x = true → Hid (ans = false) := fun h => HB1.out h
  have hB : badN x = false → Hid (ans = safeF ks) := fun h => HB0.out h
  clear HB1 HB0
  obtain ⟨bad, hbad⟩ : ∃ b, badN x = b := ⟨_, rfl⟩
  rw [hbad] at hA hB
  obtain ⟨k, n, nm, of, vk, vn, vt⟩ := x
  simp only at y0 y1 y2 y3 y4 y5 y6 y7 hW1
  have K' := K.out
  rw [hbad] at K'
  simp only at K'
  clear K hbad
  cases bad with
  | true =>
    have HA := hA rfl
    clear hA hB IH
    rcases K' with ⟨rfl, _⟩ | ⟨rfl, hn⟩ | ⟨rfl, hn⟩ | ⟨_, _, _, h⟩
    · go_enter Try.func19, Try.ntmps19
      go_wp2
      go_ret
      exact ⟨ret_bool' HA.out.symm, B1⟩
    · go_enter Try.func19, Try.ntmps19
      go_wp2
      go_ret
      exact ⟨ret_bool' HA.out.symm, B1⟩
    · go_enter Try.func19, Try.ntmps19
      go_wp2_with fail
      refine (l10Level_any _ _).mono ?_
      rintro e w1 ⟨rfl, hq⟩
      obtain rfl := hq.symm
      go_wp2
      go_ret
      exact ⟨ret_bool' HA.out.symm, B1⟩
    · cases h
  | false =>
    have HA := hB rfl
    clear hA hB
    rcases K' with ⟨_, h⟩ | ⟨rfl, hn⟩ | ⟨rfl, hn⟩ | ⟨h15, h16, h17, _⟩
    · cases h
    · go_enter Try.func19, Try.ntmps19
      go_wp2
      go_loopw [3] (fun i wr => ∃ k : Nat, k ≤ len ∧ i = .int .i64 k ∧ Hid (∀ i, i < k → safeT (ks.node i) (ks.kids i) = true) ∧ Below W1.heap.size W1 wr) (fun i _ => len - (intOf i).toNat)
      case atStart => exact ⟨0, by omega, rfl, fun i hi => by omega, Below.refl _ _⟩
      case round =>
        obtain ⟨k, hk, rfl, HS, hbl⟩ := hrel
        clear y0 y1 y2 y3 y4 y5 y6 y7
        obtain ⟨y0, y1, y2, y3, y4, y5, y6, y7⟩ := X1.out.same (hbl.block _ S1)
        have hB := B1.trans (hbl.mono B1.size)
        by_cases hlt : k < len
        · have hkf : k < ks.len := by rw [HL.out]; exact hlt
          obtain ⟨b, off, ka', kc', rfl, _, hlb, ⟨c0, c1, c2, c3, c4, c5, c6, c7⟩, ⟨_, hkl, htx⟩, hkr⟩ := (HR.out.below hB).at k hkf
          have hc := IH.out k hkf ka' kc' wr hkr hkl
          have HT0 : Hid (safeT (ks.node k) (ks.kids k) = false → safeF ks = false) := fun h => safeF_false k hkf h
          have HS0 : Hid (safeT (ks.node k) (ks.kids k) = true → ∀ i, i < k + 1 → safeT (ks.node i) (ks.kids i) = true) := fun hn i hi => by
            rcases Nat.lt_or_ge i k with h | h
            · exact HS.out i h
            · obtain rfl : i = k := by omega
              exact hn
          clear HS hkr
          generalize hn' : safeT (ks.node k) (ks.kids k) = an at hc HT0 HS0
          clear hn'
          go_wp2_with fail
          refine hc.mono ?_
          rintro e w2 ⟨rfl, b2⟩
          have hB2 := below_step hB (Nat.le_refl _) b2
          have hbl2 := below_step hbl (Nat.le_refl _) b2
          clear hc c0 c1 c2 c3 c4 c5 c6 c7 y0 y1 y2 y3 y4 y5 y6 y7 b2 hB hlb hbl htx hkl
          cases an with
          | false =>
            have HE : Hid (safeF ks = false) := HT0.out rfl
            clear HT0 HS0
            go_wp2
            go_ret
            exact ⟨ret_bool' (HA.out.trans HE.out).symm, hB2⟩
          | true =>
            have HS' : Hid (∀ i, i < k + 1 → safeT (ks.node i) (ks.kids i) = true) := HS0.out rfl
            clear HT0 HS0
            go_wp2
            go_roundw
            case rel => exact ⟨k + 1, by omega, by go_num, HS', hbl2⟩
            case measure => simp [intOf]; omega
        · obtain rfl : k = len := by omega
          have HE : Hid (safeF ks = true) := safeF_true (by rw [HL.out]; exact HS.out)
          go_wp2
          go_ret
          exact ⟨ret_bool' (HA.out.trans HE.out).symm, hB⟩
    · go_enter Try.func19, Try.ntmps19
      go_wp2_with fail
      refine (l10Level_any _ _).mono ?_
      rintro e w1 ⟨rfl, hq⟩
      obtain rfl := hq.symm
      go_wp2
      go_loopw [3] (fun i wr => ∃ k : Nat, k ≤ len ∧ i = .int .i64 k ∧ Hid (∀ i, i < k → safeT (ks.node i) (ks.kids i) = true) ∧ Below W1.heap.size W1 wr) (fun i _ => len - (intOf i).toNat)
      case atStart => exact ⟨0, by omega, rfl, fun i hi => by omega, Below.refl _ _⟩
      case round =>
        obtain ⟨k, hk, rfl, HS, hbl⟩ := hrel
        clear y0 y1 y2 y3 y4 y5 y6 y7
        obtain ⟨y0, y1, y2, y3, y4, y5, y6, y7⟩ := X1.out.same (hbl.block _ S1)
        have hB := B1.trans (hbl.mono B1.size)
        by_cases hlt : k < len
        · have hkf : k < ks.len := by rw [HL.out]; exact hlt
          obtain ⟨b, off, ka', kc', rfl, _, hlb, ⟨c0, c1, c2, c3, c4, c5, c6, c7⟩, ⟨_, hkl, htx⟩, hkr⟩ := (HR.out.below hB).at k hkf
          have hc := IH.out k hkf ka' kc' wr hkr hkl
          have HT0 : Hid (safeT (ks.node k) (ks.kids k) = false → safeF ks = false) := fun h => safeF_false k hkf h
          have HS0 : Hid (safeT (ks.node k) (ks.kids k) = true → ∀ i, i < k + 1 → safeT (ks.node i) (ks.kids i) = true) := fun hn i hi => by
            rcases Nat.lt_or_ge i k with h | h
            · exact HS.out i h
            · obtain rfl : i = k := by omega
              exact hn
          clear HS hkr
          generalize hn' : safeT (ks.node k) (ks.kids k) = an at hc HT0 HS0
          clear hn'
          go_wp2_with fail
          refine hc.mono ?_
          rintro e w2 ⟨rfl, b2⟩
          have hB2 := below_step hB (Nat.le_refl _) b2
          have hbl2 := below_step hbl (Nat.le_refl _) b2
          clear hc c0 c1 c2 c3 c4 c5 c6 c7 y0 y1 y2 y3 y4 y5 y6 y7 b2 hB hlb hbl htx hkl
          cases an with
          | false =>
            have HE : Hid (safeF ks = false) := HT0.out rfl
            clear HT0 HS0
            go_wp2
            go_ret
            exact ⟨ret_bool' (HA.out.trans HE.out).symm, hB2⟩
          | true =>
            have HS' : Hid (∀ i, i < k + 1 → safeT (ks.node i) (ks.kids i) = true) := HS0.out rfl
            clear HT0 HS0
            go_wp2
            go_roundw
            case rel => exact ⟨k + 1, by omega, by go_num, HS', hbl2⟩
            case measure => simp [intOf]; omega
        · obtain rfl : k = len := by omega
          have HE : Hid (safeF ks = true) := safeF_true (by rw [HL.out]; exact HS.out)
          go_wp2
          go_ret
          exact ⟨ret_bool' (HA.out.trans HE.out).symm, hB⟩
    · go_enter Try.func19, Try.ntmps19
      go_wp2
      go_loopw [3] (fun i wr => ∃ k : Nat, k ≤ len ∧ i = .int .i64 k ∧ Hid (∀ i, i < k → safeT (ks.node i) (ks.kids i) = true) ∧ Below W1.heap.size W1 wr) (fun i _ => len - (intOf i).toNat)
      case atStart => exact ⟨0, by omega, rfl, fun i hi => by omega, Below.refl _ _⟩
      case round =>
        obtain ⟨k, hk, rfl, HS, hbl⟩ := hrel
        clear y0 y1 y2 y3 y4 y5 y6 y7
        obtain ⟨y0, y1, y2, y3, y4, y5, y6, y7⟩ := X1.out.same (hbl.block _ S1)
        have hB := B1.trans (hbl.mono B1.size)
        by_cases hlt : k < len
        · have hkf : k < ks.len := by rw [HL.out]; exact hlt
          obtain ⟨b, off, ka', kc', rfl, _, hlb, ⟨c0, c1, c2, c3, c4, c5, c6, c7⟩, ⟨_, hkl, htx⟩, hkr⟩ := (HR.out.below hB).at k hkf
          have hc := IH.out k hkf ka' kc' wr hkr hkl
          have HT0 : Hid (safeT (ks.node k) (ks.kids k) = false → safeF ks = false) := fun h => safeF_false k hkf h
          have HS0 : Hid (safeT (ks.node k) (ks.kids k) = true → ∀ i, i < k + 1 → safeT (ks.node i) (ks.kids i) = true) := fun hn i hi => by
            rcases Nat.lt_or_ge i k with h | h
            · exact HS.out i h
            · obtain rfl : i = k := by omega
              exact hn
          clear HS hkr
          generalize hn' : safeT (ks.node k) (ks.kids k) = an at hc HT0 HS0
          clear hn'
          go_wp2_with fail
          refine hc.mono ?_
          rintro e w2 ⟨rfl, b2⟩
          have hB2 := below_step hB (Nat.le_refl _) b2
          have hbl2 := below_step hbl (Nat.le_refl _) b2
          clear hc c0 c1 c2 c3 c4 c5 c6 c7 y0 y1 y2 y3 y4 y5 y6 y7 b2 hB hlb hbl htx hkl
          cases an with
          | false =>
            have HE : Hid (safeF ks = false) := HT0.out rfl
            clear HT0 HS0
            go_wp2
            go_ret
            exact ⟨ret_bool' (HA.out.trans HE.out).symm, hB2⟩
          | true =>
            have HS' : Hid (∀ i, i < k + 1 → safeT (ks.node i) (ks.kids i) = true) := HS0.out rfl
            clear HT0 HS0
            go_wp2
            go_roundw
            case rel => exact ⟨k + 1, by omega, by go_num, HS', hbl2⟩
            case measure => simp [intOf]; omega
        · obtain rfl : k = len := by omega
          have HE : Hid (safeF ks = true) := safeF_true (by rw [HL.out]; exact HS.out)
          go_wp2
          go_ret
          exact ⟨ret_bool' (HA.out.trans HE.out).symm, hB⟩
theorem l14Safe_size : ∀ (n : Nat) (x : ND) (ks : Fo), ks.size < n → SaS x ks
  | 0, _, _, h => by omega
  | n + 1, x, ks, h => l14Safe_of x ks fun i hi => l14Safe_size n _ _ (by have := ks.kids_lt i hi; omega)
theorem l14Safe_any (x : ND) (ks : Fo) : SaS x ks := l14Safe_size _ x ks (Nat.lt_succ_self _)
end Go.Proofs.Ythjibgnhpkonbaa
