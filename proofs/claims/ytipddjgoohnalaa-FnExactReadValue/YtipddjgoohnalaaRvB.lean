/- Numbers with a sign, as both sides read them. -/
import Derived.Test.YtipddjgoohnalaaRvA
namespace Go.Proofs.Ytipddjgoohnalaa
open Go.RowKit

theorem ext_byte (s : ByteArray) : byteAt (s.extract 1 s.size) = fun i => byteAt s (i + 1) := by
  funext i
  unfold byteAt
  have e : (s.extract 1 s.size).data.toList = s.data.toList.drop 1 := by
    rw [ByteArray.data_extract, Array.toList_extract]
    have hl : s.size = s.data.toList.length := by simp
    rw [List.extract_eq_take_drop, List.take_of_length_le (by rw [List.length_drop]; omega)]
  rw [e, List.getD_eq_getElem?_getD, List.getD_eq_getElem?_getD, List.getElem?_drop, Nat.add_comm 1 i]
theorem ext_len (s : ByteArray) : (s.extract 1 s.size).size = s.size - 1 := by
  rw [ByteArray.size_extract]
  omega
theorem rdD_pos {f : Nat → Int} {n : Nat} {x : Int} (h0 : ¬ f 0 = 48) (h : rdD f n = some x) : x ≠ 0 := by
  unfold rdD at h
  split at h
  · cases h
  · rename_i hn
    cases n with
    | zero => exact absurd (.inl rfl) hn
    | succ m =>
      unfold dig at h
      split at h
      · rename_i hd
        have := (dig_bd f m (0 + 1) _ x (by omega) h).1
        omega
      · cases h
theorem numV_neg {f : Nat → Int} {n : Nat} (h : 0 < n ∧ f 0 = 45) : ((n - 1 = 0 ∨ 18 < n - 1 ∨ f 1 = 48) → numV f n = none) ∧ (¬ (n - 1 = 0 ∨ 18 < n - 1 ∨ f 1 = 48) → numV f n = (dig (fun i => f (i + 1)) (n - 1) 0 0).map (fun x => -x)) := by
  unfold numV
  rw [if_pos h]
  refine ⟨fun hh => ?_, fun hh => ?_⟩
  · cases hr : rdD (fun i => f (i + 1)) (n - 1) with
    | none => rfl
    | some x =>
      show (if x = 0 then none else some (-x)) = none
      rw [if_pos]
      unfold rdD at hr
      split at hr
      · cases hr
      · rename_i hn
        have h1 : n - 1 = 1 := by
          rcases hh with h' | h' | h'
          · exact absurd (.inl h') hn
          · exact absurd (.inr (.inl h')) hn
          · have : ¬ 1 < n - 1 := fun h2 => hn (.inr (.inr ⟨h2, h'⟩))
            omega
        have h48 : f 1 = 48 := by
          rcases hh with h' | h' | h'
          · omega
          · omega
          · exact h'
        rw [h1] at hr
        unfold dig at hr
        rw [if_pos (by simp only [Nat.zero_add]; omega)] at hr
        unfold dig at hr
        cases hr
        simp only [Nat.zero_add]
        omega
  · have e : rdD (fun i => f (i + 1)) (n - 1) = dig (fun i => f (i + 1)) (n - 1) 0 0 := by
      unfold rdD
      rw [if_neg]
      rintro (h' | h' | ⟨_, h'⟩)
      · exact hh (.inl h')
      · exact hh (.inr (.inl h'))
      · exact hh (.inr (.inr h'))
    have hp := @rdD_pos (fun i => f (i + 1)) (n - 1)
    rw [e]
    cases hr : dig (fun i => f (i + 1)) (n - 1) 0 0 with
    | none => rfl
    | some x =>
      show (if x = 0 then none else some (-x)) = _
      rw [if_neg (hp (fun h' => hh (.inr (.inr h'))) (e.trans hr))]
      rfl
theorem numV_pos {f : Nat → Int} {n : Nat} (h : ¬ (0 < n ∧ f 0 = 45)) : ((n = 0 ∨ 18 < n ∨ (f 0 = 48 ∧ 1 < n)) → numV f n = none) ∧ (¬ (n = 0 ∨ 18 < n ∨ (f 0 = 48 ∧ 1 < n)) → numV f n = dig f n 0 0) := by
  unfold numV
  rw [if_neg h]
  unfold rdD
  refine ⟨fun hh => if_pos ?_, fun hh => if_neg ?_⟩
  · rcases hh with h' | h' | ⟨h1, h2⟩
    · exact .inl h'
    · exact .inr (.inl h')
    · exact .inr (.inr ⟨h2, h1⟩)
  · rintro (h' | h' | ⟨h1, h2⟩)
    · exact hh (.inl h')
    · exact hh (.inr (.inl h'))
    · exact hh (.inr (.inr ⟨h2, h1⟩))

set_option maxRecDepth 100000 in
set_option maxHeartbeats 4000000 in
theorem readNumber_any (s : ByteArray) (w : World) (hs : s.size ≤ 65536) :
    Calls Try.prog 103 #[.string s] w fun e w' => e = .returned (NumR (numV (byteAt s) s.size)) ∧ w' = w := by
  by_cases h0 : s.size = 0
  · have H : Hid (numV (byteAt s) s.size = rdD (byteAt s) s.size) := by show _ = _; unfold numV; rw [if_neg (by omega)]
    have h0I : (s.size : Int) = 0 := by omega
    rw [H.out]
    obtain ⟨o, ho⟩ : ∃ o, rdD (byteAt s) s.size = o := ⟨_, rfl⟩
    have hd := readDigits_any s w hs
    rw [ho] at hd ⊢
    clear ho
    go_enter Try.func103, Try.ntmps103
    go_wp2_with fail
    refine hd.mono ?_
    rintro e w' ⟨rfl, hq⟩
    obtain rfl := hq.symm
    clear hd
    go_wp2
    go_ret2
    exact ⟨rfl, rfl⟩
  have h0I : ((s.size : Int) == 0) = false := beq_eq_false_iff_ne.2 (by omega)
  have hpos : 0 < s.size := by omega
  have hb := byteAt_eq s 0 hpos
  obtain ⟨c, hcv⟩ : ∃ c : Int, ((s[0]'hpos).toNat : Int) = c := ⟨_, rfl⟩
  rw [hcv] at hb
  by_cases hm : c = 45
  · obtain ⟨t, ht⟩ : ∃ t, s.extract 1 s.size = t := ⟨_, rfl⟩
    have htl : t.size = s.size - 1 := by rw [← ht]; exact ext_len s
    obtain ⟨o, ho⟩ : ∃ o, rdD (byteAt t) t.size = o := ⟨_, rfl⟩
    have hfn : (fun i => byteAt s (i + 1)) = byteAt t := by rw [← ht, ext_byte]
    have hbd : ∀ x, o = some x → 0 ≤ x ∧ x < 1000000000000000000 := fun x hx => by
      rw [← ho] at hx
      unfold rdD at hx
      split at hx
      · cases hx
      · rename_i hn
        have := dig_bd _ _ _ _ _ (Int.le_refl 0) hx
        have h18 := pow_le18 (m := t.size) (by omega)
        simp at this
        omega
    have H : Hid (numV (byteAt s) s.size = negV o) := by
      show _ = _
      unfold numV
      rw [if_pos ⟨hpos, by rw [hb]; exact hm⟩, hfn, ← htl, ho]
    have hd := readDigits_any t w (by omega)
    rw [ho] at hd
    rw [H.out]
    subst hm
    have hI : (1 : Int) ≤ (s.size : Int) := by omega
    clear hb ho H hfn
    cases o with
    | none =>
      clear hbd
      have e0 : negV none = none := rfl
      rw [e0]
      go_enter Try.func103, Try.ntmps103
      go_wp2_with fail
      refine hd.mono ?_
      rintro e w' ⟨rfl, hq⟩
      obtain rfl := hq.symm
      clear hd
      go_wp2
      go_ret2
      exact ⟨rfl, rfl⟩
    | some x =>
      obtain ⟨b0, b1⟩ := hbd x rfl
      clear hbd
      by_cases hx : x = 0
      · subst hx
        have e0 : negV (some 0) = none := rfl
        rw [e0]
        go_enter Try.func103, Try.ntmps103
        go_wp2_with fail
        refine hd.mono ?_
        rintro e w' ⟨rfl, hq⟩
        obtain rfl := hq.symm
        clear hd
        go_wp2
        go_ret2
        exact ⟨rfl, rfl⟩
      · have hx1 : (x != 0) = true := bne_iff_ne.2 hx
        have e0 : negV (some x) = some (-x) := if_neg hx
        rw [e0]
        go_enter Try.func103, Try.ntmps103
        go_wp2_with fail
        refine hd.mono ?_
        rintro e w' ⟨rfl, hq⟩
        obtain rfl := hq.symm
        clear hd
        go_wp2
        go_ret2
        exact ⟨rfl, rfl⟩
  · have H : Hid (numV (byteAt s) s.size = rdD (byteAt s) s.size) := by show _ = _; unfold numV; rw [if_neg (fun h => hm (by rw [← hb]; exact h.2))]
    have hm1 : (c == 45) = false := beq_eq_false_iff_ne.2 hm
    clear hb
    rw [H.out]
    obtain ⟨o, ho⟩ : ∃ o, rdD (byteAt s) s.size = o := ⟨_, rfl⟩
    have hd := readDigits_any s w hs
    rw [ho] at hd ⊢
    clear ho
    go_enter Try.func103, Try.ntmps103
    go_wp2_with fail
    refine hd.mono ?_
    rintro e w' ⟨rfl, hq⟩
    obtain rfl := hq.symm
    clear hd
    go_wp2
    go_ret2
    exact ⟨rfl, rfl⟩
end Go.Proofs.Ytipddjgoohnalaa
