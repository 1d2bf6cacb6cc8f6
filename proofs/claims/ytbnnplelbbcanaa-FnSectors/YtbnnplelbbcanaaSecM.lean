/- Sectors of metas are read back, and one byte changed is found: plain mathematics (towards FnSectors). -/
import Derived.Test.YtbnnplelbbcanaaSect
import Derived.Test.YtbnnplelbbcanaaMetF
namespace Go.Proofs.Ytbnnplelbbcanaa
open Go.RowKit

theorem metaL_len (e f l : Int) : (metaL e f l).length = 32 := by
  unfold metaL
  rw [List.length_append, mbody_len, num4_len]
theorem num4_inj {m n : Nat} (hm : m < 4294967296) (hn : n < 4294967296) (h : num4 m = num4 n) : m = n := by
  rw [← num4_back m hm, ← num4_back n hn, h]
theorem metaL_head (e f l : Int) : ∃ r, metaL e f l = [77, 84] ++ num4 e ++ [b8 f] ++ num2 l ++ r := ⟨List.replicate (28 - (mhead e f l).length) 0 ++ num4 (sumL (fill (mhead e f l))), by unfold metaL fill mhead; simp⟩
theorem meta_E (e : Nat) (f l : Int) (h : e < 4294967296) : mE (tx (metaL e f l)) = e := by
  obtain ⟨r, hr⟩ := metaL_head e f l
  unfold mE
  rw [ext_list, tx_list, hr]
  show numOf (num4 e) = e
  exact num4_back e h
theorem meta_F (e f l : Int) (h0 : 0 ≤ f) (h1 : f ≤ 255) : mF (tx (metaL e f l)) = f := by
  obtain ⟨r, hr⟩ := metaL_head e f l
  unfold mF byU
  rw [tx_list, hr]
  show ((b8 f).toNat : Int) = f
  rw [b8_nat]
  omega
theorem meta_L (e f : Int) (l : Nat) (h : l ≤ 65535) : mL (tx (metaL e f l)) = l := by
  obtain ⟨r, hr⟩ := metaL_head e f l
  unfold mL
  rw [ext_list, tx_list, hr]
  show numOf (num2 l) = l
  unfold num2 numOf
  simp only [List.foldl_cons, List.foldl_nil]
  rw [b8_toNat, b8_toNat]
  omega
/-- A right meta's sector is right. -/
theorem meta_right (e : Nat) (f : Int) (l : Nat) (h : okM e f l = true) (he : e < 4294967296) (hf : 0 ≤ f ∧ f ≤ 255) (hl : l ≤ 65535) : mOK (tx (metaL e f l)) = true := by
  unfold mOK
  rw [meta_E e f l he, meta_F e f l hf.1 hf.2, meta_L e f l hl, h]
  simp
/-- One byte changed: no meta's sector. -/
theorem meta_changed (e f l e' f' l' : Int) (k : Nat) (hk : k < 32) (x : UInt8) (hx : x ≠ (metaL e f l).getD k 0) : (metaL e f l).set k x ≠ metaL e' f' l' := fun h => by
  have hb := mbody_len e f l
  have hb' := mbody_len e' f' l'
  unfold metaL at h hx
  generalize fill (mhead e f l) = B at *
  generalize fill (mhead e' f' l') = B' at *
  by_cases hk2 : k < 28
  · rw [List.set_append_left _ _ (by omega)] at h
    have h2 := List.append_inj h (by rw [List.length_set, hb, hb'])
    have hs := num4_inj (sumL_lt B) (sumL_lt B') h2.2
    rw [List.getD_eq_getElem?_getD, List.getElem?_append_left (by omega), ← List.getD_eq_getElem?_getD] at hx
    have := sum_set [] B k x (by omega) hx
    simp only [List.nil_append] at this
    rw [h2.1] at this
    exact this hs.symm
  · obtain ⟨j, rfl⟩ : ∃ j, k = 28 + j := ⟨k - 28, by omega⟩
    rw [List.set_append_right _ _ (by omega), hb, Nat.add_sub_cancel_left] at h
    have h2 := List.append_inj h (by rw [hb, hb'])
    rw [List.getD_eq_getElem?_getD, List.getElem?_append_right (by omega), hb, Nat.add_sub_cancel_left, ← List.getD_eq_getElem?_getD] at hx
    have hg : ((num4 (sumL B)).set j x).getD j 0 = x := by
      rw [List.getD_eq_getElem?_getD, List.getElem?_set_self (by rw [num4_len]; omega)]; rfl
    rw [h2.2, ← h2.1] at hg
    exact hx hg.symm
theorem meta_wrong (e f l : Int) (k : Nat) (hk : k < 32) (x : UInt8) (hx : x ≠ (metaL e f l).getD k 0) : mOK (tx ((metaL e f l).set k x)) = false := by
  unfold mOK
  have := meta_changed e f l (mE (tx ((metaL e f l).set k x))) (mF (tx ((metaL e f l).set k x))) (mL (tx ((metaL e f l).set k x))) k hk x hx
  rw [ByteArray.toList_eq, ByteArray.toList_eq, tx_list, tx_list]
  have hne : ((tx (metaL (mE (tx ((metaL e f l).set k x))) (mF (tx ((metaL e f l).set k x))) (mL (tx ((metaL e f l).set k x))))).data.toList == (metaL e f l).set k x) = false := by
    rw [tx_list]
    simpa using fun h => this h.symm
  rw [tx_list] at hne
  rw [hne]
  simp
end Go.Proofs.Ytbnnplelbbcanaa
