/- Sectors of pages are read back; a changed sum or another epoch is found: plain mathematics (towards FnSectors). -/
import Derived.Test.YtbnnplelbbcanaaInj
import Derived.Test.YtbnnplelbbcanaaRdR
namespace Go.Proofs.Ytbnnplelbbcanaa
open Go.RowKit

theorem ext_list (s : ByteArray) (i j : Nat) : (s.extract i j).data.toList = (s.data.toList.drop i).take (j - i) := by
  simp [ByteArray.data_extract]
theorem numOf4 (a b c d : UInt8) : numOf [a, b, c, d] = a.toNat * 16777216 + b.toNat * 65536 + c.toNat * 256 + d.toNat := by
  unfold numOf
  simp only [List.foldl_cons, List.foldl_nil]
  omega
theorem b8_toNat (x : Int) : (b8 x).toNat = (x % 256).toNat := by have := b8_nat x; omega
theorem num4_back (n : Nat) (h : n < 4294967296) : numOf (num4 n) = n := by
  unfold num4
  rw [numOf4, b8_toNat, b8_toNat, b8_toNat, b8_toNat]
  omega
theorem pageL_len (page next epoch : Int) (data : List UInt8) (h : data.length ≤ 27) : (pageL page next epoch data).length = 32 := by
  unfold pageL
  rw [List.length_append, pbody_len next data h, num4_len]
theorem page_body (page next epoch : Int) (data : List UInt8) (h : data.length ≤ 27) : ((tx (pageL page next epoch data)).extract 0 28).data.toList = pbody next data := by
  rw [ext_list, tx_list]
  unfold pageL
  rw [List.drop_zero, List.take_left' (pbody_len next data h)]
theorem page_sum (page next epoch : Int) (data : List UInt8) (h : data.length ≤ 27) : ((tx (pageL page next epoch data)).extract 28 32).data.toList = num4 (psum page epoch (pbody next data)) := by
  rw [ext_list, tx_list]
  unfold pageL
  rw [List.drop_left' (pbody_len next data h)]
  exact List.take_of_length_le (by rw [num4_len]; omega)
theorem psum_lt (page epoch : Int) (body : List UInt8) : psum page epoch body < 4294967296 := sumL_lt _
/-- The sum of a page's sector is right. -/
theorem page_right (page next epoch : Int) (data : List UInt8) (h : data.length ≤ 27) : sumB page epoch (tx (pageL page next epoch data)) = true := by
  unfold sumB
  rw [page_body page next epoch data h, page_sum page next epoch data h, num4_back _ (psum_lt _ _ _)]
  simp
/-- It is not right for the next epoch. -/
theorem page_next (page next epoch : Int) (data : List UInt8) (h : data.length ≤ 27) (h0 : 0 ≤ epoch) (h1 : epoch ≤ 65000) : sumB page (epoch + 1) (tx (pageL page next epoch data)) = false := by
  unfold sumB
  rw [page_body page next epoch data h, page_sum page next epoch data h, num4_back _ (psum_lt _ _ _)]
  have := psum_next page epoch (pbody next data) h0 h1
  simpa using fun e => this e.symm
/-- The next page's number, and the data. -/
theorem page_first (page next epoch : Int) (data : List UInt8) (h0 : 0 ≤ next) (h1 : next ≤ 255) : byU (tx (pageL page next epoch data)).data.toList 0 = next := by
  have e : (pageL page next epoch data).getD 0 0 = b8 next := rfl
  rw [tx_list]
  unfold byU
  rw [e, b8_nat]
  omega
theorem page_data (page next epoch : Int) (data : List UInt8) (h : data.length ≤ 27) : ((tx (pageL page next epoch data)).extract 1 28).data.toList = data ++ List.replicate (27 - data.length) 0 := by
  rw [ext_list, tx_list]
  have e : pbody next data = b8 next :: (data ++ List.replicate (27 - data.length) 0) := by
    unfold pbody fill
    have : 28 - ([b8 next] ++ data).length = 27 - data.length := by rw [List.length_append]; show 28 - (1 + data.length) = _; omega
    rw [this]
    simp
  unfold pageL
  rw [e]
  show List.take 27 ((data ++ List.replicate (27 - data.length) 0) ++ _) = _
  exact List.take_left' (by rw [List.length_append, List.length_replicate]; omega)

theorem set_split (l : List UInt8) (k : Nat) (x : UInt8) (h : k < l.length) : l = l.take k ++ [l.getD k 0] ++ l.drop (k + 1) ∧ l.set k x = l.take k ++ [x] ++ l.drop (k + 1) := by
  have e : l.getD k 0 = l[k] := by rw [List.getD_eq_getElem?_getD, List.getElem?_eq_getElem h]; rfl
  refine ⟨?_, ?_⟩
  · rw [e, ← List.take_succ_eq_append_getElem h, List.take_append_drop]
  · rw [List.set_eq_take_append_cons_drop, if_pos h]
    simp
/-- One byte of what is summed, changed: the sum is another. -/
theorem sum_set (pre l : List UInt8) (k : Nat) (x : UInt8) (h : k < l.length) (hx : x ≠ l.getD k 0) : sumL (pre ++ l.set k x) ≠ sumL (pre ++ l) := fun hs => by
  obtain ⟨e1, e2⟩ := set_split l k x h
  rw [e2] at hs
  have hs' : sumL (pre ++ (l.take k ++ [x] ++ l.drop (k + 1))) = sumL (pre ++ (l.take k ++ [l.getD k 0] ++ l.drop (k + 1))) := by rw [hs]; congr 2
  have := sum_one (pre ++ l.take k) (l.drop (k + 1)) x (l.getD k 0) (by simpa using hs')
  exact hx this
theorem numOf_inj4 {a b c d a' b' c' d' : UInt8} (h : numOf [a, b, c, d] = numOf [a', b', c', d']) : [a, b, c, d] = [a', b', c', d'] := by
  rw [numOf4, numOf4] at h
  have := a.toNat_lt
  have := b.toNat_lt
  have := c.toNat_lt
  have := d.toNat_lt
  have := a'.toNat_lt
  have := b'.toNat_lt
  have := c'.toNat_lt
  have := d'.toNat_lt
  have h1 : a.toNat = a'.toNat := by omega
  have h2 : b.toNat = b'.toNat := by omega
  have h3 : c.toNat = c'.toNat := by omega
  have h4 : d.toNat = d'.toNat := by omega
  rw [UInt8.toNat_inj.1 h1, UInt8.toNat_inj.1 h2, UInt8.toNat_inj.1 h3, UInt8.toNat_inj.1 h4]
theorem four_of {l : List UInt8} (h : l.length = 4) : ∃ a b c d, l = [a, b, c, d] := by
  match l, h with
  | [a, b, c, d], _ => exact ⟨a, b, c, d, rfl⟩
theorem numOf_inj {l m : List UInt8} (hl : l.length = 4) (hm : m.length = 4) (h : numOf l = numOf m) : l = m := by
  obtain ⟨a, b, c, d, rfl⟩ := four_of hl
  obtain ⟨a', b', c', d', rfl⟩ := four_of hm
  exact numOf_inj4 h
/-- One byte of a page's sector changed: its sum is wrong. -/
theorem page_changed (page next epoch : Int) (data : List UInt8) (h : data.length ≤ 27) (k : Nat) (hk : k < 32) (x : UInt8) (hx : x ≠ (pageL page next epoch data).getD k 0) : sumB page epoch (tx ((pageL page next epoch data).set k x)) = false := by
  have hb := pbody_len next data h
  unfold sumB
  rw [ext_list, ext_list, tx_list]
  have e32 : (28 : Nat) - 0 = 28 := rfl
  rw [e32, List.drop_zero]
  by_cases hk2 : k < 28
  · have e1 : ((pageL page next epoch data).set k x).take 28 = (pbody next data).set k x := by
      unfold pageL
      rw [List.set_append_left _ _ (by omega), List.take_left' (by rw [List.length_set]; exact hb)]
    have e2 : (((pageL page next epoch data).set k x).drop 28).take (32 - 28) = num4 (psum page epoch (pbody next data)) := by
      unfold pageL
      rw [List.set_append_left _ _ (by omega), List.drop_left' (by rw [List.length_set]; exact hb)]
      rfl
    have e3 : (pageL page next epoch data).getD k 0 = (pbody next data).getD k 0 := by
      unfold pageL
      rw [List.getD_eq_getElem?_getD, List.getElem?_append_left (by omega), ← List.getD_eq_getElem?_getD]
    rw [e1, e2, num4_back _ (psum_lt _ _ _)]
    rw [e3] at hx
    have := sum_set ([b8 page] ++ num4 epoch) (pbody next data) k x (by omega) hx
    simpa [psum] using this
  · obtain ⟨j, rfl⟩ : ∃ j, k = 28 + j := ⟨k - 28, by omega⟩
    have e1 : ((pageL page next epoch data).set (28 + j) x).take 28 = pbody next data := by
      unfold pageL
      rw [List.set_append_right _ _ (by omega), List.take_left' hb]
    have e2 : (((pageL page next epoch data).set (28 + j) x).drop 28).take (32 - 28) = (num4 (psum page epoch (pbody next data))).set j x := by
      unfold pageL
      rw [List.set_append_right _ _ (by omega), List.drop_left' hb, hb, Nat.add_sub_cancel_left]
      exact List.take_of_length_le (by rw [List.length_set, num4_len]; omega)
    have e3 : (pageL page next epoch data).getD (28 + j) 0 = (num4 (psum page epoch (pbody next data))).getD j 0 := by
      unfold pageL
      rw [List.getD_eq_getElem?_getD, List.getElem?_append_right (by omega), hb, Nat.add_sub_cancel_left, ← List.getD_eq_getElem?_getD]
    rw [e1, e2]
    rw [e3] at hx
    have hne : psum page epoch (pbody next data) ≠ numOf ((num4 (psum page epoch (pbody next data))).set j x) := fun he => by
      have h4 : numOf (num4 (psum page epoch (pbody next data))) = numOf ((num4 (psum page epoch (pbody next data))).set j x) := (num4_back _ (psum_lt _ _ _)).trans he
      have := numOf_inj (num4_len _) (by rw [List.length_set, num4_len]) h4
      have hg : ((num4 (psum page epoch (pbody next data))).set j x).getD j 0 = x := by
        rw [List.getD_eq_getElem?_getD, List.getElem?_set_self (by rw [num4_len]; omega)]; rfl
      rw [← this] at hg
      exact hx hg.symm
    simpa using hne
end Go.Proofs.Ytbnnplelbbcanaa
