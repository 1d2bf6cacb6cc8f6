/- The digits of bytes; the literal of a value; impl's (stage 1). -/
import Derived.Test.YtiimegahhnjjkaaDoorVtC
namespace Go.Proofs.YtiimegahhnjjkaaDoor
open Go.RowKit

/-- A digit to the base of 16. -/
def hxd (q : Nat) : UInt8 := ([48, 49, 50, 51, 52, 53, 54, 55, 56, 57, 97, 98, 99, 100, 101, 102] : List UInt8).getD q 0
theorem hexAt (q : Nat) (h : q < ({ data := #[48, 49, 50, 51, 52, 53, 54, 55, 56, 57, 97, 98, 99, 100, 101, 102] } : ByteArray).size) : ({ data := #[48, 49, 50, 51, 52, 53, 54, 55, 56, 57, 97, 98, 99, 100, 101, 102] } : ByteArray)[q] = hxd q := by
  have key : ∀ q : Fin 16, ({ data := #[48, 49, 50, 51, 52, 53, 54, 55, 56, 57, 97, 98, 99, 100, 101, 102] } : ByteArray)[q.val]'q.isLt = hxd q.val := by decide
  exact key ⟨q, h⟩
/-- Bytes to the base of 16. -/
def hexL (l : List UInt8) : List UInt8 := l.flatMap fun c => [hxd (c.toNat / 16), hxd (c.toNat % 16)]
/-- Quotes twice. -/
def quoL (l : List UInt8) : List UInt8 := l.flatMap fun c => if c = 39 then [39, 39] else [c]
theorem take_bt (t : ByteArray) (k : Nat) (h : k < t.size) : (bt t).take (k + 1) = (bt t).take k ++ [t[k]] := by
  have h' : k < (bt t).length := by rw [bt_size]; exact h
  rw [List.take_succ_eq_append_getElem h']
  rfl
theorem flat_snoc {f : UInt8 → List UInt8} (l : List UInt8) (c : UInt8) : (l ++ [c]).flatMap f = l.flatMap f ++ f c := by rw [List.flatMap_append]; simp
theorem flat_len (f : UInt8 → List UInt8) (h : ∀ c, (f c).length ≤ 2) : ∀ l : List UInt8, (l.flatMap f).length ≤ 2 * l.length
  | [] => by simp
  | c :: l => by
    have h1 := flat_len f h l
    have h2 := h c
    rw [List.flatMap_cons, List.length_append, List.length_cons]
    omega
theorem hexL_len (l : List UInt8) : (hexL l).length ≤ 2 * l.length := flat_len _ (fun _ => by simp) l
theorem quoL_len (l : List UInt8) : (quoL l).length ≤ 2 * l.length := flat_len _ (fun c => by split <;> simp) l
set_option maxRecDepth 100000 in
set_option maxHeartbeats 4000000 in
theorem hexOf_any (t : ByteArray) (ht : t.size ≤ 60) (w : World) : Calls Tryd.prog 30 #[.string t] w fun e w' => e = .returned (.string (tx (hexL (bt t)))) ∧ Below w.heap.size w w' := by
  obtain ⟨W2, hW2⟩ : ∃ W2, w.alloc (.cells #[.pointer none, .slice none 0 0] 51) = W2 := ⟨_, rfl⟩
  have B2 : Below w.heap.size w W2 := hW2 ▸ (Below.refl _ _).alloc (Nat.le_refl _) _
  have hF : Bd w.heap.size w.heap.size (hexL ((bt t).take 0)) W2 := hW2 ▸ Lib.fresh_isBuilder 51 5 w
  have HF : Hid (Bd w.heap.size w.heap.size (hexL ((bt t).take 0)) W2 ∧ Below w.heap.size w W2) := ⟨hF, B2⟩
  clear hF B2
  go_enter Tryd.func30, Tryd.ntmps30
  go_wp2
  go_loopw [7] (fun i wr => ∃ k : Nat, k ≤ t.size ∧ i = .int .i64 k ∧ Hid (Bd w.heap.size w.heap.size (hexL ((bt t).take k)) wr) ∧ Below w.heap.size w wr) (fun i _ => t.size - (intOf i).toNat)
  case atStart => exact ⟨0, Nat.zero_le _, rfl, HF.out.1, HF.out.2⟩
  case round =>
    obtain ⟨k, hk, rfl, HK, hbl⟩ := hrel
    by_cases hlt : k < t.size
    · have hltI : (k : Int) < (t.size : Int) := by omega
      have HJ : Hid (hexL ((bt t).take (k + 1)) = hexL ((bt t).take k) ++ [hxd (t[k].toNat / 16)] ++ [hxd (t[k].toNat % 16)]) := by show _ = _; rw [take_bt t k hlt]; unfold hexL; rw [flat_snoc]; simp
      have HL : Hid ((hexL ((bt t).take k)).length ≤ 200) := by
        have h1 := hexL_len ((bt t).take k)
        have h2 : ((bt t).take k).length ≤ k := by rw [List.length_take]; omega
        show _ ≤ _
        omega
      have hb := t[k].toNat_lt
      have h16 : (t[k].toNat : Int) / 16 < 16 := by omega
      have hm16 : ((t[k].toNat % 16 : Nat) : Int) < 16 := by omega
      have hs := hbl.size
      go_wp2_with fail
      refine (bd_byte w.heap.size w.heap.size _ _ wr HK.out (by have := HL.out; omega) hs).mono ?_
      rintro e w1 ⟨rfl, h1, b1⟩
      have B1 := hbl.trans b1
      rw [hexAt] at h1
      have H1 : Hid (Bd w.heap.size w.heap.size (hexL ((bt t).take k) ++ [hxd (t[k].toNat / 16)]) w1) := h1
      clear h1 b1 HK hbl hs
      have hs := B1.size
      go_wp2_with fail
      refine (bd_byte w.heap.size w.heap.size _ _ w1 H1.out (by rw [List.length_append]; have := HL.out; show _ + 1 ≤ _; omega) hs).mono ?_
      rintro e w2 ⟨rfl, h2, b2⟩
      have B2 := B1.trans b2
      rw [hexAt] at h2
      have H2 : Hid (Bd w.heap.size w.heap.size (hexL ((bt t).take (k + 1))) w2) := h2.eq HJ.out.symm
      clear h2 b2 H1 B1 hs
      go_wp2
      go_roundw
      case rel => exact ⟨k + 1, by omega, by go_num, H2.out, B2⟩
      case measure => simp [intOf]; omega
    · have e : k = t.size := by omega
      subst e
      have hs := hbl.size
      have HE : Hid ((bt t).take t.size = bt t) := List.take_of_length_le (by rw [bt_size]; exact Nat.le_refl _)
      go_wp2_with fail
      refine (Tryd.Builder_String_any w.heap.size w.heap.size _ wr HK.out hs).mono ?_
      rintro e w9 ⟨rfl, b9⟩
      have B9 := hbl.trans b9
      rw [HE.out]
      clear b9 HK hbl
      go_wp2
      go_ret
      exact ⟨rfl, B9⟩
end Go.Proofs.YtiimegahhnjjkaaDoor
