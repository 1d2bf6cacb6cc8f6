/- What impl writes of a text into a key. -/
import Derived.Test.YtfkenogbfbbbjaaRowBytesI
namespace Go.Proofs.Ytfkenogbfbbbjaa
open Go.RowKit

/-- A byte of a text as a key has it. -/
def esc1 (b : UInt8) : List Value := if b = 0 then [.int .u8 0, .int .u8 255] else [.int .u8 b.toNat]
def escK (t : ByteArray) (k : Nat) : List Value := (t.data.toList.take k).flatMap esc1
def escT (t : ByteArray) : List Value := escK t t.size ++ [.int .u8 0, .int .u8 1]
theorem escK_len (t : ByteArray) (k : Nat) : (escK t k).length ≤ 2 * k := by
  unfold escK
  have h1 : ∀ l : List UInt8, (l.flatMap esc1).length ≤ 2 * l.length := fun l => by
    induction l with
    | nil => simp
    | cons a l ih =>
      have : (esc1 a).length ≤ 2 := by unfold esc1; split <;> simp
      simp only [List.flatMap_cons, List.length_append, List.length_cons]
      omega
  have := h1 (t.data.toList.take k)
  have h2 : (t.data.toList.take k).length ≤ k := by rw [List.length_take]; omega
  omega
theorem escK_succ {t : ByteArray} {k : Nat} (h : k < t.size) : escK t (k + 1) = escK t k ++ esc1 (t.data[k]'h) := by
  unfold escK
  have h' : k < t.data.toList.length := by rw [Array.length_toList]; exact h
  rw [List.take_succ_eq_append_getElem h', List.flatMap_append]
  simp

set_option maxRecDepth 100000 in
set_option maxHeartbeats 2000000 in
theorem writeKeyText_any (B b : Nat) (bs : List Value) (t : ByteArray) (w : World) (h : Bld B b bs w) (hlen : bs.length ≤ 50000) (ht : t.size ≤ 60) (hBw : B ≤ w.heap.size) :
    Calls Try.prog 55 #[.pointer (some ⟨b, 0, none⟩), .string t] w fun e w' => e = .returned (.tuple #[]) ∧ Bld B b (bs ++ escT t) w' ∧ Below B w w' := by
  have H0 : Hid (Bld B b bs w) := h
  clear h
  go_enter Try.func55, Try.ntmps55
  go_wp2
  go_loopw [7] (fun i wr => ∃ k : Nat, k ≤ t.size ∧ i = .int .i64 k ∧ Hid (Bld B b (bs ++ escK t k) wr) ∧ Below B w wr) (fun i _ => t.size - (intOf i).toNat)
  case atStart => exact ⟨0, by omega, rfl, by show Bld _ _ _ _; simpa [escK] using H0.out, Below.refl _ _⟩
  case round =>
    obtain ⟨k, hk, rfl, HK, hbl⟩ := hrel
    have hl1 := escK_len t k
    have HL : Hid ((bs ++ escK t k).length ≤ 60000) := by show _ ≤ _; rw [List.length_append]; omega
    have hws : B ≤ wr.heap.size := Nat.le_trans hBw hbl.size
    by_cases hlt : k < t.size
    · have hltI : (k : Int) < (t.size : Int) := by omega
      have HS : Hid (escK t (k + 1) = escK t k ++ esc1 t[k]) := escK_succ hlt
      clear hl1
      by_cases hz : (t[k].toNat : Int) = 0
      · have HE : Hid (esc1 t[k] = [.int .u8 0, .int .u8 255]) := by
          show _ = _
          have h0 : t[k] = 0 := by
            apply UInt8.toNat_inj.1
            simpa using hz
          unfold esc1
          rw [if_pos h0]
        go_wp2_with fail
        refine (writeByte_any B b _ _ wr HK.out (by have := HL.out; omega) hws).mono ?_
        rintro e x1 ⟨rfl, g1, d1⟩
        have H1 : Hid (Bld B b _ x1) := g1
        have b1 := hbl.trans d1
        have hws1 := Nat.le_trans hws d1.size
        clear g1 d1 HK hbl
        go_wp2_with fail
        refine (writeByte_any B b _ _ x1 H1.out (by have := HL.out; rw [List.length_append]; simp; simp at this; omega) hws1).mono ?_
        rintro e x2 ⟨rfl, g2, d2⟩
        have H2 : Hid (Bld B b (bs ++ escK t (k + 1)) x2) := by
          show Bld _ _ _ _
          rw [HS.out, HE.out]
          simpa using g2
        have b2 := b1.trans d2
        clear g2 d2 b1 H1
        go_wp2
        go_roundw
        case rel => exact ⟨k + 1, by omega, by go_num, H2.out, b2⟩
        case measure => simp [intOf]; omega
      · have HE : Hid (esc1 t[k] = [.int .u8 (t[k].toNat : Int)]) := by
          show _ = _
          unfold esc1
          rw [if_neg (fun h => hz (by rw [h]; rfl))]
        go_wp2_with fail
        refine (writeByte_any B b _ _ wr HK.out (by have := HL.out; omega) hws).mono ?_
        rintro e x1 ⟨rfl, g1, d1⟩
        have H1 : Hid (Bld B b (bs ++ escK t (k + 1)) x1) := by
          show Bld _ _ _ _
          rw [HS.out, HE.out]
          simpa using g1
        have b1 := hbl.trans d1
        clear g1 d1 HK hbl
        go_wp2
        go_roundw
        case rel => exact ⟨k + 1, by omega, by go_num, H1.out, b1⟩
        case measure => simp [intOf]; omega
    · obtain rfl : k = t.size := by omega
      clear hl1
      go_wp2_with fail
      refine (writeByte_any B b _ _ wr HK.out (by have := HL.out; omega) hws).mono ?_
      rintro e x1 ⟨rfl, g1, d1⟩
      have H1 : Hid (Bld B b _ x1) := g1
      have b1 := hbl.trans d1
      have hws1 := Nat.le_trans hws d1.size
      clear g1 d1 HK hbl
      go_wp2_with fail
      refine (writeByte_any B b _ _ x1 H1.out (by have := HL.out; rw [List.length_append]; simp; simp at this; omega) hws1).mono ?_
      rintro e x2 ⟨rfl, g2, d2⟩
      have H2 : Hid (Bld B b (bs ++ escT t) x2) := by
        show Bld _ _ _ _
        unfold escT
        simpa using g2
      have b2 := b1.trans d2
      clear g2 d2 b1 H1
      go_wp2
      go_end0
      exact ⟨rfl, H2.out, b2⟩
end Go.Proofs.Ytfkenogbfbbbjaa
