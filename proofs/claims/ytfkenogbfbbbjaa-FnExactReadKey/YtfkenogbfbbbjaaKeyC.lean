/- What impl.KeyBytes answers: the bytes of a key, in new memory. -/
import Derived.Test.YtfkenogbfbbbjaaKeyB
namespace Go.Proofs.Ytfkenogbfbbbjaa
open Go.RowKit

/-- A key's bytes. -/
def encKey (vs : List V3) : List Value := vs.flatMap encK
theorem escT_bytes (t : ByteArray) : ∀ x ∈ escT t, ∃ c : Int, x = .int .u8 c ∧ 0 ≤ c ∧ c ≤ 255 := by
  intro x hx
  unfold escT escK at hx
  rcases List.mem_append.1 hx with hx | hx
  · obtain ⟨b, _, hb⟩ := List.mem_flatMap.1 hx
    unfold esc1 at hb
    split at hb
    · simp at hb
      rcases hb with rfl | rfl
      · exact ⟨0, rfl, by omega, by omega⟩
      · exact ⟨255, rfl, by omega, by omega⟩
    · simp at hb
      subst hb
      exact ⟨_, rfl, by omega, by have := b.toNat_lt; omega⟩
  · simp at hx
    rcases hx with rfl | rfl
    · exact ⟨0, rfl, by omega, by omega⟩
    · exact ⟨1, rfl, by omega, by omega⟩
theorem encK_bytes (v : V3) (h : okV3 v = true) : ∀ x ∈ encK v, ∃ c : Int, x = .int .u8 c ∧ 0 ≤ c ∧ c ≤ 255 := by
  obtain ⟨k, n, t⟩ := v
  have hok' : okV k n t = true := h
  intro x hx
  unfold encK at hx
  rcases List.mem_cons.1 hx with rfl | hx
  · refine ⟨k, rfl, ?_⟩
    rcases kind_of hok' with ⟨rfl, rfl, _⟩ | ⟨rfl, hn⟩ | rfl | ⟨hk, ht⟩ <;> omega
  · simp only at hx
    rcases kind_of hok' with ⟨rfl, rfl, _⟩ | ⟨rfl, hn⟩ | rfl | ⟨hk, ht⟩
    · simp at hx
    · simp at hx; subst hx; exact ⟨n, rfl, by omega, by omega⟩
    · simp at hx; exact encI_bytes n x hx
    · rw [if_neg (by omega), if_neg (by omega), if_pos hk] at hx
      exact escT_bytes t x hx
theorem encK_len (v : V3) (h : okV3 v = true) : (encK v).length ≤ 130 := by
  obtain ⟨k, n, t⟩ := v
  have hok' : okV k n t = true := h
  unfold encK
  rw [List.length_cons]
  rcases kind_of hok' with ⟨rfl, rfl, _⟩ | ⟨rfl, hn⟩ | rfl | ⟨hk, ht⟩
  · simp
  · simp
  · simp [encI]
  · simp only
    rw [if_neg (by omega), if_neg (by omega), if_pos hk]
    have := escK_len t t.size
    unfold escT
    simp only [List.length_append, List.length_cons, List.length_nil]
    omega
theorem encKey_bytes {vs : List V3} (h : okRow vs = true) : ∀ x ∈ encKey vs, ∃ c : Int, x = .int .u8 c ∧ 0 ≤ c ∧ c ≤ 255 := by
  obtain ⟨h8, ha⟩ := okRow_all h
  intro x hx
  obtain ⟨v, hv, hx⟩ := List.mem_flatMap.1 hx
  exact encK_bytes v (ha v hv) x hx
theorem keyFlat_len (vs : List V3) (h : ∀ v ∈ vs, okV3 v = true) : (vs.flatMap encK).length ≤ 130 * vs.length := by
  induction vs with
  | nil => simp
  | cons v vs ih =>
    have h1 := encK_len v (h v (by simp))
    have h2 := ih (fun u hu => h u (by simp [hu]))
    simp only [List.flatMap_cons, List.length_append, List.length_cons]
    omega
theorem takeK_flat {vs : List V3} {k : Nat} (h : k < vs.length) : (vs.take (k + 1)).flatMap encK = (vs.take k).flatMap encK ++ encK (nthV vs k) := by
  rw [List.take_succ_eq_append_getElem h, List.flatMap_append]
  unfold nthV
  rw [List.getD_eq_getElem?_getD, List.getElem?_eq_getElem h]
  simp

set_option maxRecDepth 100000 in
set_option maxHeartbeats 4000000 in
theorem implKeyBytes_ok (a : Option Addr) (cap : Nat) (vs : List V3) (w : World) (hrow : RowV w a vs) (hok : okRow vs = true) :
    Calls Try.prog 19 #[.slice a vs.length cap] w fun e w' => ∃ g c, e = .returned (.tuple #[.slice (some ⟨g, 0, none⟩) (encKey vs).length c, .int .i64 0]) ∧ w.heap.size ≤ g ∧ OwnB w' (some ⟨g, 0, none⟩) (encKey vs).length (byteVal (encKey vs)) ∧ Below w.heap.size w w' := by
  obtain ⟨h8, hall⟩ := okRow_all hok
  have H1 : Hid (RowV w a vs) := hrow
  have HA : Hid (∀ v ∈ vs, okV3 v = true) := hall
  have hcode : rowCode vs = 0 := by unfold rowCode; rw [if_neg (by omega), hok]; rfl
  have HB : Hid (∀ x ∈ encKey vs, ∃ c : Int, x = .int .u8 c ∧ 0 ≤ c ∧ c ≤ 255) := encKey_bytes hok
  clear hrow hall hok
  go_enter Try.func19, Try.ntmps19
  go_wp2_with fail
  refine (rowCells_any a cap vs w H1.out (by omega)).mono ?_
  rintro e w1 ⟨v, rfl, hown, hb1⟩
  obtain ⟨av, cv, hv, hRI⟩ := own_row (hown hcode)
  subst hv
  have HR : Hid (RowI w1 av vs) := hRI
  clear hown hRI
  have hF : Hid (Bld w1.heap.size w1.heap.size [] (w1.alloc (.cells #[.pointer none, .slice none 0 0] 67))) := Lib.fresh_isBuilder 67 5 w1
  have hB0 : Below w1.heap.size w1 (w1.alloc (.cells #[.pointer none, .slice none 0 0] 67)) := (Below.refl _ _).alloc (Nat.le_refl _) _
  generalize hN : vs.length = n at *
  have HN : Hid (vs.length = n) := hN
  clear hN
  go_wp2
  go_loopw [19] (fun i wr => ∃ k : Nat, k ≤ n ∧ i = .int .i64 k ∧ Hid (Bld w1.heap.size w1.heap.size ((vs.take k).flatMap encK) wr) ∧ Below w1.heap.size w1 wr) (fun i _ => n - (intOf i).toNat)
  case atStart => exact ⟨0, by omega, rfl, hF.out, hB0⟩
  case round =>
    clear hcode
    obtain ⟨k, hk, rfl, HK, hbl⟩ := hrel
    by_cases hlt : k < n
    · have hlt' : k < vs.length := by rw [HN.out]; exact hlt
      obtain ⟨b, rfl, hlb, hc⟩ := (HR.out.below hbl) k hlt'
      have hltI : (k : Int) < (n : Int) := by omega
      have HV : Hid (okV3 (nthV vs k) = true) := HA.out _ (nth_mem hlt')
      have HT : Hid ((vs.take (k + 1)).flatMap encK = (vs.take k).flatMap encK ++ encK (nthV vs k)) := takeK_flat hlt'
      have HL : Hid (((vs.take k).flatMap encK).length ≤ 40000) := by
        have := keyFlat_len (vs.take k) (fun u hu => HA.out u (List.mem_of_mem_take hu))
        have h2 : (vs.take k).length ≤ 8 := by rw [List.length_take]; omega
        show _ ≤ _
        omega
      have hsz : w1.heap.size ≤ wr.heap.size := hbl.size
      go_wp2_with fail
      refine (writeKeyCell_any w1.heap.size w1.heap.size _ (nthV vs k) wr HV.out HK.out HL.out hsz).mono ?_
      rintro e w3 ⟨rfl, g3, d3⟩
      have H3 : Hid (Bld w1.heap.size w1.heap.size ((vs.take (k + 1)).flatMap encK) w3) := by rw [HT.out]; exact g3
      have hB3 := hbl.trans d3
      clear g3 d3 hc hlb hbl
      go_wp2
      go_roundw
      case rel => exact ⟨k + 1, by omega, by go_num, H3.out, hB3⟩
      case measure => simp [intOf]; omega
    · have e : k = n := by omega
      subst e
      obtain ⟨l, hl⟩ := bytes_list (encKey vs) HB.out
      have HLL : Hid (encKey vs = Lib.byteCells l) := hl
      have H4 : Hid (Bld w1.heap.size w1.heap.size (Lib.byteCells l) wr) := by
        have h := HK.out
        rw [List.take_of_length_le (by rw [HN.out]; exact Nat.le_refl _)] at h
        rw [← hl, encKey]
        exact h
      have hcv := fun wx => run_bytes_of_string (P := Try.prog) wx 9 22 5 ⟨l.toArray⟩ Try.underlying9 Try.underlying22 Try.underlying5
      clear hl HK
      go_wp2_with fail
      refine (Try.Builder_String_any w1.heap.size w1.heap.size l wr H4.out hbl.size).mono ?_
      rintro e w4 ⟨rfl, d4⟩
      have hB4 := hbl.trans d4
      clear d4 H4
      go_wp2
      go_ret2
      have hlen : (encKey vs).length = l.length := by rw [HLL.out, Lib.byteCells_length]
      refine ⟨w4.heap.size, grownCap w4 l.length 0 5, ?_, Nat.le_trans hb1.size hB4.size, ?_, ?_⟩
      · rw [hlen]; rfl
      · rw [hlen, HLL.out]
        exact own_bytes w4 l _
      · exact ((hb1.trans (hB4.mono hb1.size)).alloc (Nat.le_trans hb1.size hB4.size) _).drew
end Go.Proofs.Ytfkenogbfbbbjaa
