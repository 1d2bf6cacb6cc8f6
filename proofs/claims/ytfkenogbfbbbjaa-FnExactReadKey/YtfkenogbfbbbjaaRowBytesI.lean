/- What impl.RowBytes answers: the bytes of a row, in new memory. -/
import Derived.Test.YtfkenogbfbbbjaaWrite2
import Derived.Test.YtfkenogbfbbbjaaShelf
namespace Go.Proofs.Ytfkenogbfbbbjaa
open Go.RowKit

theorem writeCell_any (B b : Nat) (bs : List Value) (v : V3) (w : World) (hok : okV3 v = true) (h : Bld B b bs w) (hlen : bs.length ≤ 40000) (hBw : B ≤ w.heap.size) :
    Calls Try.prog 54 #[.pointer (some ⟨b, 0, none⟩), cellW v, .func (Fn.func 73) #[] #[]] w fun e w' => e = .returned (.tuple #[]) ∧ Bld B b (bs ++ encV v) w' ∧ Below B w w' := by
  obtain ⟨k, n, t⟩ := v
  have hok' : okV k n t = true := hok
  have hcell : cellW (k, n, t) = cellV k n t := rfl
  rw [hcell]
  unfold cellV
  rw [if_pos hok']
  rcases kind_of hok' with ⟨rfl, rfl, _⟩ | ⟨rfl, hn⟩ | rfl | ⟨hk, ht⟩
  · exact writeCell_null B b bs w h hlen hBw
  · have e : bI (n == 1) = n := by rcases hn with rfl | rfl <;> rfl
    have := writeCell_bool B b bs (n == 1) w h hlen hBw
    rw [e] at this
    exact this
  · exact writeCell_int B b bs n w h hlen hBw
  · rcases hk with rfl | rfl
    · exact writeCell_text B b bs t w h hlen hBw ht
    · exact writeCell_bytes B b bs t w h hlen hBw ht

theorem bytes_list : ∀ bs : List Value, (∀ x ∈ bs, ∃ c : Int, x = .int .u8 c ∧ 0 ≤ c ∧ c ≤ 255) → ∃ l : List UInt8, bs = Lib.byteCells l
  | [], _ => ⟨[], rfl⟩
  | x :: bs, h => by
    obtain ⟨c, rfl, h0, h1⟩ := h x (by simp)
    obtain ⟨l, rfl⟩ := bytes_list bs (fun y hy => h y (by simp [hy]))
    refine ⟨UInt8.ofNat c.toNat :: l, ?_⟩
    have h2 : ((UInt8.ofNat c.toNat).toNat : Int) = c := by simp; omega
    show Value.int .u8 c :: Lib.byteCells l = Value.int .u8 ((UInt8.ofNat c.toNat).toNat : Int) :: Lib.byteCells l
    rw [h2]

/-- A row's bytes: how many, then each. -/
def encRow (vs : List V3) : List Value := .int .u8 vs.length :: vs.flatMap encV
theorem encI_bytes (n : Int) : ∀ x ∈ encI n, ∃ c : Int, x = .int .u8 c ∧ 0 ≤ c ∧ c ≤ 255 := by
  intro x hx
  simp only [encI, List.mem_cons, List.mem_nil_iff, or_false] at hx
  rcases hx with rfl | rfl | rfl | rfl | rfl | rfl | rfl | rfl <;> exact ⟨_, rfl, by omega, by omega⟩
theorem str_bytes (t : ByteArray) : ∀ x ∈ Lib.strCells t, ∃ c : Int, x = .int .u8 c ∧ 0 ≤ c ∧ c ≤ 255 := by
  intro x hx
  simp only [Lib.strCells, List.mem_map] at hx
  obtain ⟨c, _, rfl⟩ := hx
  exact ⟨_, rfl, by omega, by have := c.toNat_lt; omega⟩
theorem encV_bytes (v : V3) (h : okV3 v = true) : ∀ x ∈ encV v, ∃ c : Int, x = .int .u8 c ∧ 0 ≤ c ∧ c ≤ 255 := by
  obtain ⟨k, n, t⟩ := v
  have hok' : okV k n t = true := h
  intro x hx
  unfold encV at hx
  rcases List.mem_cons.1 hx with rfl | hx
  · refine ⟨k, rfl, ?_⟩
    rcases kind_of hok' with ⟨rfl, rfl, _⟩ | ⟨rfl, hn⟩ | rfl | ⟨hk, ht⟩ <;> omega
  · simp only at hx
    rcases kind_of hok' with ⟨rfl, rfl, _⟩ | ⟨rfl, hn⟩ | rfl | ⟨hk, ht⟩
    · simp at hx
    · simp at hx; subst hx; exact ⟨n, rfl, by omega, by omega⟩
    · simp at hx; exact encI_bytes n x hx
    · rw [if_neg (by omega), if_neg (by omega), if_pos hk] at hx
      rcases List.mem_cons.1 hx with rfl | hx
      · exact ⟨t.size, rfl, by omega, by omega⟩
      · exact str_bytes t x hx
theorem encV_len (v : V3) (h : okV3 v = true) : (encV v).length ≤ 62 := by
  obtain ⟨k, n, t⟩ := v
  have hok' : okV k n t = true := h
  unfold encV
  rcases kind_of hok' with ⟨rfl, rfl, _⟩ | ⟨rfl, hn⟩ | rfl | ⟨hk, ht⟩
  · simp
  · simp
  · simp [encI]
  · simp only []
    rw [if_neg (by omega), if_neg (by omega), if_pos hk]
    simp [Lib.strCells_length]; omega
theorem okRow_all {vs : List V3} (h : okRow vs = true) : vs.length ≤ 8 ∧ ∀ v ∈ vs, okV3 v = true := by
  unfold okRow at h
  simpa using h
theorem encRow_bytes {vs : List V3} (h : okRow vs = true) : ∀ x ∈ encRow vs, ∃ c : Int, x = .int .u8 c ∧ 0 ≤ c ∧ c ≤ 255 := by
  obtain ⟨h8, ha⟩ := okRow_all h
  intro x hx
  rcases List.mem_cons.1 hx with rfl | hx
  · exact ⟨vs.length, rfl, by omega, by omega⟩
  · obtain ⟨v, hv, hx⟩ := List.mem_flatMap.1 hx
    exact encV_bytes v (ha v hv) x hx
theorem flat_len (vs : List V3) (h : ∀ v ∈ vs, okV3 v = true) : (vs.flatMap encV).length ≤ 62 * vs.length := by
  induction vs with
  | nil => simp
  | cons v vs ih =>
    have h1 := encV_len v (h v (by simp))
    have h2 := ih (fun u hu => h u (by simp [hu]))
    simp only [List.flatMap_cons, List.length_append, List.length_cons]
    omega

def byteVal (bs : List Value) (i : Nat) : Int := match bs[i]? with | some (.int _ c) => c | _ => 0

/-- The cells of a row, as rowCells hands them on. -/
def RowI (w : World) (a : Option Addr) (vs : List V3) : Prop :=
  ∀ i, i < vs.length → ∃ b, a = some ⟨b, 0, none⟩ ∧ b < w.heap.size ∧ w.cell? ⟨b, i, none⟩ = some (cellW (nthV vs i))
theorem RowI.below {w w' : World} {a : Option Addr} {vs : List V3} (h : RowI w a vs) (hb : Below w.heap.size w w') : RowI w' a vs := fun i hi => by
  obtain ⟨b, e, hlt, hc⟩ := h i hi
  exact ⟨b, e, Nat.lt_of_lt_of_le hlt hb.size, (hb.cell (p := ⟨b, i, none⟩) hlt).trans hc⟩
theorem own_row {u : World} {B : Nat} {v : Value} {vs : List V3} (h : u.ownsRow B 69 1 v vs.length (vs.map cellW)) : ∃ a c, v = .slice a vs.length c ∧ RowI u a vs := by
  obtain ⟨hl, h⟩ := h
  rcases h with ⟨rfl, h0⟩ | ⟨g, cap, cur, rfl, _, hh, hn, _, hcs, htk⟩
  · exact ⟨none, 0, by rw [h0], fun i hi => by omega⟩
  · refine ⟨_, _, rfl, fun i hi => ⟨g, rfl, ?_, ?_⟩⟩
    · rcases Nat.lt_or_ge g u.heap.size with h | h
      · exact h
      · rw [Array.getElem?_eq_none h] at hh; cases hh
    · have hxi : (vs.map cellW)[i]? = cur[i]? := by rw [← htk, List.getElem?_take, if_pos (by omega), Array.getElem?_toList]
      rw [slab_cell hh, ← hxi, List.getElem?_map, List.getElem?_eq_getElem hi]
      unfold nthV
      rw [List.getD_eq_getElem?_getD, List.getElem?_eq_getElem hi]
      rfl
theorem take_flat {vs : List V3} {k : Nat} (h : k < vs.length) : (vs.take (k + 1)).flatMap encV = (vs.take k).flatMap encV ++ encV (nthV vs k) := by
  rw [List.take_succ_eq_append_getElem h, List.flatMap_append]
  unfold nthV
  rw [List.getD_eq_getElem?_getD, List.getElem?_eq_getElem h]
  simp
theorem nth_mem {vs : List V3} {k : Nat} (h : k < vs.length) : nthV vs k ∈ vs := by
  unfold nthV
  rw [List.getD_eq_getElem?_getD, List.getElem?_eq_getElem h]
  exact List.getElem_mem h

theorem byteVal_cells (l : List UInt8) (i : Nat) (h : i < l.length) : byteVal (Lib.byteCells l) i = (l[i].toNat : Int) := by
  unfold byteVal Lib.byteCells
  rw [List.getElem?_map, List.getElem?_eq_getElem h]
  rfl
theorem own_bytes (w : World) (l : List UInt8) (c : Nat) : OwnB (w.alloc (.cells (bytesRow ⟨l.toArray⟩ c) 5 ((bytesRow ⟨l.toArray⟩ c).size, (bytesRow ⟨l.toArray⟩ c).size + 1))).drew (some ⟨w.heap.size, 0, none⟩) l.length (byteVal (Lib.byteCells l)) := by
  have hs : l.length ≤ (bytesRow ⟨l.toArray⟩ c).size := by unfold bytesRow; simp
  refine .inr ⟨w.heap.size, bytesRow ⟨l.toArray⟩ c, (bytesRow ⟨l.toArray⟩ c).size, (bytesRow ⟨l.toArray⟩ c).size + 1, rfl, ?_, hs, .inr hs, fun i hi => ?_⟩
  · show (w.heap.push _)[w.heap.size]? = _
    rw [Array.getElem?_push_size]
  · rw [bytesRow_at _ _ _ (by simpa using hi), byteVal_cells l i hi]
    rfl

set_option maxRecDepth 100000 in
set_option maxHeartbeats 4000000 in
theorem implRowBytes_ok (a : Option Addr) (cap : Nat) (vs : List V3) (w : World) (hrow : RowV w a vs) (hok : okRow vs = true) :
    Calls Try.prog 42 #[.slice a vs.length cap] w fun e w' => ∃ g c, e = .returned (.tuple #[.slice (some ⟨g, 0, none⟩) (encRow vs).length c, .int .i64 0]) ∧ w.heap.size ≤ g ∧ OwnB w' (some ⟨g, 0, none⟩) (encRow vs).length (byteVal (encRow vs)) ∧ Below w.heap.size w w' := by
  obtain ⟨h8, hall⟩ := okRow_all hok
  have H1 : Hid (RowV w a vs) := hrow
  have HA : Hid (∀ v ∈ vs, okV3 v = true) := hall
  have hcode : rowCode vs = 0 := by unfold rowCode; rw [if_neg (by omega), hok]; rfl
  have HB : Hid (∀ x ∈ encRow vs, ∃ c : Int, x = .int .u8 c ∧ 0 ≤ c ∧ c ≤ 255) := encRow_bytes hok
  clear hrow hall hok
  go_enter Try.func42, Try.ntmps42
  go_wp2_with fail
  refine (rowCells_any a cap vs w H1.out (by omega)).mono ?_
  rintro e w1 ⟨v, rfl, hown, hb1⟩
  obtain ⟨av, cv, hv, hRI⟩ := own_row (hown hcode)
  subst hv
  have HR : Hid (RowI w1 av vs) := hRI
  have HC : Hid (rowCode vs = 0) := hcode
  clear hown hRI
  have hF : Hid (Bld w1.heap.size w1.heap.size [] (w1.alloc (.cells #[.pointer none, .slice none 0 0] 67))) := Lib.fresh_isBuilder 67 5 w1
  have hB0 : Below w1.heap.size w1 (w1.alloc (.cells #[.pointer none, .slice none 0 0] 67)) := (Below.refl _ _).alloc (Nat.le_refl _) _
  generalize hN : vs.length = n at *
  have HN : Hid (vs.length = n) := hN
  clear hN
  go_wp2_with fail
  refine (writeByte_any w1.heap.size w1.heap.size [] _ _ hF.out (by simp) (by simp)).mono ?_
  rintro e w2 ⟨rfl, g2, d2⟩
  have H2 : Hid (Bld w1.heap.size w1.heap.size [.int .u8 n] w2) := g2
  have hB2 := hB0.trans d2
  clear g2 d2 hB0 hF hcode
  go_wp2
  go_loopw [23] (fun i wr => ∃ k : Nat, k ≤ n ∧ i = .int .i64 k ∧ Hid (Bld w1.heap.size w1.heap.size (.int .u8 n :: (vs.take k).flatMap encV) wr) ∧ Below w1.heap.size w1 wr) (fun i _ => n - (intOf i).toNat)
  case atStart => exact ⟨0, by omega, rfl, H2.out, hB2⟩
  case round =>
    obtain ⟨k, hk, rfl, HK, hbl⟩ := hrel
    by_cases hlt : k < n
    · have hlt' : k < vs.length := by rw [HN.out]; exact hlt
      obtain ⟨b, rfl, hlb, hc⟩ := (HR.out.below hbl) k hlt'
      have hltI : (k : Int) < (n : Int) := by omega
      have HV : Hid (okV3 (nthV vs k) = true) := HA.out _ (nth_mem hlt')
      have HT : Hid ((vs.take (k + 1)).flatMap encV = (vs.take k).flatMap encV ++ encV (nthV vs k)) := take_flat hlt'
      have hL : (Value.int .u8 n :: (vs.take k).flatMap encV).length ≤ 40000 := by
        have := flat_len (vs.take k) (fun u hu => HA.out u (List.mem_of_mem_take hu))
        have h2 : (vs.take k).length ≤ 8 := by rw [List.length_take]; omega
        simp only [List.length_cons]
        omega
      have HL : Hid ((Value.int .u8 n :: (vs.take k).flatMap encV).length ≤ 40000) := hL
      have hsz : w1.heap.size ≤ wr.heap.size := hbl.size
      clear hL
      go_wp2_with fail
      refine (writeCell_any w1.heap.size w1.heap.size _ (nthV vs k) wr HV.out HK.out HL.out hsz).mono ?_
      rintro e w3 ⟨rfl, g3, d3⟩
      have H3 : Hid (Bld w1.heap.size w1.heap.size (.int .u8 n :: (vs.take (k + 1)).flatMap encV) w3) := by rw [HT.out]; exact g3
      have hB3 := hbl.trans d3
      clear g3 d3 hc hlb hbl
      go_wp2
      go_roundw
      case rel => exact ⟨k + 1, by omega, by go_num, H3.out, hB3⟩
      case measure => simp [intOf]; omega
    · have e : k = n := by omega
      subst e
      obtain ⟨l, hl⟩ := bytes_list (encRow vs) HB.out
      have HLL : Hid (encRow vs = Lib.byteCells l) := hl
      have H4 : Hid (Bld w1.heap.size w1.heap.size (Lib.byteCells l) wr) := by
        have h := HK.out
        rw [List.take_of_length_le (by rw [HN.out]; exact Nat.le_refl _)] at h
        rw [← hl, encRow, HN.out]
        exact h
      have hcv := fun wx => run_bytes_of_string (P := Try.prog) wx 9 22 5 ⟨l.toArray⟩ Try.underlying9 Try.underlying22 Try.underlying5
      clear hl HK
      go_wp2_with fail
      refine (Try.Builder_String_any w1.heap.size w1.heap.size l wr H4.out hbl.size).mono ?_
      rintro e w4 ⟨rfl, d4⟩
      have hB4 := hbl.trans d4
      clear d4 H4
      go_wp2
      go_ret2
      have hlen : (encRow vs).length = l.length := by rw [HLL.out, Lib.byteCells_length]
      refine ⟨w4.heap.size, grownCap w4 l.length 0 5, ?_, Nat.le_trans hb1.size hB4.size, ?_, ?_⟩
      · rw [hlen]; rfl
      · rw [hlen, HLL.out]
        exact own_bytes w4 l _
      · exact ((hb1.trans (hB4.mono hb1.size)).alloc (Nat.le_trans hb1.size hB4.size) _).drew
end Go.Proofs.Ytfkenogbfbbbjaa
