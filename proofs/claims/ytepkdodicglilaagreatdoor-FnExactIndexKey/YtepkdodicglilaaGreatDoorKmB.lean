/- What impl writes into a key (stage 9). -/
import Derived.Test.YtepkdodicglilaaGreatDoorKbI
namespace Go.Proofs.YtepkdodicglilaaGreatDoor
open Go.RowKit

/-- A byte of a text as a key has it. -/
def esc1 (b : UInt8) : List Value := if b = 0 then [.int .u8 0, .int .u8 255] else [.int .u8 b.toNat]
def escK (t : ByteArray) (k : Nat) : List Value := (t.data.toList.take k).flatMap esc1
def escT (t : ByteArray) : List Value := escK t t.size ++ [.int .u8 0, .int .u8 1]
theorem escK_len (t : ByteArray) (k : Nat) : (escK t k).length ≤ 2 * k := by
  unfold escK
  have h1 : ∀ l : List UInt8, (l.flatMap esc1).length ≤ 2 * l.length := fun l => by
    induction l with
    | nil => simp
    | cons a l ih =>
      have : (esc1 a).length ≤ 2 := by unfold esc1; split <;> simp
      simp only [List.flatMap_cons, List.length_append, List.length_cons]
      omega
  have := h1 (t.data.toList.take k)
  have h2 : (t.data.toList.take k).length ≤ k := by rw [List.length_take]; omega
  omega
theorem escK_succ {t : ByteArray} {k : Nat} (h : k < t.size) : escK t (k + 1) = escK t k ++ esc1 (t.data[k]'h) := by
  unfold escK
  have h' : k < t.data.toList.length := by rw [Array.length_toList]; exact h
  rw [List.take_succ_eq_append_getElem h', List.flatMap_append]
  simp

set_option maxRecDepth 100000 in
set_option maxHeartbeats 2000000 in
theorem writeKeyText_any (B b : Nat) (bs : List Value) (t : ByteArray) (w : World) (h : Bld B b bs w) (hlen : bs.length ≤ 50000) (ht : t.size ≤ 60) (hBw : B ≤ w.heap.size) :
    Calls Tryz.prog 65 #[.pointer (some ⟨b, 0, none⟩), .string t] w fun e w' => e = .returned (.tuple #[]) ∧ Bld B b (bs ++ escT t) w' ∧ Below B w w' := by
  have H0 : Hid (Bld B b bs w) := h
  clear h
  go_enter Tryz.func65, Tryz.ntmps65
  go_wp2
  go_loopw [7] (fun i wr => ∃ k : Nat, k ≤ t.size ∧ i = .int .i64 k ∧ Hid (Bld B b (bs ++ escK t k) wr) ∧ Below B w wr) (fun i _ => t.size - (intOf i).toNat)
  case atStart => exact ⟨0, by omega, rfl, by show Bld _ _ _ _; simpa [escK] using H0.out, Below.refl _ _⟩
  case round =>
    obtain ⟨k, hk, rfl, HK, hbl⟩ := hrel
    have hl1 := escK_len t k
    have HL : Hid ((bs ++ escK t k).length ≤ 60000) := by show _ ≤ _; rw [List.length_append]; omega
    have hws : B ≤ wr.heap.size := Nat.le_trans hBw hbl.size
    by_cases hlt : k < t.size
    · have hltI : (k : Int) < (t.size : Int) := by omega
      have HS : Hid (escK t (k + 1) = escK t k ++ esc1 t[k]) := escK_succ hlt
      clear hl1
      by_cases hz : (t[k].toNat : Int) = 0
      · have HE : Hid (esc1 t[k] = [.int .u8 0, .int .u8 255]) := by
          show _ = _
          have h0 : t[k] = 0 := by
            apply UInt8.toNat_inj.1
            simpa using hz
          unfold esc1
          rw [if_pos h0]
        go_wp2_with fail
        refine (writeByte_any B b _ _ wr HK.out (by have := HL.out; omega) hws).mono ?_
        rintro e x1 ⟨rfl, g1, d1⟩
        have H1 : Hid (Bld B b _ x1) := g1
        have b1 := hbl.trans d1
        have hws1 := Nat.le_trans hws d1.size
        clear g1 d1 HK hbl
        go_wp2_with fail
        refine (writeByte_any B b _ _ x1 H1.out (by have := HL.out; rw [List.length_append]; simp; simp at this; omega) hws1).mono ?_
        rintro e x2 ⟨rfl, g2, d2⟩
        have H2 : Hid (Bld B b (bs ++ escK t (k + 1)) x2) := by
          show Bld _ _ _ _
          rw [HS.out, HE.out]
          simpa using g2
        have b2 := b1.trans d2
        clear g2 d2 b1 H1
        go_wp2
        go_roundw
        case rel => exact ⟨k + 1, by omega, by go_num, H2.out, b2⟩
        case measure => simp [intOf]; omega
      · have HE : Hid (esc1 t[k] = [.int .u8 (t[k].toNat : Int)]) := by
          show _ = _
          unfold esc1
          rw [if_neg (fun h => hz (by rw [h]; rfl))]
        go_wp2_with fail
        refine (writeByte_any B b _ _ wr HK.out (by have := HL.out; omega) hws).mono ?_
        rintro e x1 ⟨rfl, g1, d1⟩
        have H1 : Hid (Bld B b (bs ++ escK t (k + 1)) x1) := by
          show Bld _ _ _ _
          rw [HS.out, HE.out]
          simpa using g1
        have b1 := hbl.trans d1
        clear g1 d1 HK hbl
        go_wp2
        go_roundw
        case rel => exact ⟨k + 1, by omega, by go_num, H1.out, b1⟩
        case measure => simp [intOf]; omega
    · obtain rfl : k = t.size := by omega
      clear hl1
      go_wp2_with fail
      refine (writeByte_any B b _ _ wr HK.out (by have := HL.out; omega) hws).mono ?_
      rintro e x1 ⟨rfl, g1, d1⟩
      have H1 : Hid (Bld B b _ x1) := g1
      have b1 := hbl.trans d1
      have hws1 := Nat.le_trans hws d1.size
      clear g1 d1 HK hbl
      go_wp2_with fail
      refine (writeByte_any B b _ _ x1 H1.out (by have := HL.out; rw [List.length_append]; simp; simp at this; omega) hws1).mono ?_
      rintro e x2 ⟨rfl, g2, d2⟩
      have H2 : Hid (Bld B b (bs ++ escT t) x2) := by
        show Bld _ _ _ _
        unfold escT
        simpa using g2
      have b2 := b1.trans d2
      clear g2 d2 b1 H1
      go_wp2
      go_end0
      exact ⟨rfl, H2.out, b2⟩
end Go.Proofs.YtepkdodicglilaaGreatDoor
namespace Go.Proofs.YtepkdodicglilaaGreatDoor
open Go.RowKit

/-- What both sides write of a right value into a key's bytes. -/
def encK (v : V3) : List Value :=
  .int .u8 v.1 :: (if v.1 = 1 then [.int .u8 v.2.1] else if v.1 = 2 then encI v.2.1 else if v.1 = 3 ∨ v.1 = 4 then escT v.2.2 else [])

set_option maxRecDepth 100000 in
set_option maxHeartbeats 2000000 in
theorem writeKeyCell_int (B b : Nat) (bs : List Value) (n : Int) (w : World) (h : Bld B b bs w) (hlen : bs.length ≤ 40000) (hBw : B ≤ w.heap.size) :
    Calls Tryz.prog 64 #[.pointer (some ⟨b, 0, none⟩), .iface 142 (.int .i64 n), .func (Fn.func 65) #[] #[]] w fun e w' => e = .returned (.tuple #[]) ∧ Bld B b (bs ++ encK (2, n, ⟨#[]⟩)) w' ∧ Below B w w' := by
  have H0 : Hid (Bld B b bs w) := h
  have hm := fun wx => method_int n wx
  have ta102 := fun wx => ta_int_102 n wx
  have ta104 := fun wx => ta_int_104 n wx
  clear h
  go_enter Tryz.func64, Tryz.ntmps64
  go_wp2_with fail
  refine (kind_int n _).mono ?_
  rintro e x0 ⟨rfl, rfl⟩
  go_wp2_with fail
  refine (writeByte_any B b bs _ _ H0.out (by omega) hBw).mono ?_
  rintro e x1 ⟨rfl, g1, d1⟩
  have H1 : Hid (Bld B b _ x1) := g1
  clear g1
  go_wp2_with fail
  refine (writeInt_any B b _ n x1 H1.out (by simp; omega) (Nat.le_trans hBw d1.size)).mono ?_
  rintro e x2 ⟨rfl, g2, d2⟩
  have H2 : Hid (Bld B b _ x2) := g2
  have b2 := d1.trans d2
  clear g2 d1 d2
  go_wp2
  go_end0
  refine ⟨rfl, ?_, b2⟩
  have hE := H2.out
  simp only [List.append_assoc, List.cons_append, List.nil_append] at hE
  exact hE

set_option maxRecDepth 100000 in
set_option maxHeartbeats 2000000 in
theorem writeKeyCell_bool (B b : Nat) (bs : List Value) (x : Bool) (w : World) (h : Bld B b bs w) (hlen : bs.length ≤ 40000) (hBw : B ≤ w.heap.size) :
    Calls Tryz.prog 64 #[.pointer (some ⟨b, 0, none⟩), .iface 140 (.bool x), .func (Fn.func 65) #[] #[]] w fun e w' => e = .returned (.tuple #[]) ∧ Bld B b (bs ++ encK (1, bI x, ⟨#[]⟩)) w' ∧ Below B w w' := by
  have H0 : Hid (Bld B b bs w) := h
  have hm := fun wx => method_bool x wx
  have ta102 := fun wx => ta_bool_102 x wx
  clear h
  go_enter Tryz.func64, Tryz.ntmps64
  go_wp2_with fail
  refine (kind_bool x _).mono ?_
  rintro e x0 ⟨rfl, rfl⟩
  go_wp2_with fail
  refine (writeByte_any B b bs _ _ H0.out (by omega) hBw).mono ?_
  rintro e x1 ⟨rfl, g1, d1⟩
  have H1 : Hid (Bld B b _ x1) := g1
  clear g1
  go_wp2_with fail
  refine (boolByte_any x _).mono ?_
  rintro e x3 ⟨rfl, rfl⟩
  go_wp2_with fail
  refine (writeByte_any B b _ _ _ H1.out (by simp; omega) (Nat.le_trans hBw d1.size)).mono ?_
  rintro e x2 ⟨rfl, g2, d2⟩
  have H2 : Hid (Bld B b _ x2) := g2
  have b2 := d1.trans d2
  clear g2 d1 d2
  go_wp2
  go_end0
  refine ⟨rfl, ?_, b2⟩
  have hE := H2.out
  simp only [List.append_assoc, List.cons_append, List.nil_append] at hE
  exact hE

set_option maxRecDepth 100000 in
set_option maxHeartbeats 2000000 in
theorem writeKeyCell_text (B b : Nat) (bs : List Value) (t : ByteArray) (w : World) (h : Bld B b bs w) (hlen : bs.length ≤ 40000) (hBw : B ≤ w.heap.size) (ht : t.size ≤ 60) :
    Calls Tryz.prog 64 #[.pointer (some ⟨b, 0, none⟩), .iface 144 (.string t), .func (Fn.func 65) #[] #[]] w fun e w' => e = .returned (.tuple #[]) ∧ Bld B b (bs ++ encK (3, 0, t)) w' ∧ Below B w w' := by
  have H0 : Hid (Bld B b bs w) := h
  have hm := fun wx => method_text t wx
  have ta102 := fun wx => ta_text_102 t wx
  have ta104 := fun wx => ta_text_104 t wx
  have ta106 := fun wx => ta_text_106 t wx
  clear h
  go_enter Tryz.func64, Tryz.ntmps64
  go_wp2_with fail
  refine (kind_text t _).mono ?_
  rintro e x0 ⟨rfl, rfl⟩
  go_wp2_with fail
  refine (writeByte_any B b bs _ _ H0.out (by omega) hBw).mono ?_
  rintro e x1 ⟨rfl, g1, d1⟩
  have H1 : Hid (Bld B b _ x1) := g1
  clear g1
  go_wp2_with fail
  refine (writeKeyText_any B b _ t x1 H1.out (by simp; omega) ht (Nat.le_trans hBw d1.size)).mono ?_
  rintro e x2 ⟨rfl, g2, d2⟩
  have H2 : Hid (Bld B b _ x2) := g2
  have b2 := d1.trans d2
  clear g2 d1 d2
  go_wp2
  go_end0
  refine ⟨rfl, ?_, b2⟩
  have hE := H2.out
  simp only [List.append_assoc, List.cons_append, List.nil_append] at hE
  exact hE

set_option maxRecDepth 100000 in
set_option maxHeartbeats 2000000 in
theorem writeKeyCell_bytes (B b : Nat) (bs : List Value) (t : ByteArray) (w : World) (h : Bld B b bs w) (hlen : bs.length ≤ 40000) (hBw : B ≤ w.heap.size) (ht : t.size ≤ 60) :
    Calls Tryz.prog 64 #[.pointer (some ⟨b, 0, none⟩), .iface 145 (.string t), .func (Fn.func 65) #[] #[]] w fun e w' => e = .returned (.tuple #[]) ∧ Bld B b (bs ++ encK (4, 0, t)) w' ∧ Below B w w' := by
  have H0 : Hid (Bld B b bs w) := h
  have hm := fun wx => method_bytes t wx
  have ta102 := fun wx => ta_bytes_102 t wx
  have ta104 := fun wx => ta_bytes_104 t wx
  have ta106 := fun wx => ta_bytes_106 t wx
  have ta107 := fun wx => ta_bytes_107 t wx
  clear h
  go_enter Tryz.func64, Tryz.ntmps64
  go_wp2_with fail
  refine (kind_bytes t _).mono ?_
  rintro e x0 ⟨rfl, rfl⟩
  go_wp2_with fail
  refine (writeByte_any B b bs _ _ H0.out (by omega) hBw).mono ?_
  rintro e x1 ⟨rfl, g1, d1⟩
  have H1 : Hid (Bld B b _ x1) := g1
  clear g1
  go_wp2_with fail
  refine (writeKeyText_any B b _ t x1 H1.out (by simp; omega) ht (Nat.le_trans hBw d1.size)).mono ?_
  rintro e x2 ⟨rfl, g2, d2⟩
  have H2 : Hid (Bld B b _ x2) := g2
  have b2 := d1.trans d2
  clear g2 d1 d2
  go_wp2
  go_end0
  refine ⟨rfl, ?_, b2⟩
  have hE := H2.out
  simp only [List.append_assoc, List.cons_append, List.nil_append] at hE
  exact hE

set_option maxRecDepth 100000 in
set_option maxHeartbeats 2000000 in
theorem writeKeyCell_null (B b : Nat) (bs : List Value)  (w : World) (h : Bld B b bs w) (hlen : bs.length ≤ 40000) (hBw : B ≤ w.heap.size) :
    Calls Tryz.prog 64 #[.pointer (some ⟨b, 0, none⟩), .iface 167 (.agg #[]), .func (Fn.func 65) #[] #[]] w fun e w' => e = .returned (.tuple #[]) ∧ Bld B b (bs ++ encK (0, 0, ⟨#[]⟩)) w' ∧ Below B w w' := by
  have H0 : Hid (Bld B b bs w) := h
  have hm := fun wx => method_null wx
  have ta102 := fun wx => ta_null_102  wx
  have ta104 := fun wx => ta_null_104  wx
  have ta106 := fun wx => ta_null_106  wx
  have ta107 := fun wx => ta_null_107  wx
  clear h
  go_enter Tryz.func64, Tryz.ntmps64
  go_wp2_with fail
  refine (kind_null _).mono ?_
  rintro e x0 ⟨rfl, d0⟩
  have H0b : Hid (Bld B b bs x0) := bld_below H0.out d0
  go_wp2_with fail
  refine (writeByte_any B b bs _ _ H0b.out (by omega) (Nat.le_trans hBw d0.size)).mono ?_
  rintro e x1 ⟨rfl, g1, d1⟩
  have H1 : Hid (Bld B b _ x1) := g1
  have b1 : Below B w x1 := (d0.mono hBw).trans d1
  clear g1 d0 d1
  go_wp2
  go_end0
  refine ⟨rfl, ?_, b1⟩
  have hE := H1.out
  exact hE

theorem writeKeyCell_any (B b : Nat) (bs : List Value) (v : V3) (w : World) (hok : okV3 v = true) (h : Bld B b bs w) (hlen : bs.length ≤ 40000) (hBw : B ≤ w.heap.size) :
    Calls Tryz.prog 64 #[.pointer (some ⟨b, 0, none⟩), cellW v, .func (Fn.func 65) #[] #[]] w fun e w' => e = .returned (.tuple #[]) ∧ Bld B b (bs ++ encK v) w' ∧ Below B w w' := by
  obtain ⟨k, n, t⟩ := v
  have hok' : okV k n t = true := hok
  have hcell : cellW (k, n, t) = cellV k n t := rfl
  rw [hcell]
  unfold cellV
  rw [if_pos hok']
  rcases kind_of hok' with ⟨rfl, rfl, _⟩ | ⟨rfl, hn⟩ | rfl | ⟨hk, ht⟩
  · exact writeKeyCell_null B b bs w h hlen hBw
  · have e : bI (n == 1) = n := by rcases hn with rfl | rfl <;> rfl
    have := writeKeyCell_bool B b bs (n == 1) w h hlen hBw
    rw [e] at this
    exact this
  · exact writeKeyCell_int B b bs n w h hlen hBw
  · rcases hk with rfl | rfl
    · exact writeKeyCell_text B b bs t w h hlen hBw ht
    · exact writeKeyCell_bytes B b bs t w h hlen hBw ht

end Go.Proofs.YtepkdodicglilaaGreatDoor
namespace Go.Proofs.YtepkdodicglilaaGreatDoor
open Go.RowKit

/-- A key's bytes. -/
def encKey (vs : List V3) : List Value := vs.flatMap encK
theorem escT_bytes (t : ByteArray) : ∀ x ∈ escT t, ∃ c : Int, x = .int .u8 c ∧ 0 ≤ c ∧ c ≤ 255 := by
  intro x hx
  unfold escT escK at hx
  rcases List.mem_append.1 hx with hx | hx
  · obtain ⟨b, _, hb⟩ := List.mem_flatMap.1 hx
    unfold esc1 at hb
    split at hb
    · simp at hb
      rcases hb with rfl | rfl
      · exact ⟨0, rfl, by omega, by omega⟩
      · exact ⟨255, rfl, by omega, by omega⟩
    · simp at hb
      subst hb
      exact ⟨_, rfl, by omega, by have := b.toNat_lt; omega⟩
  · simp at hx
    rcases hx with rfl | rfl
    · exact ⟨0, rfl, by omega, by omega⟩
    · exact ⟨1, rfl, by omega, by omega⟩
theorem encK_bytes (v : V3) (h : okV3 v = true) : ∀ x ∈ encK v, ∃ c : Int, x = .int .u8 c ∧ 0 ≤ c ∧ c ≤ 255 := by
  obtain ⟨k, n, t⟩ := v
  have hok' : okV k n t = true := h
  intro x hx
  unfold encK at hx
  rcases List.mem_cons.1 hx with rfl | hx
  · refine ⟨k, rfl, ?_⟩
    rcases kind_of hok' with ⟨rfl, rfl, _⟩ | ⟨rfl, hn⟩ | rfl | ⟨hk, ht⟩ <;> omega
  · simp only at hx
    rcases kind_of hok' with ⟨rfl, rfl, _⟩ | ⟨rfl, hn⟩ | rfl | ⟨hk, ht⟩
    · simp at hx
    · simp at hx; subst hx; exact ⟨n, rfl, by omega, by omega⟩
    · simp at hx; exact encI_bytes n x hx
    · rw [if_neg (by omega), if_neg (by omega), if_pos hk] at hx
      exact escT_bytes t x hx
theorem encK_len (v : V3) (h : okV3 v = true) : (encK v).length ≤ 130 := by
  obtain ⟨k, n, t⟩ := v
  have hok' : okV k n t = true := h
  unfold encK
  rw [List.length_cons]
  rcases kind_of hok' with ⟨rfl, rfl, _⟩ | ⟨rfl, hn⟩ | rfl | ⟨hk, ht⟩
  · simp
  · simp
  · simp [encI]
  · simp only
    rw [if_neg (by omega), if_neg (by omega), if_pos hk]
    have := escK_len t t.size
    unfold escT
    simp only [List.length_append, List.length_cons, List.length_nil]
    omega
theorem encKey_bytes {vs : List V3} (h : okRow vs = true) : ∀ x ∈ encKey vs, ∃ c : Int, x = .int .u8 c ∧ 0 ≤ c ∧ c ≤ 255 := by
  obtain ⟨h8, ha⟩ := okRow_all h
  intro x hx
  obtain ⟨v, hv, hx⟩ := List.mem_flatMap.1 hx
  exact encK_bytes v (ha v hv) x hx
theorem keyFlat_len (vs : List V3) (h : ∀ v ∈ vs, okV3 v = true) : (vs.flatMap encK).length ≤ 130 * vs.length := by
  induction vs with
  | nil => simp
  | cons v vs ih =>
    have h1 := encK_len v (h v (by simp))
    have h2 := ih (fun u hu => h u (by simp [hu]))
    simp only [List.flatMap_cons, List.length_append, List.length_cons]
    omega
theorem takeK_flat {vs : List V3} {k : Nat} (h : k < vs.length) : (vs.take (k + 1)).flatMap encK = (vs.take k).flatMap encK ++ encK (nthV vs k) := by
  rw [List.take_succ_eq_append_getElem h, List.flatMap_append]
  unfold nthV
  rw [List.getD_eq_getElem?_getD, List.getElem?_eq_getElem h]
  simp

set_option maxRecDepth 100000 in
set_option maxHeartbeats 4000000 in
theorem implKeyBytes_ok (a : Option Addr) (cap : Nat) (vs : List V3) (w : World) (hrow : RowV w a vs) (hok : okRow vs = true) :
    Calls Tryz.prog 39 #[.slice a vs.length cap] w fun e w' => ∃ g c, e = .returned (.tuple #[.slice (some ⟨g, 0, none⟩) (encKey vs).length c, .int .i64 0]) ∧ w.heap.size ≤ g ∧ OwnB w' (some ⟨g, 0, none⟩) (encKey vs).length (byteVal (encKey vs)) ∧ Below w.heap.size w w' := by
  obtain ⟨h8, hall⟩ := okRow_all hok
  have H1 : Hid (RowV w a vs) := hrow
  have HA : Hid (∀ v ∈ vs, okV3 v = true) := hall
  have hcode : rowCode vs = 0 := by unfold rowCode; rw [if_neg (by omega), hok]; rfl
  have HB : Hid (∀ x ∈ encKey vs, ∃ c : Int, x = .int .u8 c ∧ 0 ≤ c ∧ c ≤ 255) := encKey_bytes hok
  clear hrow hall hok
  go_enter Tryz.func39, Tryz.ntmps39
  go_wp2_with fail
  refine (rowCells_any a cap vs w H1.out (by omega)).mono ?_
  rintro e w1 ⟨v, rfl, hown, hb1⟩
  obtain ⟨av, cv, hv, hRI⟩ := own_row (hown hcode)
  subst hv
  have HR : Hid (RowCl w1 av vs) := hRI
  clear hown hRI
  have hF : Hid (Bld w1.heap.size w1.heap.size [] (w1.alloc (.cells #[.pointer none, .slice none 0 0] 107))) := Lib.fresh_isBuilder 107 5 w1
  have hB0 : Below w1.heap.size w1 (w1.alloc (.cells #[.pointer none, .slice none 0 0] 107)) := (Below.refl _ _).alloc (Nat.le_refl _) _
  generalize hN : vs.length = n at *
  have HN : Hid (vs.length = n) := hN
  clear hN
  go_wp2
  go_loopw [19] (fun i wr => ∃ k : Nat, k ≤ n ∧ i = .int .i64 k ∧ Hid (Bld w1.heap.size w1.heap.size ((vs.take k).flatMap encK) wr) ∧ Below w1.heap.size w1 wr) (fun i _ => n - (intOf i).toNat)
  case atStart => exact ⟨0, by omega, rfl, hF.out, hB0⟩
  case round =>
    clear hcode
    obtain ⟨k, hk, rfl, HK, hbl⟩ := hrel
    by_cases hlt : k < n
    · have hlt' : k < vs.length := by rw [HN.out]; exact hlt
      obtain ⟨b, rfl, hlb, hc⟩ := (HR.out.below hbl) k hlt'
      have hltI : (k : Int) < (n : Int) := by omega
      have HV : Hid (okV3 (nthV vs k) = true) := HA.out _ (nth_mem hlt')
      have HT : Hid ((vs.take (k + 1)).flatMap encK = (vs.take k).flatMap encK ++ encK (nthV vs k)) := takeK_flat hlt'
      have HL : Hid (((vs.take k).flatMap encK).length ≤ 40000) := by
        have := keyFlat_len (vs.take k) (fun u hu => HA.out u (List.mem_of_mem_take hu))
        have h2 : (vs.take k).length ≤ 8 := by rw [List.length_take]; omega
        show _ ≤ _
        omega
      have hsz : w1.heap.size ≤ wr.heap.size := hbl.size
      go_wp2_with fail
      refine (writeKeyCell_any w1.heap.size w1.heap.size _ (nthV vs k) wr HV.out HK.out HL.out hsz).mono ?_
      rintro e w3 ⟨rfl, g3, d3⟩
      have H3 : Hid (Bld w1.heap.size w1.heap.size ((vs.take (k + 1)).flatMap encK) w3) := by rw [HT.out]; exact g3
      have hB3 := hbl.trans d3
      clear g3 d3 hc hlb hbl
      go_wp2
      go_roundw
      case rel => exact ⟨k + 1, by omega, by go_num, H3.out, hB3⟩
      case measure => simp [intOf]; omega
    · have e : k = n := by omega
      subst e
      obtain ⟨l, hl⟩ := bytes_list (encKey vs) HB.out
      have HLL : Hid (encKey vs = Lib.byteCells l) := hl
      have H4 : Hid (Bld w1.heap.size w1.heap.size (Lib.byteCells l) wr) := by
        have h := HK.out
        rw [List.take_of_length_le (by rw [HN.out]; exact Nat.le_refl _)] at h
        rw [← hl, encKey]
        exact h
      have hcv := fun wx => run_bytes_of_string (P := Tryz.prog) wx 9 41 5 ⟨l.toArray⟩ Tryz.underlying9 Tryz.underlying41 Tryz.underlying5
      clear hl HK
      go_wp2_with fail
      refine (Tryz.Builder_String_any w1.heap.size w1.heap.size l wr H4.out hbl.size).mono ?_
      rintro e w4 ⟨rfl, d4⟩
      have hB4 := hbl.trans d4
      clear d4 H4
      go_wp2
      go_ret2
      have hlen : (encKey vs).length = l.length := by rw [HLL.out, Lib.byteCells_length]
      refine ⟨w4.heap.size, grownCap w4 l.length 0 5, ?_, Nat.le_trans hb1.size hB4.size, ?_, ?_⟩
      · rw [hlen]; rfl
      · rw [hlen, HLL.out]
        exact own_bytes w4 l _
      · exact ((hb1.trans (hB4.mono hb1.size)).alloc (Nat.le_trans hb1.size hB4.size) _).drew
end Go.Proofs.YtepkdodicglilaaGreatDoor
