/- What impl writes of a value into a key. -/
import Derived.Test.YtfkenogbfbbbjaaKeyA
namespace Go.Proofs.Ytfkenogbfbbbjaa
open Go.RowKit

/-- What both sides write of a right value into a key's bytes. -/
def encK (v : V3) : List Value :=
  .int .u8 v.1 :: (if v.1 = 1 then [.int .u8 v.2.1] else if v.1 = 2 then encI v.2.1 else if v.1 = 3 ∨ v.1 = 4 then escT v.2.2 else [])

set_option maxRecDepth 100000 in
set_option maxHeartbeats 2000000 in
theorem writeKeyCell_int (B b : Nat) (bs : List Value) (n : Int) (w : World) (h : Bld B b bs w) (hlen : bs.length ≤ 40000) (hBw : B ≤ w.heap.size) :
    Calls Try.prog 54 #[.pointer (some ⟨b, 0, none⟩), .iface 103 (.int .i64 n), .func (Fn.func 55) #[] #[]] w fun e w' => e = .returned (.tuple #[]) ∧ Bld B b (bs ++ encK (2, n, ⟨#[]⟩)) w' ∧ Below B w w' := by
  have H0 : Hid (Bld B b bs w) := h
  have hm := fun wx => method_int n wx
  have ta102 := fun wx => ta_int_102 n wx
  have ta104 := fun wx => ta_int_104 n wx
  clear h
  go_enter Try.func54, Try.ntmps54
  go_wp2_with fail
  refine (kind_int n _).mono ?_
  rintro e x0 ⟨rfl, rfl⟩
  go_wp2_with fail
  refine (writeByte_any B b bs _ _ H0.out (by omega) hBw).mono ?_
  rintro e x1 ⟨rfl, g1, d1⟩
  have H1 : Hid (Bld B b _ x1) := g1
  clear g1
  go_wp2_with fail
  refine (writeInt_any B b _ n x1 H1.out (by simp; omega) (Nat.le_trans hBw d1.size)).mono ?_
  rintro e x2 ⟨rfl, g2, d2⟩
  have H2 : Hid (Bld B b _ x2) := g2
  have b2 := d1.trans d2
  clear g2 d1 d2
  go_wp2
  go_end0
  refine ⟨rfl, ?_, b2⟩
  have hE := H2.out
  simp only [List.append_assoc, List.cons_append, List.nil_append] at hE
  exact hE

set_option maxRecDepth 100000 in
set_option maxHeartbeats 2000000 in
theorem writeKeyCell_bool (B b : Nat) (bs : List Value) (x : Bool) (w : World) (h : Bld B b bs w) (hlen : bs.length ≤ 40000) (hBw : B ≤ w.heap.size) :
    Calls Try.prog 54 #[.pointer (some ⟨b, 0, none⟩), .iface 101 (.bool x), .func (Fn.func 55) #[] #[]] w fun e w' => e = .returned (.tuple #[]) ∧ Bld B b (bs ++ encK (1, bI x, ⟨#[]⟩)) w' ∧ Below B w w' := by
  have H0 : Hid (Bld B b bs w) := h
  have hm := fun wx => method_bool x wx
  have ta102 := fun wx => ta_bool_102 x wx
  clear h
  go_enter Try.func54, Try.ntmps54
  go_wp2_with fail
  refine (kind_bool x _).mono ?_
  rintro e x0 ⟨rfl, rfl⟩
  go_wp2_with fail
  refine (writeByte_any B b bs _ _ H0.out (by omega) hBw).mono ?_
  rintro e x1 ⟨rfl, g1, d1⟩
  have H1 : Hid (Bld B b _ x1) := g1
  clear g1
  go_wp2_with fail
  refine (boolByte_any x _).mono ?_
  rintro e x3 ⟨rfl, rfl⟩
  go_wp2_with fail
  refine (writeByte_any B b _ _ _ H1.out (by simp; omega) (Nat.le_trans hBw d1.size)).mono ?_
  rintro e x2 ⟨rfl, g2, d2⟩
  have H2 : Hid (Bld B b _ x2) := g2
  have b2 := d1.trans d2
  clear g2 d1 d2
  go_wp2
  go_end0
  refine ⟨rfl, ?_, b2⟩
  have hE := H2.out
  simp only [List.append_assoc, List.cons_append, List.nil_append] at hE
  exact hE

set_option maxRecDepth 100000 in
set_option maxHeartbeats 2000000 in
theorem writeKeyCell_text (B b : Nat) (bs : List Value) (t : ByteArray) (w : World) (h : Bld B b bs w) (hlen : bs.length ≤ 40000) (hBw : B ≤ w.heap.size) (ht : t.size ≤ 60) :
    Calls Try.prog 54 #[.pointer (some ⟨b, 0, none⟩), .iface 105 (.string t), .func (Fn.func 55) #[] #[]] w fun e w' => e = .returned (.tuple #[]) ∧ Bld B b (bs ++ encK (3, 0, t)) w' ∧ Below B w w' := by
  have H0 : Hid (Bld B b bs w) := h
  have hm := fun wx => method_text t wx
  have ta102 := fun wx => ta_text_102 t wx
  have ta104 := fun wx => ta_text_104 t wx
  have ta106 := fun wx => ta_text_106 t wx
  clear h
  go_enter Try.func54, Try.ntmps54
  go_wp2_with fail
  refine (kind_text t _).mono ?_
  rintro e x0 ⟨rfl, rfl⟩
  go_wp2_with fail
  refine (writeByte_any B b bs _ _ H0.out (by omega) hBw).mono ?_
  rintro e x1 ⟨rfl, g1, d1⟩
  have H1 : Hid (Bld B b _ x1) := g1
  clear g1
  go_wp2_with fail
  refine (writeKeyText_any B b _ t x1 H1.out (by simp; omega) ht (Nat.le_trans hBw d1.size)).mono ?_
  rintro e x2 ⟨rfl, g2, d2⟩
  have H2 : Hid (Bld B b _ x2) := g2
  have b2 := d1.trans d2
  clear g2 d1 d2
  go_wp2
  go_end0
  refine ⟨rfl, ?_, b2⟩
  have hE := H2.out
  simp only [List.append_assoc, List.cons_append, List.nil_append] at hE
  exact hE

set_option maxRecDepth 100000 in
set_option maxHeartbeats 2000000 in
theorem writeKeyCell_bytes (B b : Nat) (bs : List Value) (t : ByteArray) (w : World) (h : Bld B b bs w) (hlen : bs.length ≤ 40000) (hBw : B ≤ w.heap.size) (ht : t.size ≤ 60) :
    Calls Try.prog 54 #[.pointer (some ⟨b, 0, none⟩), .iface 106 (.string t), .func (Fn.func 55) #[] #[]] w fun e w' => e = .returned (.tuple #[]) ∧ Bld B b (bs ++ encK (4, 0, t)) w' ∧ Below B w w' := by
  have H0 : Hid (Bld B b bs w) := h
  have hm := fun wx => method_bytes t wx
  have ta102 := fun wx => ta_bytes_102 t wx
  have ta104 := fun wx => ta_bytes_104 t wx
  have ta106 := fun wx => ta_bytes_106 t wx
  have ta107 := fun wx => ta_bytes_107 t wx
  clear h
  go_enter Try.func54, Try.ntmps54
  go_wp2_with fail
  refine (kind_bytes t _).mono ?_
  rintro e x0 ⟨rfl, rfl⟩
  go_wp2_with fail
  refine (writeByte_any B b bs _ _ H0.out (by omega) hBw).mono ?_
  rintro e x1 ⟨rfl, g1, d1⟩
  have H1 : Hid (Bld B b _ x1) := g1
  clear g1
  go_wp2_with fail
  refine (writeKeyText_any B b _ t x1 H1.out (by simp; omega) ht (Nat.le_trans hBw d1.size)).mono ?_
  rintro e x2 ⟨rfl, g2, d2⟩
  have H2 : Hid (Bld B b _ x2) := g2
  have b2 := d1.trans d2
  clear g2 d1 d2
  go_wp2
  go_end0
  refine ⟨rfl, ?_, b2⟩
  have hE := H2.out
  simp only [List.append_assoc, List.cons_append, List.nil_append] at hE
  exact hE

set_option maxRecDepth 100000 in
set_option maxHeartbeats 2000000 in
theorem writeKeyCell_null (B b : Nat) (bs : List Value)  (w : World) (h : Bld B b bs w) (hlen : bs.length ≤ 40000) (hBw : B ≤ w.heap.size) :
    Calls Try.prog 54 #[.pointer (some ⟨b, 0, none⟩), .iface 112 (.agg #[]), .func (Fn.func 55) #[] #[]] w fun e w' => e = .returned (.tuple #[]) ∧ Bld B b (bs ++ encK (0, 0, ⟨#[]⟩)) w' ∧ Below B w w' := by
  have H0 : Hid (Bld B b bs w) := h
  have hm := fun wx => method_null wx
  have ta102 := fun wx => ta_null_102  wx
  have ta104 := fun wx => ta_null_104  wx
  have ta106 := fun wx => ta_null_106  wx
  have ta107 := fun wx => ta_null_107  wx
  clear h
  go_enter Try.func54, Try.ntmps54
  go_wp2_with fail
  refine (kind_null _).mono ?_
  rintro e x0 ⟨rfl, d0⟩
  have H0b : Hid (Bld B b bs x0) := bld_below H0.out d0
  go_wp2_with fail
  refine (writeByte_any B b bs _ _ H0b.out (by omega) (Nat.le_trans hBw d0.size)).mono ?_
  rintro e x1 ⟨rfl, g1, d1⟩
  have H1 : Hid (Bld B b _ x1) := g1
  have b1 : Below B w x1 := (d0.mono hBw).trans d1
  clear g1 d0 d1
  go_wp2
  go_end0
  refine ⟨rfl, ?_, b1⟩
  have hE := H1.out
  exact hE

theorem writeKeyCell_any (B b : Nat) (bs : List Value) (v : V3) (w : World) (hok : okV3 v = true) (h : Bld B b bs w) (hlen : bs.length ≤ 40000) (hBw : B ≤ w.heap.size) :
    Calls Try.prog 54 #[.pointer (some ⟨b, 0, none⟩), cellW v, .func (Fn.func 55) #[] #[]] w fun e w' => e = .returned (.tuple #[]) ∧ Bld B b (bs ++ encK v) w' ∧ Below B w w' := by
  obtain ⟨k, n, t⟩ := v
  have hok' : okV k n t = true := hok
  have hcell : cellW (k, n, t) = cellV k n t := rfl
  rw [hcell]
  unfold cellV
  rw [if_pos hok']
  rcases kind_of hok' with ⟨rfl, rfl, _⟩ | ⟨rfl, hn⟩ | rfl | ⟨hk, ht⟩
  · exact writeKeyCell_null B b bs w h hlen hBw
  · have e : bI (n == 1) = n := by rcases hn with rfl | rfl <;> rfl
    have := writeKeyCell_bool B b bs (n == 1) w h hlen hBw
    rw [e] at this
    exact this
  · exact writeKeyCell_int B b bs n w h hlen hBw
  · rcases hk with rfl | rfl
    · exact writeKeyCell_text B b bs t w h hlen hBw ht
    · exact writeKeyCell_bytes B b bs t w h hlen hBw ht

end Go.Proofs.Ytfkenogbfbbbjaa
