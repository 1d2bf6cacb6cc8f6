/- What writeCell writes into a row's bytes, kind by kind. -/
import Derived.Test.YtfkenogbfbbbjaaWrite
namespace Go.Proofs.Ytfkenogbfbbbjaa
open Go.RowKit

theorem bld_below {B b : Nat} {bs : List Value} {w w' : World} (h : Bld B b bs w) (hb : Below w.heap.size w w') : Bld B b bs w' := by
  have key : ∀ p, Lib.BuilderAt 67 5 B b p bs w → Lib.BuilderAt 67 5 B b p bs w' := fun p h => by
    have hlt := h.lt
    obtain ⟨hB, v, hbk, hown, hne⟩ := h
    exact ⟨hB, v, (hb.block b hlt).trans hbk, own_below hown hb, hne⟩
  rcases h with h | h
  · exact .inl (key _ h)
  · exact .inr (key _ h)

theorem method_bool (x : Bool) (w : World) : Sem.run Try.prog (method 243 101 (.bool x) "loop.example/g00208/impl.kind") w = .ok (134, .bool x) w := by kernel_rfl
theorem method_int (n : Int) (w : World) : Sem.run Try.prog (method 243 103 (.int .i64 n) "loop.example/g00208/impl.kind") w = .ok (135, .int .i64 n) w := by kernel_rfl
theorem method_text (t : ByteArray) (w : World) : Sem.run Try.prog (method 243 105 (.string t) "loop.example/g00208/impl.kind") w = .ok (136, .string t) w := by kernel_rfl
theorem method_bytes (t : ByteArray) (w : World) : Sem.run Try.prog (method 243 106 (.string t) "loop.example/g00208/impl.kind") w = .ok (137, .string t) w := by kernel_rfl
theorem method_null (w : World) : Sem.run Try.prog (method 243 112 (.agg #[]) "loop.example/g00208/impl.kind") w = .ok (138, .agg #[]) w := by kernel_rfl

theorem ta_bool_102 (x : Bool) (w : World) : Sem.run Try.prog (Instr.typeAssert (.iface 101 (.bool x)) 69 101 true) w = .ok (.tuple #[.bool x, .bool true]) w := by kernel_rfl
theorem ta_int_102 (n : Int) (w : World) : Sem.run Try.prog (Instr.typeAssert (.iface 103 (.int .i64 n)) 69 101 true) w = .ok (.tuple #[.bool false, .bool false]) w := by kernel_rfl
theorem ta_int_104 (n : Int) (w : World) : Sem.run Try.prog (Instr.typeAssert (.iface 103 (.int .i64 n)) 69 103 true) w = .ok (.tuple #[.int .i64 n, .bool true]) w := by kernel_rfl
theorem ta_text_102 (t : ByteArray) (w : World) : Sem.run Try.prog (Instr.typeAssert (.iface 105 (.string t)) 69 101 true) w = .ok (.tuple #[.bool false, .bool false]) w := by kernel_rfl
theorem ta_text_104 (t : ByteArray) (w : World) : Sem.run Try.prog (Instr.typeAssert (.iface 105 (.string t)) 69 103 true) w = .ok (.tuple #[.int .i64 0, .bool false]) w := by kernel_rfl
theorem ta_text_106 (t : ByteArray) (w : World) : Sem.run Try.prog (Instr.typeAssert (.iface 105 (.string t)) 69 105 true) w = .ok (.tuple #[.string t, .bool true]) w := by kernel_rfl
theorem ta_bytes_102 (t : ByteArray) (w : World) : Sem.run Try.prog (Instr.typeAssert (.iface 106 (.string t)) 69 101 true) w = .ok (.tuple #[.bool false, .bool false]) w := by kernel_rfl
theorem ta_bytes_104 (t : ByteArray) (w : World) : Sem.run Try.prog (Instr.typeAssert (.iface 106 (.string t)) 69 103 true) w = .ok (.tuple #[.int .i64 0, .bool false]) w := by kernel_rfl
theorem ta_bytes_106 (t : ByteArray) (w : World) : Sem.run Try.prog (Instr.typeAssert (.iface 106 (.string t)) 69 105 true) w = .ok (.tuple #[.string ⟨#[]⟩, .bool false]) w := by kernel_rfl
theorem ta_bytes_107 (t : ByteArray) (w : World) : Sem.run Try.prog (Instr.typeAssert (.iface 106 (.string t)) 69 106 true) w = .ok (.tuple #[.string t, .bool true]) w := by kernel_rfl
theorem ta_null_102  (w : World) : Sem.run Try.prog (Instr.typeAssert (.iface 112 (.agg #[])) 69 101 true) w = .ok (.tuple #[.bool false, .bool false]) w := by kernel_rfl
theorem ta_null_104  (w : World) : Sem.run Try.prog (Instr.typeAssert (.iface 112 (.agg #[])) 69 103 true) w = .ok (.tuple #[.int .i64 0, .bool false]) w := by kernel_rfl
theorem ta_null_106  (w : World) : Sem.run Try.prog (Instr.typeAssert (.iface 112 (.agg #[])) 69 105 true) w = .ok (.tuple #[.string ⟨#[]⟩, .bool false]) w := by kernel_rfl
theorem ta_null_107  (w : World) : Sem.run Try.prog (Instr.typeAssert (.iface 112 (.agg #[])) 69 106 true) w = .ok (.tuple #[.string ⟨#[]⟩, .bool false]) w := by kernel_rfl

theorem kind_bool (x : Bool) (w : World) : Calls Try.prog 134 #[.bool x] w fun e w' => e = .returned (.int .u8 1) ∧ w' = w := by
  go_enter Try.func134, Try.ntmps134
  go_wp2
  go_ret
  exact ⟨rfl, rfl⟩
theorem kind_int (n : Int) (w : World) : Calls Try.prog 135 #[.int .i64 n] w fun e w' => e = .returned (.int .u8 2) ∧ w' = w := by
  go_enter Try.func135, Try.ntmps135
  go_wp2
  go_ret
  exact ⟨rfl, rfl⟩
theorem kind_text (t : ByteArray) (w : World) : Calls Try.prog 136 #[.string t] w fun e w' => e = .returned (.int .u8 3) ∧ w' = w := by
  go_enter Try.func136, Try.ntmps136
  go_wp2
  go_ret
  exact ⟨rfl, rfl⟩
theorem kind_bytes (t : ByteArray) (w : World) : Calls Try.prog 137 #[.string t] w fun e w' => e = .returned (.int .u8 4) ∧ w' = w := by
  go_enter Try.func137, Try.ntmps137
  go_wp2
  go_ret
  exact ⟨rfl, rfl⟩
theorem kind_null (w : World) : Calls Try.prog 138 #[.agg #[]] w fun e w' => e = .returned (.int .u8 0) ∧ Below w.heap.size w w' := by
  go_enter Try.func138, Try.ntmps138
  go_wp2
  go_ret
  exact ⟨rfl, (Below.refl _ _).alloc (Nat.le_refl _) _⟩

set_option maxRecDepth 100000 in
set_option maxHeartbeats 2000000 in
theorem writeCell_int (B b : Nat) (bs : List Value) (n : Int) (w : World) (h : Bld B b bs w) (hlen : bs.length ≤ 40000) (hBw : B ≤ w.heap.size) :
    Calls Try.prog 54 #[.pointer (some ⟨b, 0, none⟩), .iface 103 (.int .i64 n), .func (Fn.func 73) #[] #[]] w fun e w' => e = .returned (.tuple #[]) ∧ Bld B b (bs ++ encV (2, n, ⟨#[]⟩)) w' ∧ Below B w w' := by
  have H0 : Hid (Bld B b bs w) := h
  have hm := fun wx => method_int n wx
  have ta102 := fun wx => ta_int_102 n wx
  have ta104 := fun wx => ta_int_104 n wx
  clear h
  go_enter Try.func54, Try.ntmps54
  go_wp2_with fail
  refine (kind_int n _).mono ?_
  rintro e x0 ⟨rfl, rfl⟩
  go_wp2_with fail
  refine (writeByte_any B b bs _ _ H0.out (by omega) hBw).mono ?_
  rintro e x1 ⟨rfl, g1, d1⟩
  have H1 : Hid (Bld B b _ x1) := g1
  clear g1
  go_wp2_with fail
  refine (writeInt_any B b _ n x1 H1.out (by simp; omega) (Nat.le_trans hBw d1.size)).mono ?_
  rintro e x2 ⟨rfl, g2, d2⟩
  have H2 : Hid (Bld B b _ x2) := g2
  have b2 := d1.trans d2
  clear g2 d1 d2
  go_wp2
  go_end0
  refine ⟨rfl, ?_, b2⟩
  have hE := H2.out
  simp only [List.append_assoc, List.cons_append, List.nil_append] at hE
  exact hE

set_option maxRecDepth 100000 in
set_option maxHeartbeats 2000000 in
theorem writeCell_bool (B b : Nat) (bs : List Value) (x : Bool) (w : World) (h : Bld B b bs w) (hlen : bs.length ≤ 40000) (hBw : B ≤ w.heap.size) :
    Calls Try.prog 54 #[.pointer (some ⟨b, 0, none⟩), .iface 101 (.bool x), .func (Fn.func 73) #[] #[]] w fun e w' => e = .returned (.tuple #[]) ∧ Bld B b (bs ++ encV (1, bI x, ⟨#[]⟩)) w' ∧ Below B w w' := by
  have H0 : Hid (Bld B b bs w) := h
  have hm := fun wx => method_bool x wx
  have ta102 := fun wx => ta_bool_102 x wx
  clear h
  go_enter Try.func54, Try.ntmps54
  go_wp2_with fail
  refine (kind_bool x _).mono ?_
  rintro e x0 ⟨rfl, rfl⟩
  go_wp2_with fail
  refine (writeByte_any B b bs _ _ H0.out (by omega) hBw).mono ?_
  rintro e x1 ⟨rfl, g1, d1⟩
  have H1 : Hid (Bld B b _ x1) := g1
  clear g1
  go_wp2_with fail
  refine (boolByte_any x _).mono ?_
  rintro e x3 ⟨rfl, rfl⟩
  go_wp2_with fail
  refine (writeByte_any B b _ _ _ H1.out (by simp; omega) (Nat.le_trans hBw d1.size)).mono ?_
  rintro e x2 ⟨rfl, g2, d2⟩
  have H2 : Hid (Bld B b _ x2) := g2
  have b2 := d1.trans d2
  clear g2 d1 d2
  go_wp2
  go_end0
  refine ⟨rfl, ?_, b2⟩
  have hE := H2.out
  simp only [List.append_assoc, List.cons_append, List.nil_append] at hE
  exact hE

set_option maxRecDepth 100000 in
set_option maxHeartbeats 2000000 in
theorem writeCell_text (B b : Nat) (bs : List Value) (t : ByteArray) (w : World) (h : Bld B b bs w) (hlen : bs.length ≤ 40000) (hBw : B ≤ w.heap.size) (ht : t.size ≤ 60) :
    Calls Try.prog 54 #[.pointer (some ⟨b, 0, none⟩), .iface 105 (.string t), .func (Fn.func 73) #[] #[]] w fun e w' => e = .returned (.tuple #[]) ∧ Bld B b (bs ++ encV (3, 0, t)) w' ∧ Below B w w' := by
  have H0 : Hid (Bld B b bs w) := h
  have hm := fun wx => method_text t wx
  have ta102 := fun wx => ta_text_102 t wx
  have ta104 := fun wx => ta_text_104 t wx
  have ta106 := fun wx => ta_text_106 t wx
  clear h
  go_enter Try.func54, Try.ntmps54
  go_wp2_with fail
  refine (kind_text t _).mono ?_
  rintro e x0 ⟨rfl, rfl⟩
  go_wp2_with fail
  refine (writeByte_any B b bs _ _ H0.out (by omega) hBw).mono ?_
  rintro e x1 ⟨rfl, g1, d1⟩
  have H1 : Hid (Bld B b _ x1) := g1
  clear g1
  go_wp2_with fail
  refine (writeRowText_any B b _ t x1 H1.out (by simp; omega) ht (Nat.le_trans hBw d1.size)).mono ?_
  rintro e x2 ⟨rfl, g2, d2⟩
  have H2 : Hid (Bld B b _ x2) := g2
  have b2 := d1.trans d2
  clear g2 d1 d2
  go_wp2
  go_end0
  refine ⟨rfl, ?_, b2⟩
  have hE := H2.out
  simp only [List.append_assoc, List.cons_append, List.nil_append] at hE
  exact hE

set_option maxRecDepth 100000 in
set_option maxHeartbeats 2000000 in
theorem writeCell_bytes (B b : Nat) (bs : List Value) (t : ByteArray) (w : World) (h : Bld B b bs w) (hlen : bs.length ≤ 40000) (hBw : B ≤ w.heap.size) (ht : t.size ≤ 60) :
    Calls Try.prog 54 #[.pointer (some ⟨b, 0, none⟩), .iface 106 (.string t), .func (Fn.func 73) #[] #[]] w fun e w' => e = .returned (.tuple #[]) ∧ Bld B b (bs ++ encV (4, 0, t)) w' ∧ Below B w w' := by
  have H0 : Hid (Bld B b bs w) := h
  have hm := fun wx => method_bytes t wx
  have ta102 := fun wx => ta_bytes_102 t wx
  have ta104 := fun wx => ta_bytes_104 t wx
  have ta106 := fun wx => ta_bytes_106 t wx
  have ta107 := fun wx => ta_bytes_107 t wx
  clear h
  go_enter Try.func54, Try.ntmps54
  go_wp2_with fail
  refine (kind_bytes t _).mono ?_
  rintro e x0 ⟨rfl, rfl⟩
  go_wp2_with fail
  refine (writeByte_any B b bs _ _ H0.out (by omega) hBw).mono ?_
  rintro e x1 ⟨rfl, g1, d1⟩
  have H1 : Hid (Bld B b _ x1) := g1
  clear g1
  go_wp2_with fail
  refine (writeRowText_any B b _ t x1 H1.out (by simp; omega) ht (Nat.le_trans hBw d1.size)).mono ?_
  rintro e x2 ⟨rfl, g2, d2⟩
  have H2 : Hid (Bld B b _ x2) := g2
  have b2 := d1.trans d2
  clear g2 d1 d2
  go_wp2
  go_end0
  refine ⟨rfl, ?_, b2⟩
  have hE := H2.out
  simp only [List.append_assoc, List.cons_append, List.nil_append] at hE
  exact hE

set_option maxRecDepth 100000 in
set_option maxHeartbeats 2000000 in
theorem writeCell_null (B b : Nat) (bs : List Value)  (w : World) (h : Bld B b bs w) (hlen : bs.length ≤ 40000) (hBw : B ≤ w.heap.size) :
    Calls Try.prog 54 #[.pointer (some ⟨b, 0, none⟩), .iface 112 (.agg #[]), .func (Fn.func 73) #[] #[]] w fun e w' => e = .returned (.tuple #[]) ∧ Bld B b (bs ++ encV (0, 0, ⟨#[]⟩)) w' ∧ Below B w w' := by
  have H0 : Hid (Bld B b bs w) := h
  have hm := fun wx => method_null wx
  have ta102 := fun wx => ta_null_102  wx
  have ta104 := fun wx => ta_null_104  wx
  have ta106 := fun wx => ta_null_106  wx
  have ta107 := fun wx => ta_null_107  wx
  clear h
  go_enter Try.func54, Try.ntmps54
  go_wp2_with fail
  refine (kind_null _).mono ?_
  rintro e x0 ⟨rfl, d0⟩
  have H0b : Hid (Bld B b bs x0) := bld_below H0.out d0
  go_wp2_with fail
  refine (writeByte_any B b bs _ _ H0b.out (by omega) (Nat.le_trans hBw d0.size)).mono ?_
  rintro e x1 ⟨rfl, g1, d1⟩
  have H1 : Hid (Bld B b _ x1) := g1
  have b1 : Below B w x1 := (d0.mono hBw).trans d1
  clear g1 d0 d1
  go_wp2
  go_end0
  refine ⟨rfl, ?_, b1⟩
  have hE := H1.out
  exact hE

end Go.Proofs.Ytfkenogbfbbbjaa
