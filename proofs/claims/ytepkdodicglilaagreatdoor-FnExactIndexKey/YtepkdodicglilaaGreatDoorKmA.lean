/- Builders of bytes, and what is written of a cell (stage 9). -/
import Derived.Test.YtepkdodicglilaaGreatDoorMarks
import Derived.Lib.Builder
import Derived.Lib.AppendStr
import Derived.Laws.Externs
import Derived.Laws.BitsAllLaws
import Derived.WalkKit
import Derived.Test.YtepkdodicglilaaGreatDoorVlC
namespace Go.Proofs.YtepkdodicglilaaGreatDoor
open Go.RowKit

theorem size67 : (Tryz.prog.info? 107).map (·.size) = some 2 := by kernel_rfl

set_option maxRecDepth 100000 in
theorem copyCheck_used (b : Nat) (w : World) (h0 : w.cell? ⟨b, 0, none⟩ = some (.pointer (some ⟨b, 0, none⟩))) :
    Calls Tryz.prog 101 #[.pointer (some ⟨b, 0, none⟩)] w fun e w' => e = .returned (.tuple #[]) ∧ w' = w := by
  obtain ⟨j, hj, _⟩ := Option.map_eq_some_iff.1 size67
  have hne := Lib.run_neq_ptr_same (P := Tryz.prog) (w := w) ⟨b, 0, none⟩ Tryz.underlying105 hj
  go_enter Tryz.func101, Tryz.ntmps101
  go_wp2
  go_end0
  exact ⟨rfl, rfl⟩
theorem noEscape_run (x : Value) (w : World) : Sem.run Tryz.prog (callFunc 109 #[x]) w = .ok (.value x) w := by
  rw [run_callFunc_extern Tryz.func109 (by kernel_rfl) (by kernel_rfl) (by kernel_rfl) (e := Extern.AbiNoEscape.same) (by kernel_rfl), Lib.run_noEscape]
  rfl

set_option maxRecDepth 100000 in
theorem copyCheck_fresh (b : Nat) (w : World) (h0 : w.cell? ⟨b, 0, none⟩ = some (.pointer none)) (hsh : w.shape? b = some (107, 2)) (hfz : w.frozen? ⟨b, 0, none⟩ = false) :
    Calls Tryz.prog 101 #[.pointer (some ⟨b, 0, none⟩)] w fun e w' => e = .returned (.tuple #[]) ∧ w' = w.setCell ⟨b, 0, none⟩ (.pointer (some ⟨b, 0, none⟩)) := by
  obtain ⟨j, hj, hjs⟩ := Option.map_eq_some_iff.1 size67
  have hto := Lib.run_to_unsafe (P := Tryz.prog) (w := w) ⟨b, 0, none⟩ Tryz.underlying105 Tryz.underlying122 hj (by rw [hjs]; decide) hsh (Nat.zero_lt_succ 1)
  have hfrom := Lib.run_from_unsafe (P := Tryz.prog) (w := w) ⟨b, 0, none⟩ Tryz.underlying122 Tryz.underlying105 hj hsh (by kernel_rfl)
  have hcf : Sem.run Tryz.prog (callFunc 109 #[.pointer (some ⟨b, 0, none⟩)]) w = .ok (.value (.pointer (some ⟨b, 0, none⟩))) w := noEscape_run _ _
  clear hsh hj hjs
  go_enter Tryz.func101, Tryz.ntmps101
  go_wp2
  go_end0
  exact ⟨rfl, rfl⟩

/-- A builder in block b that has written the bytes bs; all that it made lies from B on. -/
abbrev Bld (B b : Nat) (bs : List Value) (w : World) : Prop := Lib.IsBuilder 107 5 B b bs w

theorem copyCheck_any (B b : Nat) (bs : List Value) (w : World) (h : Bld B b bs w) :
    Calls Tryz.prog 101 #[.pointer (some ⟨b, 0, none⟩)] w fun e w' => e = .returned (.tuple #[]) ∧ Lib.BuilderAt 107 5 B b (.pointer (some ⟨b, 0, none⟩)) bs w' ∧ Below B w w' := by
  rcases h with h | h
  · refine (copyCheck_fresh b w h.cell0 h.shape h.frozen0).mono ?_
    rintro e w' ⟨rfl, rfl⟩
    exact ⟨rfl, h.used _, (Below.refl B w).setCell (p := ⟨b, 0, none⟩) h.1 _⟩
  · refine (copyCheck_used b w h.cell0).mono ?_
    rintro e w' ⟨rfl, rfl⟩
    exact ⟨rfl, h, Below.refl B _⟩

set_option maxRecDepth 100000 in
set_option maxHeartbeats 2000000 in
theorem writeByte_any (B b : Nat) (bs : List Value) (c : Int) (w : World) (h : Bld B b bs w) (hlen : bs.length ≤ 100000) (hBw : B ≤ w.heap.size) :
    Calls Tryz.prog 85 #[.pointer (some ⟨b, 0, none⟩), .int .u8 c] w fun e w' => e = .returned .nilIface ∧ Bld B b (bs ++ [.int .u8 c]) w' ∧ Below B w w' := by
  obtain ⟨i0, hi, hz0, hz1, hz2⟩ := info_parts info5
  have HB : Hid (Bld B b bs w) := h
  clear h
  go_enter Tryz.func85, Tryz.ntmps85
  go_wp2_with fail
  refine (copyCheck_any B b bs w HB.out).mono ?_
  rintro e w1 ⟨rfl, hat, hb1⟩
  have hlt := hat.lt
  have hs1 : B ≤ w1.heap.size := Nat.le_trans hBw hb1.size
  obtain ⟨hBb, v, hbk, hown, hne⟩ := hat
  have k0 : w1.cell? ⟨b, 1, none⟩ = some v := Lib.cell_of_heap hbk 1
  have HN : Hid (v.ownBlock ≠ some b) := hne
  have HK : Hid (w1.heap[b]? = some (.cells #[.pointer (some ⟨b, 0, none⟩), v] 107 (0, 0))) := hbk
  have hownA : (w1.alloc (.cells #[.int .u8 c] 5)).ownsRow B 5 1 v bs.length bs := hown.alloc _
  clear hne hbk hown
  go_wp2_with (at_builtin; refine wpList_append_own _ rfl (.tmp 11) (.tmp 13) 41 rfl B 5 i0 (.int .u8 0) 1 1 Tryz.underlying41 hi hz0 hz1 hz2 rfl (by decide) _ bs.length bs rfl hownA ⟨w1.heap.size, 0, none⟩ 1 1 [.int .u8 c] rfl rfl ?q1 ?q2 ?q3 ?q4 ?q5 ?_)
  case q1 => exact cell_one_new _ _ _
  case q2 => intro u hu; simp at hu; subst hu; rfl
  case q3 => unfold maxLen; omega
  case q4 => omega
  case q5 => simp; omega
  intro v' w2 hown' hgr _
  have hb2 : w2.heap[b]? = some (.cells #[.pointer (some ⟨b, 0, none⟩), v] 107 (0, 0)) := by
    rw [hgr.block b (by simp; omega) (fun e => HN.out e.symm), Below.heap_alloc _ _ _ hlt]
    exact HK.out
  have hB2 : Below B w w2 := grown_below (hb1.alloc hs1 _) (by simp; omega) hownA hgr
  have k1 : w2.cell? ⟨b, 1, none⟩ = some v := Lib.cell_of_heap hb2 1
  have f1 : w2.frozen? ⟨b, 1, none⟩ = false := Lib.frozen_of_heap hb2 1
  obtain ⟨ao, n', cp, hv⟩ : ∃ ao n' cp, v' = .slice ao n' cp := by
    rcases hown'.2 with ⟨hv, _⟩ | ⟨g, cap, cur, hv, _⟩
    · exact ⟨_, _, _, hv⟩
    · exact ⟨_, _, _, hv⟩
  subst hv
  have HR : Hid (Lib.BuilderAt 107 5 B b (.pointer (some ⟨b, 0, none⟩)) (bs ++ [.int .u8 c]) (w2.setCell ⟨b, 1, none⟩ (.slice ao n' cp))) := Lib.BuilderAt.put hBb hb2 (by simpa using hown') (by decide)
  have hB3 := hB2.setCell (p := ⟨b, 1, none⟩) hBb (.slice ao n' cp)
  clear hown' hgr hownA hb2 hB2 hb1 k0 HB HN HK
  go_wp2
  go_ret
  exact ⟨rfl, .inr HR.out, hB3⟩

end Go.Proofs.YtepkdodicglilaaGreatDoor
namespace Go.Proofs.YtepkdodicglilaaGreatDoor
open Go.RowKit

theorem xor_high (a : Nat) (h : a < 2 ^ 64) : a ^^^ 2 ^ 63 = if a < 2 ^ 63 then a + 2 ^ 63 else a - 2 ^ 63 := by
  split
  · rename_i hl
    rw [Nat.xor_comm, Nat.add_comm]
    apply Nat.eq_of_testBit_eq
    intro i
    rw [Nat.testBit_xor, Nat.testBit_two_pow]
    by_cases e : i = 63
    · subst e
      rw [Nat.testBit_two_pow_add_eq, Nat.testBit_lt_two_pow hl]; rfl
    · rw [decide_eq_false (by omega), Bool.false_xor]
      rcases Nat.lt_or_ge i 63 with hi | hi
      · rw [Nat.testBit_two_pow_add_gt (by omega)]
      · rw [Nat.testBit_lt_two_pow (Nat.lt_of_lt_of_le hl (Nat.pow_le_pow_right (by omega) (by omega))), Nat.testBit_lt_two_pow (Nat.lt_of_lt_of_le (by omega : 2 ^ 63 + a < 2 ^ 64) (Nat.pow_le_pow_right (by omega) (by omega)))]
  · rename_i hl
    obtain ⟨c, rfl⟩ : ∃ c, a = 2 ^ 63 + c := ⟨a - 2 ^ 63, by omega⟩
    have hc : c < 2 ^ 63 := by omega
    rw [Nat.add_sub_cancel_left]
    apply Nat.eq_of_testBit_eq
    intro i
    rw [Nat.testBit_xor, Nat.testBit_two_pow]
    by_cases e : i = 63
    · subst e
      rw [Nat.testBit_two_pow_add_eq, Nat.testBit_lt_two_pow hc]; rfl
    · rw [decide_eq_false (by omega), Bool.xor_false]
      rcases Nat.lt_or_ge i 63 with hi | hi
      · rw [Nat.testBit_two_pow_add_gt (by omega)]
      · rw [Nat.testBit_lt_two_pow (Nat.lt_of_lt_of_le h (Nat.pow_le_pow_right (by omega) (by omega))), Nat.testBit_lt_two_pow (Nat.lt_of_lt_of_le hc (Nat.pow_le_pow_right (by omega) (by omega)))]

/-- The word whose bytes are written. -/
def uX (n : Int) : Int := bits .xor .u64 (IntKind.u64.wrap n) 9223372036854775808
theorem uX_eq (n : Int) (h1 : -9223372036854775808 ≤ n) (h2 : n ≤ 9223372036854775807) : uX n = n + 9223372036854775808 := by
  unfold uX
  have hw : IntKind.u64.wrap n = n % 18446744073709551616 := by simp [IntKind.wrap, IntKind.signed, IntKind.bits]
  rw [hw]
  have h0 : 0 ≤ n % 18446744073709551616 := by omega
  have h3 : n % 18446744073709551616 < 18446744073709551616 := by omega
  rw [u64_xor _ _ h0 h3 (by omega) (by omega)]
  have h4 : (9223372036854775808 : Int).toNat = 2 ^ 63 := by decide
  rw [h4, xor_high _ (by have : (2 : Nat) ^ 64 = 18446744073709551616 := by decide
                         omega)]
  have h63 : (2 : Nat) ^ 63 = 9223372036854775808 := by decide
  rw [h63]
  split <;> omega
end Go.Proofs.YtepkdodicglilaaGreatDoor
namespace Go.Proofs.YtepkdodicglilaaGreatDoor
open Go.RowKit

/-- The eight bytes of an int, as impl writes them. -/
def encI (n : Int) : List Value := [.int .u8 (uX n / 72057594037927936 % 256), .int .u8 (uX n / 281474976710656 % 256), .int .u8 (uX n / 1099511627776 % 256), .int .u8 (uX n / 4294967296 % 256), .int .u8 (uX n / 16777216 % 256), .int .u8 (uX n / 65536 % 256), .int .u8 (uX n / 256 % 256), .int .u8 (uX n % 256)]
theorem encI_length (n : Int) : (encI n).length = 8 := rfl

set_option maxRecDepth 100000 in
set_option maxHeartbeats 4000000 in
theorem writeInt_any (B b : Nat) (bs : List Value) (n : Int) (w : World) (h : Bld B b bs w) (hlen : bs.length ≤ 50000) (hBw : B ≤ w.heap.size) :
    Calls Tryz.prog 87 #[.pointer (some ⟨b, 0, none⟩), .int .i64 n] w fun e w' => e = .returned (.tuple #[]) ∧ Bld B b (bs ++ encI n) w' ∧ Below B w w' := by
  have H0 : Hid (Bld B b bs w) := h
  have b0 : Below B w w := Below.refl _ _
  have hs0 := hBw
  clear h hBw
  go_enter Tryz.func87, Tryz.ntmps87
  go_wp2
  generalize hU : bits BinOp.xor IntKind.u64 (IntKind.u64.wrap n) 9223372036854775808 = U
  have HU : Hid (uX n = U) := hU
  clear hU
  refine wp_loop_rounds 9 ?_
  rw [rounds_succ]
  go_wp2_with fail
  refine (writeByte_any B b _ _ _ H0.out (by first | omega | (simp; omega)) hs0).mono ?_
  rintro e x1 ⟨rfl, g1, d1⟩
  have H1 : Hid (Bld B b _ x1) := g1
  have b1 := b0.trans d1
  have hs1 : B ≤ x1.heap.size := Nat.le_trans hs0 d1.size
  clear g1 d1 b0 hs0
  go_wp2
  rw [rounds_succ]
  go_wp2_with fail
  refine (writeByte_any B b _ _ _ H1.out (by first | omega | (simp; omega)) hs1).mono ?_
  rintro e x2 ⟨rfl, g2, d2⟩
  have H2 : Hid (Bld B b _ x2) := g2
  have b2 := b1.trans d2
  have hs2 : B ≤ x2.heap.size := Nat.le_trans hs1 d2.size
  clear g2 d2 b1 hs1
  go_wp2
  rw [rounds_succ]
  go_wp2_with fail
  refine (writeByte_any B b _ _ _ H2.out (by first | omega | (simp; omega)) hs2).mono ?_
  rintro e x3 ⟨rfl, g3, d3⟩
  have H3 : Hid (Bld B b _ x3) := g3
  have b3 := b2.trans d3
  have hs3 : B ≤ x3.heap.size := Nat.le_trans hs2 d3.size
  clear g3 d3 b2 hs2
  go_wp2
  rw [rounds_succ]
  go_wp2_with fail
  refine (writeByte_any B b _ _ _ H3.out (by first | omega | (simp; omega)) hs3).mono ?_
  rintro e x4 ⟨rfl, g4, d4⟩
  have H4 : Hid (Bld B b _ x4) := g4
  have b4 := b3.trans d4
  have hs4 : B ≤ x4.heap.size := Nat.le_trans hs3 d4.size
  clear g4 d4 b3 hs3
  go_wp2
  rw [rounds_succ]
  go_wp2_with fail
  refine (writeByte_any B b _ _ _ H4.out (by first | omega | (simp; omega)) hs4).mono ?_
  rintro e x5 ⟨rfl, g5, d5⟩
  have H5 : Hid (Bld B b _ x5) := g5
  have b5 := b4.trans d5
  have hs5 : B ≤ x5.heap.size := Nat.le_trans hs4 d5.size
  clear g5 d5 b4 hs4
  go_wp2
  rw [rounds_succ]
  go_wp2_with fail
  refine (writeByte_any B b _ _ _ H5.out (by first | omega | (simp; omega)) hs5).mono ?_
  rintro e x6 ⟨rfl, g6, d6⟩
  have H6 : Hid (Bld B b _ x6) := g6
  have b6 := b5.trans d6
  have hs6 : B ≤ x6.heap.size := Nat.le_trans hs5 d6.size
  clear g6 d6 b5 hs5
  go_wp2
  rw [rounds_succ]
  go_wp2_with fail
  refine (writeByte_any B b _ _ _ H6.out (by first | omega | (simp; omega)) hs6).mono ?_
  rintro e x7 ⟨rfl, g7, d7⟩
  have H7 : Hid (Bld B b _ x7) := g7
  have b7 := b6.trans d7
  have hs7 : B ≤ x7.heap.size := Nat.le_trans hs6 d7.size
  clear g7 d7 b6 hs6
  go_wp2
  rw [rounds_succ]
  go_wp2_with fail
  refine (writeByte_any B b _ _ _ H7.out (by first | omega | (simp; omega)) hs7).mono ?_
  rintro e x8 ⟨rfl, g8, d8⟩
  have H8 : Hid (Bld B b _ x8) := g8
  have b8 := b7.trans d8
  have hs8 : B ≤ x8.heap.size := Nat.le_trans hs7 d8.size
  clear g8 d8 b7 hs7
  go_wp2
  rw [rounds_succ]
  go_wp2
  go_end0
  refine ⟨rfl, ?_, b8⟩
  have hE := H8.out
  simp only [List.append_assoc, List.cons_append, List.nil_append] at hE
  rw [encI, HU.out]
  exact hE

/-- A bool's byte. -/
def bI (x : Bool) : Int := if x then 1 else 0
theorem boolByte_any (x : Bool) (w : World) : Calls Tryz.prog 86 #[.bool x] w fun e w' => e = .returned (.int .u8 (bI x)) ∧ w' = w := by
  cases x <;> (go_enter Tryz.func86, Tryz.ntmps86; go_wp2; go_ret; exact ⟨rfl, rfl⟩)

/-- What impl writes of a right value into a row's bytes. -/
def encV (v : V3) : List Value :=
  .int .u8 v.1 :: (if v.1 = 1 then [.int .u8 v.2.1] else if v.1 = 2 then encI v.2.1 else if v.1 = 3 ∨ v.1 = 4 then .int .u8 v.2.2.size :: Lib.strCells v.2.2 else [])

theorem kind_of {k n : Int} {t : ByteArray} (h : okV k n t = true) : (k = 0 ∧ n = 0 ∧ t.size = 0) ∨ (k = 1 ∧ (n = 0 ∨ n = 1)) ∨ k = 2 ∨ ((k = 3 ∨ k = 4) ∧ t.size ≤ 60) := by
  unfold okV at h
  split at h
  · rename_i hk
    simp [ByteArray.toList_eq] at h
    exact .inl ⟨hk, h.1, by rw [← ByteArray.size_data, h.2]; rfl⟩
  split at h
  · rename_i hk
    simp [inB01] at h
    exact .inr (.inl ⟨hk, h.1⟩)
  split at h
  · exact .inr (.inr (.inl ‹_›))
  split at h
  · rename_i hk
    simp at h
    exact .inr (.inr (.inr ⟨hk, by omega⟩))
  · cases h

end Go.Proofs.YtepkdodicglilaaGreatDoor
namespace Go.Proofs.YtepkdodicglilaaGreatDoor
open Go.RowKit

theorem bld_below {B b : Nat} {bs : List Value} {w w' : World} (h : Bld B b bs w) (hb : Below w.heap.size w w') : Bld B b bs w' := by
  have key : ∀ p, Lib.BuilderAt 107 5 B b p bs w → Lib.BuilderAt 107 5 B b p bs w' := fun p h => by
    have hlt := h.lt
    obtain ⟨hB, v, hbk, hown, hne⟩ := h
    exact ⟨hB, v, (hb.block b hlt).trans hbk, ownV_below hown hb, hne⟩
  rcases h with h | h
  · exact .inl (key _ h)
  · exact .inr (key _ h)

theorem method_bool (x : Bool) (w : World) : Sem.run Tryz.prog (method 327 140 (.bool x) "loop.example/g00208/impl.kind") w = .ok (158, .bool x) w := by kernel_rfl
theorem method_int (n : Int) (w : World) : Sem.run Tryz.prog (method 327 142 (.int .i64 n) "loop.example/g00208/impl.kind") w = .ok (159, .int .i64 n) w := by kernel_rfl
theorem method_text (t : ByteArray) (w : World) : Sem.run Tryz.prog (method 327 144 (.string t) "loop.example/g00208/impl.kind") w = .ok (160, .string t) w := by kernel_rfl
theorem method_bytes (t : ByteArray) (w : World) : Sem.run Tryz.prog (method 327 145 (.string t) "loop.example/g00208/impl.kind") w = .ok (161, .string t) w := by kernel_rfl
theorem method_null (w : World) : Sem.run Tryz.prog (method 327 167 (.agg #[]) "loop.example/g00208/impl.kind") w = .ok (173, .agg #[]) w := by kernel_rfl

theorem ta_bool_102 (x : Bool) (w : World) : Sem.run Tryz.prog (Instr.typeAssert (.iface 140 (.bool x)) 109 140 true) w = .ok (.tuple #[.bool x, .bool true]) w := by kernel_rfl
theorem ta_int_102 (n : Int) (w : World) : Sem.run Tryz.prog (Instr.typeAssert (.iface 142 (.int .i64 n)) 109 140 true) w = .ok (.tuple #[.bool false, .bool false]) w := by kernel_rfl
theorem ta_int_104 (n : Int) (w : World) : Sem.run Tryz.prog (Instr.typeAssert (.iface 142 (.int .i64 n)) 109 142 true) w = .ok (.tuple #[.int .i64 n, .bool true]) w := by kernel_rfl
theorem ta_text_102 (t : ByteArray) (w : World) : Sem.run Tryz.prog (Instr.typeAssert (.iface 144 (.string t)) 109 140 true) w = .ok (.tuple #[.bool false, .bool false]) w := by kernel_rfl
theorem ta_text_104 (t : ByteArray) (w : World) : Sem.run Tryz.prog (Instr.typeAssert (.iface 144 (.string t)) 109 142 true) w = .ok (.tuple #[.int .i64 0, .bool false]) w := by kernel_rfl
theorem ta_text_106 (t : ByteArray) (w : World) : Sem.run Tryz.prog (Instr.typeAssert (.iface 144 (.string t)) 109 144 true) w = .ok (.tuple #[.string t, .bool true]) w := by kernel_rfl
theorem ta_bytes_102 (t : ByteArray) (w : World) : Sem.run Tryz.prog (Instr.typeAssert (.iface 145 (.string t)) 109 140 true) w = .ok (.tuple #[.bool false, .bool false]) w := by kernel_rfl
theorem ta_bytes_104 (t : ByteArray) (w : World) : Sem.run Tryz.prog (Instr.typeAssert (.iface 145 (.string t)) 109 142 true) w = .ok (.tuple #[.int .i64 0, .bool false]) w := by kernel_rfl
theorem ta_bytes_106 (t : ByteArray) (w : World) : Sem.run Tryz.prog (Instr.typeAssert (.iface 145 (.string t)) 109 144 true) w = .ok (.tuple #[.string ⟨#[]⟩, .bool false]) w := by kernel_rfl
theorem ta_bytes_107 (t : ByteArray) (w : World) : Sem.run Tryz.prog (Instr.typeAssert (.iface 145 (.string t)) 109 145 true) w = .ok (.tuple #[.string t, .bool true]) w := by kernel_rfl
theorem ta_null_102  (w : World) : Sem.run Tryz.prog (Instr.typeAssert (.iface 167 (.agg #[])) 109 140 true) w = .ok (.tuple #[.bool false, .bool false]) w := by kernel_rfl
theorem ta_null_104  (w : World) : Sem.run Tryz.prog (Instr.typeAssert (.iface 167 (.agg #[])) 109 142 true) w = .ok (.tuple #[.int .i64 0, .bool false]) w := by kernel_rfl
theorem ta_null_106  (w : World) : Sem.run Tryz.prog (Instr.typeAssert (.iface 167 (.agg #[])) 109 144 true) w = .ok (.tuple #[.string ⟨#[]⟩, .bool false]) w := by kernel_rfl
theorem ta_null_107  (w : World) : Sem.run Tryz.prog (Instr.typeAssert (.iface 167 (.agg #[])) 109 145 true) w = .ok (.tuple #[.string ⟨#[]⟩, .bool false]) w := by kernel_rfl

theorem kind_bool (x : Bool) (w : World) : Calls Tryz.prog 158 #[.bool x] w fun e w' => e = .returned (.int .u8 1) ∧ w' = w := by
  go_enter Tryz.func158, Tryz.ntmps158
  go_wp2
  go_ret
  exact ⟨rfl, rfl⟩
theorem kind_int (n : Int) (w : World) : Calls Tryz.prog 159 #[.int .i64 n] w fun e w' => e = .returned (.int .u8 2) ∧ w' = w := by
  go_enter Tryz.func159, Tryz.ntmps159
  go_wp2
  go_ret
  exact ⟨rfl, rfl⟩
theorem kind_text (t : ByteArray) (w : World) : Calls Tryz.prog 160 #[.string t] w fun e w' => e = .returned (.int .u8 3) ∧ w' = w := by
  go_enter Tryz.func160, Tryz.ntmps160
  go_wp2
  go_ret
  exact ⟨rfl, rfl⟩
theorem kind_bytes (t : ByteArray) (w : World) : Calls Tryz.prog 161 #[.string t] w fun e w' => e = .returned (.int .u8 4) ∧ w' = w := by
  go_enter Tryz.func161, Tryz.ntmps161
  go_wp2
  go_ret
  exact ⟨rfl, rfl⟩
theorem kind_null (w : World) : Calls Tryz.prog 173 #[.agg #[]] w fun e w' => e = .returned (.int .u8 0) ∧ Below w.heap.size w w' := by
  go_enter Tryz.func173, Tryz.ntmps173
  go_wp2
  go_ret
  exact ⟨rfl, (Below.refl _ _).alloc (Nat.le_refl _) _⟩

end Go.Proofs.YtepkdodicglilaaGreatDoor
