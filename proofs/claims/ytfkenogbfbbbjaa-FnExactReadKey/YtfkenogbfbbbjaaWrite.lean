/- What impl writes of a value: its kind, and what its kind holds. -/
import Derived.Test.YtfkenogbfbbbjaaBuilder
import Derived.Test.YtfkenogbfbbbjaaXor
namespace Go.Proofs.Ytfkenogbfbbbjaa
open Go.RowKit

/-- The eight bytes of an int, as impl writes them. -/
def encI (n : Int) : List Value := [.int .u8 (uX n / 72057594037927936 % 256), .int .u8 (uX n / 281474976710656 % 256), .int .u8 (uX n / 1099511627776 % 256), .int .u8 (uX n / 4294967296 % 256), .int .u8 (uX n / 16777216 % 256), .int .u8 (uX n / 65536 % 256), .int .u8 (uX n / 256 % 256), .int .u8 (uX n % 256)]
theorem encI_length (n : Int) : (encI n).length = 8 := rfl

set_option maxRecDepth 100000 in
set_option maxHeartbeats 4000000 in
theorem writeInt_any (B b : Nat) (bs : List Value) (n : Int) (w : World) (h : Bld B b bs w) (hlen : bs.length ≤ 50000) (hBw : B ≤ w.heap.size) :
    Calls Try.prog 86 #[.pointer (some ⟨b, 0, none⟩), .int .i64 n] w fun e w' => e = .returned (.tuple #[]) ∧ Bld B b (bs ++ encI n) w' ∧ Below B w w' := by
  have H0 : Hid (Bld B b bs w) := h
  have b0 : Below B w w := Below.refl _ _
  have hs0 := hBw
  clear h hBw
  go_enter Try.func86, Try.ntmps86
  go_wp2
  generalize hU : bits BinOp.xor IntKind.u64 (IntKind.u64.wrap n) 9223372036854775808 = U
  have HU : Hid (uX n = U) := hU
  clear hU
  refine wp_loop_rounds 9 ?_
  rw [rounds_succ]
  go_wp2_with fail
  refine (writeByte_any B b _ _ _ H0.out (by first | omega | (simp; omega)) hs0).mono ?_
  rintro e x1 ⟨rfl, g1, d1⟩
  have H1 : Hid (Bld B b _ x1) := g1
  have b1 := b0.trans d1
  have hs1 : B ≤ x1.heap.size := Nat.le_trans hs0 d1.size
  clear g1 d1 b0 hs0
  go_wp2
  rw [rounds_succ]
  go_wp2_with fail
  refine (writeByte_any B b _ _ _ H1.out (by first | omega | (simp; omega)) hs1).mono ?_
  rintro e x2 ⟨rfl, g2, d2⟩
  have H2 : Hid (Bld B b _ x2) := g2
  have b2 := b1.trans d2
  have hs2 : B ≤ x2.heap.size := Nat.le_trans hs1 d2.size
  clear g2 d2 b1 hs1
  go_wp2
  rw [rounds_succ]
  go_wp2_with fail
  refine (writeByte_any B b _ _ _ H2.out (by first | omega | (simp; omega)) hs2).mono ?_
  rintro e x3 ⟨rfl, g3, d3⟩
  have H3 : Hid (Bld B b _ x3) := g3
  have b3 := b2.trans d3
  have hs3 : B ≤ x3.heap.size := Nat.le_trans hs2 d3.size
  clear g3 d3 b2 hs2
  go_wp2
  rw [rounds_succ]
  go_wp2_with fail
  refine (writeByte_any B b _ _ _ H3.out (by first | omega | (simp; omega)) hs3).mono ?_
  rintro e x4 ⟨rfl, g4, d4⟩
  have H4 : Hid (Bld B b _ x4) := g4
  have b4 := b3.trans d4
  have hs4 : B ≤ x4.heap.size := Nat.le_trans hs3 d4.size
  clear g4 d4 b3 hs3
  go_wp2
  rw [rounds_succ]
  go_wp2_with fail
  refine (writeByte_any B b _ _ _ H4.out (by first | omega | (simp; omega)) hs4).mono ?_
  rintro e x5 ⟨rfl, g5, d5⟩
  have H5 : Hid (Bld B b _ x5) := g5
  have b5 := b4.trans d5
  have hs5 : B ≤ x5.heap.size := Nat.le_trans hs4 d5.size
  clear g5 d5 b4 hs4
  go_wp2
  rw [rounds_succ]
  go_wp2_with fail
  refine (writeByte_any B b _ _ _ H5.out (by first | omega | (simp; omega)) hs5).mono ?_
  rintro e x6 ⟨rfl, g6, d6⟩
  have H6 : Hid (Bld B b _ x6) := g6
  have b6 := b5.trans d6
  have hs6 : B ≤ x6.heap.size := Nat.le_trans hs5 d6.size
  clear g6 d6 b5 hs5
  go_wp2
  rw [rounds_succ]
  go_wp2_with fail
  refine (writeByte_any B b _ _ _ H6.out (by first | omega | (simp; omega)) hs6).mono ?_
  rintro e x7 ⟨rfl, g7, d7⟩
  have H7 : Hid (Bld B b _ x7) := g7
  have b7 := b6.trans d7
  have hs7 : B ≤ x7.heap.size := Nat.le_trans hs6 d7.size
  clear g7 d7 b6 hs6
  go_wp2
  rw [rounds_succ]
  go_wp2_with fail
  refine (writeByte_any B b _ _ _ H7.out (by first | omega | (simp; omega)) hs7).mono ?_
  rintro e x8 ⟨rfl, g8, d8⟩
  have H8 : Hid (Bld B b _ x8) := g8
  have b8 := b7.trans d8
  have hs8 : B ≤ x8.heap.size := Nat.le_trans hs7 d8.size
  clear g8 d8 b7 hs7
  go_wp2
  rw [rounds_succ]
  go_wp2
  go_end0
  refine ⟨rfl, ?_, b8⟩
  have hE := H8.out
  simp only [List.append_assoc, List.cons_append, List.nil_append] at hE
  rw [encI, HU.out]
  exact hE

/-- A bool's byte. -/
def bI (x : Bool) : Int := if x then 1 else 0
theorem boolByte_any (x : Bool) (w : World) : Calls Try.prog 85 #[.bool x] w fun e w' => e = .returned (.int .u8 (bI x)) ∧ w' = w := by
  cases x <;> (go_enter Try.func85, Try.ntmps85; go_wp2; go_ret; exact ⟨rfl, rfl⟩)

set_option maxRecDepth 100000 in
theorem writeRowText_any (B b : Nat) (bs : List Value) (t : ByteArray) (w : World) (h : Bld B b bs w) (hlen : bs.length ≤ 50000) (ht : t.size ≤ 60) (hBw : B ≤ w.heap.size) :
    Calls Try.prog 73 #[.pointer (some ⟨b, 0, none⟩), .string t] w fun e w' => e = .returned (.tuple #[]) ∧ Bld B b (bs ++ (.int .u8 t.size :: Lib.strCells t)) w' ∧ Below B w w' := by
  have H0 : Hid (Bld B b bs w) := h
  clear h
  go_enter Try.func73, Try.ntmps73
  go_wp2_with fail
  refine (writeByte_any B b bs _ w H0.out (by omega) hBw).mono ?_
  rintro e x1 ⟨rfl, g1, d1⟩
  have H1 : Hid (Bld B b _ x1) := g1
  clear g1
  go_wp2_with fail
  refine (writeString_any B b _ t x1 H1.out (by simp; omega) (by omega) (Nat.le_trans hBw d1.size)).mono ?_
  rintro e x2 ⟨rfl, g2, d2⟩
  have H2 : Hid (Bld B b _ x2) := g2
  have b2 := d1.trans d2
  clear g2 d1 d2
  go_wp2
  go_end0
  refine ⟨rfl, ?_, b2⟩
  have hE := H2.out
  rwa [List.append_assoc] at hE

/-- What impl writes of a right value into a row's bytes. -/
def encV (v : V3) : List Value :=
  .int .u8 v.1 :: (if v.1 = 1 then [.int .u8 v.2.1] else if v.1 = 2 then encI v.2.1 else if v.1 = 3 ∨ v.1 = 4 then .int .u8 v.2.2.size :: Lib.strCells v.2.2 else [])

theorem kind_of {k n : Int} {t : ByteArray} (h : okV k n t = true) : (k = 0 ∧ n = 0 ∧ t.size = 0) ∨ (k = 1 ∧ (n = 0 ∨ n = 1)) ∨ k = 2 ∨ ((k = 3 ∨ k = 4) ∧ t.size ≤ 60) := by
  unfold okV at h
  split at h
  · rename_i hk
    simp [ByteArray.toList_eq] at h
    exact .inl ⟨hk, h.1, by rw [← ByteArray.size_data, h.2]; rfl⟩
  split at h
  · rename_i hk
    simp [inB01] at h
    exact .inr (.inl ⟨hk, h.1⟩)
  split at h
  · exact .inr (.inr (.inl ‹_›))
  split at h
  · rename_i hk
    simp at h
    exact .inr (.inr (.inr ⟨hk, by omega⟩))
  · cases h

end Go.Proofs.Ytfkenogbfbbbjaa
