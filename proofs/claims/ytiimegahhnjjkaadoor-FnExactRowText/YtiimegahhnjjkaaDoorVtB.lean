/- What the methods of a strings.Builder that a row's text is written with answer and leave (stage 1). -/
import Derived.Test.YtiimegahhnjjkaaDoorVlC
import Derived.Test.YtiimegahhnjjkaaDoorVtA
import Derived.Lib.Builder
import Derived.Lib.OthersKept
import Derived.Lib.AppendStr
import Derived.Laws.Externs
namespace Go.Proofs.YtiimegahhnjjkaaDoor
open Go.RowKit

/-- A text out of its bytes. -/
def tx (l : List UInt8) : ByteArray := ⟨l.toArray⟩
/-- The bytes of a text. -/
def bt (s : ByteArray) : List UInt8 := s.data.toList
theorem bt_tx (l : List UInt8) : bt (tx l) = l := rfl
theorem tx_bt (s : ByteArray) : tx (bt s) = s := by cases s; rfl
theorem bt_size (s : ByteArray) : (bt s).length = s.size := by unfold bt; rw [Array.length_toList]; rfl
theorem tx_size (l : List UInt8) : (tx l).size = l.length := by show l.toArray.size = _; simp
/-- Texts put together. -/
theorem add_tx (a b : List UInt8) (h : a.length + b.length ≤ 1000000) (w : World) : (Op.stringOp .add (tx a) (tx b)).run Tryd.prog w = .ok (.string (tx (a ++ b))) w := by
  rw [run_string_add_sum w _ _ (by rw [tx_size, tx_size]; omega)]
  unfold tx
  rw [ByteArray.mk_append_mk]
/-- The first k texts, a comma and a blank between them. -/
def joinL (f : Nat → List UInt8) : Nat → List UInt8
  | 0 => []
  | k + 1 => joinL f k ++ (if 0 < k then [44, 32] else []) ++ f k
theorem joinL_len (f : Nat → List UInt8) (m : Nat) : ∀ k, (∀ j, j < k → (f j).length ≤ m) → (joinL f k).length ≤ k * (m + 2)
  | 0, _ => by simp [joinL]
  | k + 1, h => by
    have h1 := joinL_len f m k (fun j hj => h j (by omega))
    have h2 := h k (by omega)
    rw [joinL, List.length_append, List.length_append, Nat.add_mul]
    have : (if 0 < k then [(44 : UInt8), 32] else []).length ≤ 2 := by split <;> simp
    omega
theorem addE (a b : ByteArray) (h : a.size + b.size ≤ 1000000) : ∃ s : ByteArray, bt s = bt a ++ bt b ∧ ∀ w, (Op.stringOp .add a b).run Tryd.prog w = .ok (.string s) w :=
  ⟨a ++ b, by unfold bt; rw [ByteArray.data_append, Array.toList_append], fun w => run_string_add_sum w _ _ (by omega)⟩
theorem eq_tx {s : ByteArray} {l : List UInt8} (h : bt s = l) : s = tx l := by rw [← h, tx_bt]
theorem size_bt {s : ByteArray} {l : List UInt8} (h : bt s = l) : s.size = l.length := by rw [← bt_size, h]
theorem info5 : (Tryd.prog.info? 5).map (fun i => (i.zero, i.size, i.bytes)) = some (some (.int .u8 0), 1, 1) := by kernel_rfl
theorem ownsRow_kind {w : World} {B : Nat} {e : TypeId} {v : Value} {n : Nat} {xs : List Value} (h : w.ownsRow B e 1 v n xs) : ∀ g, v.ownBlock = some g → ∃ c fz, w.heap[g]? = some (.cells c e fz) := by
  intro g hg
  rcases h.2 with ⟨rfl, _⟩ | ⟨g', cap, cur, rfl, _, hgg, _⟩
  · cases hg
  · cases hg; exact ⟨_, _, hgg⟩
theorem size51 : (Tryd.prog.info? 51).map (·.size) = some 2 := by kernel_rfl

set_option maxRecDepth 100000 in
theorem copyCheck_used (b : Nat) (w : World) (h0 : w.cell? ⟨b, 0, none⟩ = some (.pointer (some ⟨b, 0, none⟩))) :
    Calls Tryd.prog 36 #[.pointer (some ⟨b, 0, none⟩)] w fun e w' => e = .returned (.tuple #[]) ∧ w' = w := by
  obtain ⟨j, hj, _⟩ := Option.map_eq_some_iff.1 size51
  have hne := Lib.run_neq_ptr_same (P := Tryd.prog) (w := w) ⟨b, 0, none⟩ Tryd.underlying48 hj
  go_enter Tryd.func36, Tryd.ntmps36
  go_wp2
  go_end0
  exact ⟨rfl, rfl⟩
theorem noEscape_run (x : Value) (w : World) : Sem.run Tryd.prog (callFunc 43 #[x]) w = .ok (.value x) w := by
  rw [run_callFunc_extern Tryd.func43 (by kernel_rfl) (by kernel_rfl) (by kernel_rfl) (e := Extern.AbiNoEscape.same) (by kernel_rfl), Lib.run_noEscape]
  rfl

set_option maxRecDepth 100000 in
theorem copyCheck_fresh (b : Nat) (w : World) (h0 : w.cell? ⟨b, 0, none⟩ = some (.pointer none)) (hsh : w.shape? b = some (51, 2)) (hfz : w.frozen? ⟨b, 0, none⟩ = false) :
    Calls Tryd.prog 36 #[.pointer (some ⟨b, 0, none⟩)] w fun e w' => e = .returned (.tuple #[]) ∧ w' = w.setCell ⟨b, 0, none⟩ (.pointer (some ⟨b, 0, none⟩)) := by
  obtain ⟨j, hj, hjs⟩ := Option.map_eq_some_iff.1 size51
  have hto := Lib.run_to_unsafe (P := Tryd.prog) (w := w) ⟨b, 0, none⟩ Tryd.underlying48 Tryd.underlying80 hj (by rw [hjs]; decide) hsh (Nat.zero_lt_succ 1)
  have hfrom := Lib.run_from_unsafe (P := Tryd.prog) (w := w) ⟨b, 0, none⟩ Tryd.underlying80 Tryd.underlying48 hj hsh (by kernel_rfl)
  have hcf : Sem.run Tryd.prog (callFunc 43 #[.pointer (some ⟨b, 0, none⟩)]) w = .ok (.value (.pointer (some ⟨b, 0, none⟩))) w := noEscape_run _ _
  clear hsh hj hjs
  go_enter Tryd.func36, Tryd.ntmps36
  go_wp2
  go_end0
  exact ⟨rfl, rfl⟩

/-- A builder in block b that has written the bytes bs; all that it made lies from B on. -/
abbrev Bld (B b : Nat) (bs : List Value) (w : World) : Prop := Lib.IsBuilder 51 5 B b bs w

theorem copyCheck_any (B b : Nat) (bs : List Value) (w : World) (h : Bld B b bs w) :
    Calls Tryd.prog 36 #[.pointer (some ⟨b, 0, none⟩)] w fun e w' => e = .returned (.tuple #[]) ∧ Lib.BuilderAt 51 5 B b (.pointer (some ⟨b, 0, none⟩)) bs w' ∧ Below B w w' ∧ Lib.OthersKept 5 (some b) w w' := by
  rcases h with h | h
  · refine (copyCheck_fresh b w h.cell0 h.shape h.frozen0).mono ?_
    rintro e w' ⟨rfl, rfl⟩
    exact ⟨rfl, h.used _, (Below.refl B w).setCell (p := ⟨b, 0, none⟩) h.1 _, (Lib.OthersKept.refl _ _ _).setCell ⟨b, 0, none⟩ rfl _⟩
  · refine (copyCheck_used b w h.cell0).mono ?_
    rintro e w' ⟨rfl, rfl⟩
    exact ⟨rfl, h, Below.refl B _, Lib.OthersKept.refl _ _ _⟩

set_option maxRecDepth 100000 in
set_option maxHeartbeats 2000000 in
theorem writeByte_any (B b : Nat) (bs : List Value) (c : Int) (w : World) (h : Bld B b bs w) (hlen : bs.length ≤ 100000) (hBw : B ≤ w.heap.size) :
    Calls Tryd.prog 31 #[.pointer (some ⟨b, 0, none⟩), .int .u8 c] w fun e w' => e = .returned .nilIface ∧ Bld B b (bs ++ [.int .u8 c]) w' ∧ Below B w w' := by
  obtain ⟨i0, hi, hz0, hz1, hz2⟩ := info_parts info5
  have HB : Hid (Bld B b bs w) := h
  clear h
  go_enter Tryd.func31, Tryd.ntmps31
  go_wp2_with fail
  refine (copyCheck_any B b bs w HB.out).mono ?_
  rintro e w1 ⟨rfl, hat, hb1, _⟩
  have hlt := hat.lt
  have hs1 : B ≤ w1.heap.size := Nat.le_trans hBw hb1.size
  obtain ⟨hBb, v, hbk, hown, hne⟩ := hat
  have k0 : w1.cell? ⟨b, 1, none⟩ = some v := Lib.cell_of_heap hbk 1
  have HN : Hid (v.ownBlock ≠ some b) := hne
  have HK : Hid (w1.heap[b]? = some (.cells #[.pointer (some ⟨b, 0, none⟩), v] 51 (0, 0))) := hbk
  have hownA : (w1.alloc (.cells #[.int .u8 c] 5)).ownsRow B 5 1 v bs.length bs := hown.alloc _
  clear hne hbk hown
  go_wp2_with (at_builtin; refine wpList_append_own _ rfl (.tmp 11) (.tmp 13) 49 rfl B 5 i0 (.int .u8 0) 1 1 Tryd.underlying49 hi hz0 hz1 hz2 rfl (by decide) _ bs.length bs rfl hownA ⟨w1.heap.size, 0, none⟩ 1 1 [.int .u8 c] rfl rfl ?q1 ?q2 ?q3 ?q4 ?q5 ?_)
  case q1 => exact cell_one_new _ _ _
  case q2 => intro u hu; simp at hu; subst hu; rfl
  case q3 => unfold maxLen; omega
  case q4 => omega
  case q5 => simp; omega
  intro v' w2 hown' hgr _
  have hb2 : w2.heap[b]? = some (.cells #[.pointer (some ⟨b, 0, none⟩), v] 51 (0, 0)) := by
    rw [hgr.block b (by simp; omega) (fun e => HN.out e.symm), Below.heap_alloc _ _ _ hlt]
    exact HK.out
  have hB2 : Below B w w2 := grown_below (hb1.alloc hs1 _) (by simp; omega) hownA hgr
  have k1 : w2.cell? ⟨b, 1, none⟩ = some v := Lib.cell_of_heap hb2 1
  have f1 : w2.frozen? ⟨b, 1, none⟩ = false := Lib.frozen_of_heap hb2 1
  obtain ⟨ao, n', cp, hv⟩ : ∃ ao n' cp, v' = .slice ao n' cp := by
    rcases hown'.2 with ⟨hv, _⟩ | ⟨g, cap, cur, hv, _⟩
    · exact ⟨_, _, _, hv⟩
    · exact ⟨_, _, _, hv⟩
  subst hv
  have HR : Hid (Lib.BuilderAt 51 5 B b (.pointer (some ⟨b, 0, none⟩)) (bs ++ [.int .u8 c]) (w2.setCell ⟨b, 1, none⟩ (.slice ao n' cp))) := Lib.BuilderAt.put hBb hb2 (by simpa using hown') (by decide)
  have hB3 := hB2.setCell (p := ⟨b, 1, none⟩) hBb (.slice ao n' cp)
  clear hown' hgr hownA hb2 hB2 hb1 k0 HB HN HK
  go_wp2
  go_ret
  exact ⟨rfl, .inr HR.out, hB3⟩

set_option maxRecDepth 100000 in
set_option maxHeartbeats 2000000 in
theorem writeString_any (B b : Nat) (bs : List Value) (s : ByteArray) (w : World) (h : Bld B b bs w) (hlen : bs.length ≤ 100000) (hs : s.size ≤ 100000) (hBw : B ≤ w.heap.size) :
    Calls Tryd.prog 37 #[.pointer (some ⟨b, 0, none⟩), .string s] w fun e w' => e = .returned (.tuple #[.int .i64 s.size, .nilIface]) ∧ Bld B b (bs ++ Lib.strCells s) w' ∧ Below B w w' ∧ Lib.OthersKept 5 (some b) w w' := by
  obtain ⟨i0, hi, hz0, hz1, hz2⟩ := info_parts info5
  have HB : Hid (Bld B b bs w) := h
  clear h
  go_enter Tryd.func37, Tryd.ntmps37
  go_wp2_with fail
  refine (copyCheck_any B b bs w HB.out).mono ?_
  rintro e w1 ⟨rfl, hat, hb1, ko⟩
  have hlt := hat.lt
  have hs1 : B ≤ w1.heap.size := Nat.le_trans hBw hb1.size
  obtain ⟨hBb, v, hbk, hown, hne⟩ := hat
  have k0 : w1.cell? ⟨b, 1, none⟩ = some v := Lib.cell_of_heap hbk 1
  have HN : Hid (v.ownBlock ≠ some b) := hne
  have HK : Hid (w1.heap[b]? = some (.cells #[.pointer (some ⟨b, 0, none⟩), v] 51 (0, 0))) := hbk
  clear hne hbk
  go_wp2_with (at_builtin; refine Lib.wpList_append_own_string _ rfl (.tmp 12) (.tmp 13) 49 9 rfl B 5 i0 Tryd.underlying49 Tryd.underlying9 hi hz0 hz1 hz2 _ _ _ rfl hown s rfl ?q3 ?q4 ?q5 ?_)
  case q3 => unfold maxLen; omega
  case q4 => omega
  case q5 => omega
  intro v' w2 hown' hgr _
  have hb2 : w2.heap[b]? = some (.cells #[.pointer (some ⟨b, 0, none⟩), v] 51 (0, 0)) := by
    rw [hgr.block b hlt (fun e => HN.out e.symm)]
    exact HK.out
  have hB2 : Below B w w2 := grown_below hb1 hs1 hown hgr
  have k1 : w2.cell? ⟨b, 1, none⟩ = some v := Lib.cell_of_heap hb2 1
  have f1 : w2.frozen? ⟨b, 1, none⟩ = false := Lib.frozen_of_heap hb2 1
  obtain ⟨ao, n', cp, hv⟩ : ∃ ao n' cp, v' = .slice ao n' cp := by
    rcases hown'.2 with ⟨hv, _⟩ | ⟨g, cap, cur, hv, _⟩
    · exact ⟨_, _, _, hv⟩
    · exact ⟨_, _, _, hv⟩
  subst hv
  have HR : Hid (Lib.BuilderAt 51 5 B b (.pointer (some ⟨b, 0, none⟩)) (bs ++ Lib.strCells s) (w2.setCell ⟨b, 1, none⟩ (.slice ao n' cp))) := Lib.BuilderAt.put hBb hb2 (by simpa [Lib.strCells_length] using hown') (by decide)
  have hB3 := hB2.setCell (p := ⟨b, 1, none⟩) hBb (.slice ao n' cp)
  have HO : Hid (Lib.OthersKept 5 (some b) w (w2.setCell ⟨b, 1, none⟩ (.slice ao n' cp))) := (ko.grown hgr (ownsRow_kind hown)).setCell ⟨b, 1, none⟩ rfl _
  clear ko hown' hgr hown hb2 hB2 hb1 k0 HB HN HK
  go_wp2
  go_ret2
  exact ⟨rfl, .inr HR.out, hB3, HO.out⟩
theorem ownb_below {B e n : Nat} {w w' : World} {v : Value} {xs : List Value} (h : w.ownsRow B e 1 v n xs) (hb : Below w.heap.size w w') : w'.ownsRow B e 1 v n xs := by
  obtain ⟨h1, h2⟩ := h
  refine ⟨h1, ?_⟩
  rcases h2 with h2 | ⟨g, cap, cur, e1, e2, e3, e4⟩
  · exact .inl h2
  · exact .inr ⟨g, cap, cur, e1, e2, (hb.block g (Array.getElem?_eq_some_iff.1 e3).1).trans e3, e4⟩
theorem bld_below {B b : Nat} {bs : List Value} {w w' : World} (h : Bld B b bs w) (hb : Below w.heap.size w w') : Bld B b bs w' := by
  have key : ∀ p, Lib.BuilderAt 51 5 B b p bs w → Lib.BuilderAt 51 5 B b p bs w' := fun p h => by
    have hlt := h.lt
    obtain ⟨hB, v, hbk, hown, hne⟩ := h
    exact ⟨hB, v, (hb.block b hlt).trans hbk, ownb_below hown hb, hne⟩
  rcases h with h | h
  · exact .inl (key _ h)
  · exact .inr (key _ h)
/-- A builder in block b that has written the bytes l. -/
def Bd (B b : Nat) (l : List UInt8) (w : World) : Prop := Bld B b (Lib.byteCells l) w
theorem Bd.below {B b : Nat} {l : List UInt8} {w w' : World} (h : Bd B b l w) (hb : Below w.heap.size w w') : Bd B b l w' := bld_below h hb
theorem Bd.lt {B b : Nat} {l : List UInt8} {w : World} (h : Bd B b l w) : b < w.heap.size := by rcases h with h | h <;> exact h.lt
theorem Bd.eq {B b : Nat} {l m : List UInt8} {w : World} (h : Bd B b l w) (e : l = m) : Bd B b m w := e ▸ h
theorem bd_string (B b : Nat) (l : List UInt8) (s : ByteArray) (w : World) (h : Bd B b l w) (hl : l.length ≤ 100000) (hs : s.size ≤ 100000) (hB : B ≤ w.heap.size) :
    Calls Tryd.prog 37 #[.pointer (some ⟨b, 0, none⟩), .string s] w fun e w' => ∃ v, e = .returned v ∧ Bd B b (l ++ bt s) w' ∧ Below B w w' ∧ Lib.OthersKept 5 (some b) w w' := by
  refine (writeString_any B b _ s w h (by rw [Lib.byteCells_length]; exact hl) hs hB).mono ?_
  rintro e w' ⟨rfl, h1, h2, h3⟩
  refine ⟨_, rfl, ?_, h2, h3⟩
  show Bld _ _ _ _
  rw [Lib.byteCells_append]
  exact h1
theorem bd_byte (B b : Nat) (l : List UInt8) (c : UInt8) (w : World) (h : Bd B b l w) (hl : l.length ≤ 100000) (hB : B ≤ w.heap.size) :
    Calls Tryd.prog 31 #[.pointer (some ⟨b, 0, none⟩), .int .u8 (c.toNat : Int)] w fun e w' => e = .returned .nilIface ∧ Bd B b (l ++ [c]) w' ∧ Below B w w' := by
  refine (writeByte_any B b _ (c.toNat : Int) w h (by rw [Lib.byteCells_length]; exact hl) hB).mono ?_
  rintro e w' ⟨rfl, h1, h2⟩
  refine ⟨rfl, ?_, h2⟩
  show Bld _ _ _ _
  rw [Lib.byteCells_append]
  exact h1


theorem bd_40 (B b : Nat) (l : List UInt8) (w : World) (h : Bd B b l w) (hl : l.length ≤ 100000) (hB : B ≤ w.heap.size) :
    Calls Tryd.prog 31 #[.pointer (some ⟨b, 0, none⟩), .int .u8 40] w fun e w' => e = .returned .nilIface ∧ Bd B b (l ++ [40]) w' ∧ Below B w w' := bd_byte B b l 40 w h hl hB
theorem bd_41 (B b : Nat) (l : List UInt8) (w : World) (h : Bd B b l w) (hl : l.length ≤ 100000) (hB : B ≤ w.heap.size) :
    Calls Tryd.prog 31 #[.pointer (some ⟨b, 0, none⟩), .int .u8 41] w fun e w' => e = .returned .nilIface ∧ Bd B b (l ++ [41]) w' ∧ Below B w w' := bd_byte B b l 41 w h hl hB

end Go.Proofs.YtiimegahhnjjkaaDoor
