/- The text of a table: plain lists of bytes; the words of types, digits, a column's text (stage 9). -/
import Derived.Test.YtkegckfanehgfaaGreatDoorTbC
namespace Go.Proofs.YtkegckfanehgfaaGreatDoor
open Go.RowKit

/-- A text out of its bytes. -/
def tx (l : List UInt8) : ByteArray := ⟨l.toArray⟩
/-- The bytes of a text. -/
def bt (s : ByteArray) : List UInt8 := s.data.toList
theorem bt_tx (l : List UInt8) : bt (tx l) = l := rfl
theorem tx_bt (s : ByteArray) : tx (bt s) = s := by cases s; rfl
theorem bt_size (s : ByteArray) : (bt s).length = s.size := by unfold bt; rw [Array.length_toList]; rfl
theorem tx_size (l : List UInt8) : (tx l).size = l.length := by show l.toArray.size = _; simp
/-- Texts put together. -/
theorem add_tx (a b : List UInt8) (h : a.length + b.length ≤ 1000000) (w : World) : (Op.stringOp .add (tx a) (tx b)).run Tryz.prog w = .ok (.string (tx (a ++ b))) w := by
  rw [run_string_add_sum w _ _ (by rw [tx_size, tx_size]; omega)]
  unfold tx
  rw [ByteArray.mk_append_mk]
/-- The words of the types. -/
def wordsY : List (List UInt8) := [[], [98, 111, 111, 108], [105, 110, 116], [116, 101, 120, 116], [98, 121, 116, 101, 115]]
def wordY (k : Nat) : List UInt8 := wordsY.getD k []
theorem wordY_len (k : Nat) : (wordY k).length ≤ 5 := by
  unfold wordY wordsY
  rcases k with _ | _ | _ | _ | _ | k <;> simp
def cellsY : Array Value := (wordsY.map fun l => Value.string ⟨l.toArray⟩).toArray
theorem word_cellY {k : Nat} (h : k < 5) : cellsY[k]? = some (.string (tx (wordY k))) := by
  have hl : k < wordsY.length := h
  unfold cellsY wordY tx
  rw [List.getElem?_toArray, List.getElem?_map, List.getD_eq_getElem?_getD, List.getElem?_eq_getElem hl]
  rfl
/-- Whether a null may be, told. -/
def nulL (b : Bool) : List UInt8 := if b then [32, 110, 117, 108, 108] else []
/-- A column's text. -/
def colL (c : TC) : List UInt8 := bt c.1 ++ [32] ++ wordY c.2.1.toNat ++ nulL c.2.2
/-- The first k texts, a comma and a blank between them. -/
def joinL (f : Nat → List UInt8) : Nat → List UInt8
  | 0 => []
  | k + 1 => joinL f k ++ (if 0 < k then [44, 32] else []) ++ f k
/-- The text of an index. -/
def idxL (cs : List TC) (x : TX) : List UInt8 := [32, 105, 110, 100, 101, 120, 32] ++ bt x.1 ++ [40] ++ joinL (fun j => bt (nthC cs (nthI x.2 j).toNat).1) x.2.length ++ [41]
def idxsL (cs : List TC) (xs : List TX) : Nat → List UInt8
  | 0 => []
  | k + 1 => idxsL cs xs k ++ idxL cs (nthX xs k)
/-- One digit. -/
def digL (k : Nat) : List UInt8 := [(48 + k).toUInt8]
/-- The text of a table. -/
def tabL (nm : ByteArray) (cs : List TC) (key : Int) (xs : List TX) : List UInt8 :=
  bt nm ++ [40] ++ joinL (fun j => colL (nthC cs j)) cs.length ++ ([41, 32, 107, 101, 121, 32] ++ digL key.toNat) ++ idxsL cs xs xs.length

theorem joinL_len (f : Nat → List UInt8) (m : Nat) : ∀ k, (∀ j, j < k → (f j).length ≤ m) → (joinL f k).length ≤ k * (m + 2)
  | 0, _ => by simp [joinL]
  | k + 1, h => by
    have h1 := joinL_len f m k (fun j hj => h j (by omega))
    have h2 := h k (by omega)
    rw [joinL, List.length_append, List.length_append, Nat.add_mul]
    have : (if 0 < k then [(44 : UInt8), 32] else []).length ≤ 2 := by split <;> simp
    omega
theorem nulL_len (b : Bool) : (nulL b).length ≤ 5 := by cases b <;> simp [nulL]
theorem colL_len (c : TC) (h : c.1.size ≤ 40) : (colL c).length ≤ 60 := by
  unfold colL
  have := wordY_len c.2.1.toNat
  have := nulL_len c.2.2
  rw [List.length_append, List.length_append, List.length_append, bt_size]
  simp
  omega

set_option maxRecDepth 100000 in
theorem l09Types_at (k : Nat) (hk : k < 5) (w : World) : Calls Tryz.prog 32 #[] w fun e w' => ∃ g, e = .returned (.slice (some ⟨g, 0, none⟩) 5 5) ∧ w'.cell? ⟨g, k, none⟩ = some (.string (tx (wordY k))) ∧ Below w.heap.size w w' := by
  have hc : (w.alloc (.cells cellsY 9)).cell? ⟨w.heap.size, k, none⟩ = some (.string (tx (wordY k))) := by
    rw [slab_cell (heap_new' _ _ _ (by simp))]; exact word_cellY hk
  have HC : Hid (∃ g, g = w.heap.size ∧ (w.alloc (.cells cellsY 9)).cell? ⟨g, k, none⟩ = some (.string (tx (wordY k)))) := ⟨_, rfl, hc⟩
  have HB : Hid (Below w.heap.size w (w.alloc (.cells cellsY 9))) := (Below.refl _ _).alloc (Nat.le_refl _) _
  clear hc
  go_enter Tryz.func32, Tryz.ntmps32
  go_wp2
  go_ret
  obtain ⟨g, rfl, h⟩ := HC.out
  exact ⟨_, rfl, h, HB.out⟩

set_option maxRecDepth 100000 in
theorem l00Digits_small (k : Nat) (hk : k < 10) (w : World) : Calls Tryz.prog 33 #[.int .i64 k] w fun e w' => e = .returned (.string (tx (digL k))) ∧ Below w.heap.size w w' := by
  have h1 : (k : Int) < 10 := by omega
  have h2 : ((k : Int) == -9223372036854775808) = false := by simp
  have h3 : decide ((k : Int) < 0) = false := by simp
  obtain ⟨b, hb, hb'⟩ : ∃ b : UInt8, (b.toNat : Int) = 48 + (k : Int) ∧ b = (48 + k).toUInt8 := ⟨_, by simp [Nat.toUInt8]; omega, rfl⟩
  have hcv := run_convert_bytes_back (P := Tryz.prog) (w.alloc (.cells #[.int .u8 (48 + (k : Int))] 5)) 43 9 5 ⟨w.heap.size, 0, none⟩ 1 [b] Tryz.underlying43 Tryz.underlying5 Tryz.underlying9 (fun j hj => by
    have : j = 0 := by simpa using hj
    subst this
    rw [add_plain, ← hb]
    exact World.cell?_alloc_at _ _ _ _ rfl)
  have hcv' : Sem.run Tryz.prog (convert 43 9 (.slice (some ⟨w.heap.size, 0, none⟩) 1 1)) (w.alloc (.cells #[.int .u8 (48 + (k : Int))] 5)) = .ok (.string (tx [b])) (w.alloc (.cells #[.int .u8 (48 + (k : Int))] 5)) := hcv
  have HB : Hid (Below w.heap.size w (w.alloc (.cells #[.int .u8 (48 + (k : Int))] 5))) := (Below.refl _ _).alloc (Nat.le_refl _) _
  have HE : Hid (tx [b] = tx (digL k)) := by show tx [b] = _; rw [hb']; rfl
  clear hcv hb hb' hk
  go_enter Tryz.func33, Tryz.ntmps33
  go_wp2
  go_ret
  rw [HE.out]
  exact ⟨rfl, HB.out⟩

theorem addE (a b : ByteArray) (h : a.size + b.size ≤ 1000000) : ∃ s : ByteArray, bt s = bt a ++ bt b ∧ ∀ w, (Op.stringOp .add a b).run Tryz.prog w = .ok (.string s) w :=
  ⟨a ++ b, by unfold bt; rw [ByteArray.data_append, Array.toList_append], fun w => run_string_add_sum w _ _ (by omega)⟩
theorem eq_tx {s : ByteArray} {l : List UInt8} (h : bt s = l) : s = tx l := by rw [← h, tx_bt]
theorem size_bt {s : ByteArray} {l : List UInt8} (h : bt s = l) : s.size = l.length := by rw [← bt_size, h]
/-- The variable typeWords holds the words. -/
def Wrd (w : World) : Prop := ∀ k, k < 5 → w.cell? ⟨0, k, none⟩ = some (.string (tx (wordY k)))
theorem Wrd.below {w w' : World} (h : Wrd w) (hb : Below w.heap.size w w') : Wrd w' := fun k hk =>
  (hb.cell (p := ⟨0, k, none⟩) (World.block_lt_of_cell? w ⟨0, k, none⟩ (h k hk))).trans (h k hk)

set_option maxRecDepth 100000 in
set_option maxHeartbeats 1000000 in
theorem columnText_any (c : TC) (hs : c.1.size ≤ 40) (h1 : 1 ≤ c.2.1) (h4 : c.2.1 ≤ 4) (w : World) (hW : Wrd w) : Calls Tryz.prog 18 #[ValC c] w fun e w' => e = .returned (.string (tx (colL c))) ∧ Below w.heap.size w w' := by
  obtain ⟨kx, t, nx⟩ := c
  simp only at hs h1 h4
  obtain ⟨k, rfl⟩ := Int.eq_ofNat_of_zero_le (show 0 ≤ t by omega)
  have hk : k < 5 := by omega
  obtain ⟨s1, e1, A1⟩ := addE kx ⟨#[32]⟩ (by show _ + 1 ≤ _; omega)
  have z1 := size_bt e1
  have hl := wordY_len k
  rw [List.length_append, bt_size, bt_size] at z1
  obtain ⟨s2, e2, A2⟩ := addE s1 (tx (wordY k)) (by rw [tx_size, z1]; show _ + 1 + _ ≤ _; omega)
  have z2 := size_bt e2
  rw [List.length_append, bt_size, bt_tx] at z2
  obtain ⟨s3, e3, A3⟩ := addE s2 ⟨#[32, 110, 117, 108, 108]⟩ (by rw [z2, z1]; show _ + 1 + _ + 5 ≤ _; omega)
  obtain ⟨W0, hW0⟩ : ∃ W0, w.alloc (.cells #[.string kx, .int .i64 (k : Int), .bool nx] 52) = W0 := ⟨_, rfl⟩
  have B0 : Below w.heap.size w W0 := hW0 ▸ (Below.refl _ _).alloc (Nat.le_refl _) _
  have hg := (hW.below B0) k hk
  have XA : W0.heap[w.heap.size]? = some (.cells #[.string kx, .int .i64 (k : Int), .bool nx] 52 (0, 0)) := (hW0 ▸ heap_new' _ _ _ rfl : W0.heap[w.heap.size]? = _)
  have c0 : W0.cell? ⟨w.heap.size, 0, none⟩ = some (.string kx) := by simp [World.cell?, XA]
  have c1 : W0.cell? ⟨w.heap.size, 1, none⟩ = some (.int .i64 (k : Int)) := by simp [World.cell?, XA]
  have c2 : W0.cell? ⟨w.heap.size, 2, none⟩ = some (.bool nx) := by simp [World.cell?, XA]
  have HB : Hid (Below w.heap.size w W0) := B0
  have hk4 : (k : Int) < 5 := by omega
  have HE : Hid (bt s2 = colL (kx, (k : Int), false) ∧ bt s3 = colL (kx, (k : Int), true)) := by
    have e4 : bt s2 = colL (kx, (k : Int), false) := by rw [e2, e1, bt_tx]; simp [colL, nulL, bt]
    exact ⟨e4, by rw [e3, e4]; simp [colL, nulL, bt]⟩
  clear e1 e2 e3 z1 z2 hl XA B0 hW hs h1 h4
  generalize tx (wordY k) = wy at *
  cases nx with
  | true =>
    go_enter Tryz.func18, Tryz.ntmps18
    go_wp2_with fail
    go_quiet (fail)
    go_wp2
    go_ret
    exact ⟨ret_val (congrArg Value.string (eq_tx HE.out.2)), below_drewN HB.out _⟩
  | false =>
    go_enter Tryz.func18, Tryz.ntmps18
    go_wp2_with fail
    go_quiet (fail)
    go_wp2
    go_ret
    exact ⟨ret_val (congrArg Value.string (eq_tx HE.out.1)), below_drewN HB.out _⟩
end Go.Proofs.YtkegckfanehgfaaGreatDoor
