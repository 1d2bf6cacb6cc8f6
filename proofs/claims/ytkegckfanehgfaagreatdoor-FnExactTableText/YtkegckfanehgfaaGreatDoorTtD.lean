/- Lists written with commas between them (stage 9). -/
import Derived.Test.YtkegckfanehgfaaGreatDoorTtB
import Derived.Test.YtkegckfanehgfaaGreatDoorTtS
namespace Go.Proofs.YtkegckfanehgfaaGreatDoor
open Go.RowKit

theorem ownb_below {B e n : Nat} {w w' : World} {v : Value} {xs : List Value} (h : w.ownsRow B e 1 v n xs) (hb : Below w.heap.size w w') : w'.ownsRow B e 1 v n xs := by
  obtain ⟨h1, h2⟩ := h
  refine ⟨h1, ?_⟩
  rcases h2 with h2 | ⟨g, cap, cur, e1, e2, e3, e4⟩
  · exact .inl h2
  · exact .inr ⟨g, cap, cur, e1, e2, (hb.block g (Array.getElem?_eq_some_iff.1 e3).1).trans e3, e4⟩
theorem bld_below {B b : Nat} {bs : List Value} {w w' : World} (h : Bld B b bs w) (hb : Below w.heap.size w w') : Bld B b bs w' := by
  have key : ∀ p, Lib.BuilderAt 45 5 B b p bs w → Lib.BuilderAt 45 5 B b p bs w' := fun p h => by
    have hlt := h.lt
    obtain ⟨hB, v, hbk, hown, hne⟩ := h
    exact ⟨hB, v, (hb.block b hlt).trans hbk, ownb_below hown hb, hne⟩
  rcases h with h | h
  · exact .inl (key _ h)
  · exact .inr (key _ h)
/-- A builder in block b that has written the bytes l. -/
def Bd (B b : Nat) (l : List UInt8) (w : World) : Prop := Bld B b (Lib.byteCells l) w
theorem Bd.below {B b : Nat} {l : List UInt8} {w w' : World} (h : Bd B b l w) (hb : Below w.heap.size w w') : Bd B b l w' := bld_below h hb
theorem Bd.lt {B b : Nat} {l : List UInt8} {w : World} (h : Bd B b l w) : b < w.heap.size := by rcases h with h | h <;> exact h.lt
theorem Bd.eq {B b : Nat} {l m : List UInt8} {w : World} (h : Bd B b l w) (e : l = m) : Bd B b m w := e ▸ h
theorem bd_string (B b : Nat) (l : List UInt8) (s : ByteArray) (w : World) (h : Bd B b l w) (hl : l.length ≤ 100000) (hs : s.size ≤ 100000) (hB : B ≤ w.heap.size) :
    Calls Tryz.prog 16 #[.pointer (some ⟨b, 0, none⟩), .string s] w fun e w' => ∃ v, e = .returned v ∧ Bd B b (l ++ bt s) w' ∧ Below B w w' ∧ Lib.OthersKept 5 (some b) w w' := by
  refine (writeString_any B b _ s w h (by rw [Lib.byteCells_length]; exact hl) hs hB).mono ?_
  rintro e w' ⟨rfl, h1, h2, h3⟩
  refine ⟨_, rfl, ?_, h2, h3⟩
  show Bld _ _ _ _
  rw [Lib.byteCells_append]
  exact h1
theorem bd_byte (B b : Nat) (l : List UInt8) (c : UInt8) (w : World) (h : Bd B b l w) (hl : l.length ≤ 100000) (hB : B ≤ w.heap.size) :
    Calls Tryz.prog 42 #[.pointer (some ⟨b, 0, none⟩), .int .u8 (c.toNat : Int)] w fun e w' => e = .returned .nilIface ∧ Bd B b (l ++ [c]) w' ∧ Below B w w' := by
  refine (writeByte_any B b _ (c.toNat : Int) w h (by rw [Lib.byteCells_length]; exact hl) hB).mono ?_
  rintro e w' ⟨rfl, h1, h2⟩
  refine ⟨rfl, ?_, h2⟩
  show Bld _ _ _ _
  rw [Lib.byteCells_append]
  exact h1


set_option maxRecDepth 100000 in
set_option maxHeartbeats 4000000 in
theorem joinCol_any (W1 : World) (b : Nat) (l0 : List UInt8) (a : Option Addr) (cap : Nat) (cs : List TC) (w : World) (hC : RowC W1 a cs) (hWr : Wrd W1) (bl : Below W1.heap.size W1 w) (h : Bd W1.heap.size b l0 w) (hl0 : l0.length ≤ 50000) (hn : cs.length ≤ 8)
    (hOK : ∀ j, j < cs.length → (nthC cs j).1.size ≤ 40 ∧ 1 ≤ (nthC cs j).2.1 ∧ (nthC cs j).2.1 ≤ 4) :
    Calls Tryz.prog 43 #[.pointer (some ⟨b, 0, none⟩), .slice a cs.length cap, .func (Fn.func 18) #[] #[]] w fun e w' => e = .returned (.tuple #[]) ∧ Bd W1.heap.size b (l0 ++ joinL (fun j => colL (nthC cs j)) cs.length) w' ∧ Below W1.heap.size w w' := by
  have HC : Hid (RowC W1 a cs ∧ Wrd W1 ∧ Below W1.heap.size W1 w) := ⟨hC, hWr, bl⟩
  have HO : Hid (∀ j, j < cs.length → (nthC cs j).1.size ≤ 40 ∧ 1 ≤ (nthC cs j).2.1 ∧ (nthC cs j).2.1 ≤ 4) := hOK
  have HJ : Hid (∀ k, k ≤ cs.length → (l0 ++ joinL (fun j => colL (nthC cs j)) k).length ≤ 60000) := fun k hk => by
    have := joinL_len (fun j => colL (nthC cs j)) 60 k (fun j hj => colL_len _ (hOK j (by omega)).1)
    rw [List.length_append]
    have : k * 62 ≤ 8 * 62 := Nat.mul_le_mul (by omega) (Nat.le_refl _)
    omega
  have H0 : Hid (Bd W1.heap.size b (l0 ++ joinL (fun j => colL (nthC cs j)) 0) w) := h.eq (by simp [joinL])
  clear hC hWr bl hOK h hl0
  generalize hN : cs.length = n at *
  have HN : Hid (cs.length = n) := hN
  clear hN
  go_enter Tryz.func43, Tryz.ntmps43
  go_wp2
  go_loopw [10] (fun i wr => ∃ k : Nat, k ≤ n ∧ i = .int .i64 k ∧ Hid (Bd W1.heap.size b (l0 ++ joinL (fun j => colL (nthC cs j)) k) wr) ∧ Below W1.heap.size w wr) (fun i _ => n - (intOf i).toNat)
  case atStart => exact ⟨0, by omega, rfl, H0.out, Below.refl _ _⟩
  case round =>
    obtain ⟨k, hk, rfl, HK, hbl⟩ := hrel
    by_cases hlt : k < n
    · have hltI : (k : Int) < (n : Int) := by omega
      have hbw := HK.out.lt
      have HB : Hid (Below W1.heap.size W1 wr) := HC.out.2.2.trans hbl
      have HBl : Hid (Below W1.heap.size w wr) := hbl
      have HOk := HO.out k hlt
      have HL := HJ.out k (by omega)
      have hj : joinL (fun j => colL (nthC cs j)) (k + 1) = joinL (fun j => colL (nthC cs j)) k ++ (if 0 < k then [44, 32] else []) ++ colL (nthC cs k) := rfl
      have HJ2 : Hid (l0 ++ joinL (fun j => colL (nthC cs j)) (k + 1) = (l0 ++ joinL (fun j => colL (nthC cs j)) k) ++ (if 0 < k then [44, 32] else []) ++ colL (nthC cs k)) := by show _ = _; rw [hj]; simp
      clear hj
      obtain ⟨b', off, rfl, hlb, ⟨q0, q1, q2⟩, hsz⟩ := (HC.out.1.below HB.out) k (by rw [HN.out]; exact hlt)
      generalize (l0 ++ joinL (fun j => colL (nthC cs j)) k) = lk at *
      generalize hk1 : (l0 ++ joinL (fun j => colL (nthC cs j)) (k + 1)) = lk1 at *
      have HK1 : Hid ((l0 ++ joinL (fun j => colL (nthC cs j)) (k + 1)) = lk1) := hk1
      clear hk1
      generalize nthC cs k = xk at *
      obtain ⟨kx, tx', nx⟩ := xk
      obtain ⟨W2, hW2⟩ : ∃ W2, wr.alloc (.cells #[.string kx, .int .i64 tx', .bool nx] 52) = W2 := ⟨_, rfl⟩
      have B2 : Below wr.heap.size wr W2 := hW2 ▸ (Below.refl _ _).alloc (Nat.le_refl _) _
      have X2 : W2.heap[wr.heap.size]? = some (.cells #[.string kx, .int .i64 tx', .bool nx] 52 (0, 0)) := (hW2 ▸ heap_new' _ _ _ rfl : W2.heap[wr.heap.size]? = _)
      have HB2 : Hid (Below W1.heap.size W1 W2) := below_step HB.out (Nat.le_refl _) B2
      have HBl2 : Hid (Below W1.heap.size w W2) := below_step HBl.out HC.out.2.2.size B2
      have HK2 := HK.out.below B2
      have HS2 : W1.heap.size ≤ W2.heap.size := HB2.out.size
      have HF : Hid ((colL (kx, tx', nx)).length ≤ 100) := (by have := colL_len (kx, tx', nx) HOk.1; show _ ≤ _; omega)
      by_cases hk0 : 0 < k
      · have hk0I : (0 : Int) < (k : Int) := by omega
        have HJ3 : Hid (lk1 = (lk ++ [44, 32]) ++ colL (kx, tx', nx)) := by show _ = _; rw [HJ2.out, if_pos hk0]
        clear HJ2 HK HB
        go_wp2_with fail
        refine (bd_string W1.heap.size b lk ⟨#[44, 32]⟩ W2 HK2 (by omega) (by show 2 ≤ _; omega) HS2).mono ?_
        rintro e w3 ⟨v3, rfl, h3, b3, o3⟩
        have X3 := o3 _ _ X2 (by intro e; cases e; omega) (by intro c fz e; cases e)
        have x30 : w3.cell? ⟨wr.heap.size, 0, none⟩ = some (.string kx) := slab_cell X3
        have x31 : w3.cell? ⟨wr.heap.size, 1, none⟩ = some (.int .i64 tx') := slab_cell X3
        have x32 : w3.cell? ⟨wr.heap.size, 2, none⟩ = some (.bool nx) := slab_cell X3
        have HB3 : Hid (Below W1.heap.size W1 w3) := HB2.out.trans b3
        have HBl3 : Hid (Below W1.heap.size w w3) := HBl2.out.trans b3
        have HK3 : Hid (Bd W1.heap.size b (lk ++ [44, 32]) w3) := h3
        clear X2 B2 HB2 HBl2 HK2 h3 b3 o3 X3 hW2 HS2
        go_wp2_with fail
        refine (columnText_any (kx, tx', nx) HOk.1 HOk.2.1 HOk.2.2 w3 (HC.out.2.1.below HB3.out)).mono ?_
        rintro e w4 ⟨rfl, b4⟩
        have HK4 := HK3.out.below b4
        have HB4 : Hid (Below W1.heap.size W1 w4) := below_step HB3.out (Nat.le_refl _) b4
        have HBl4 : Hid (Below W1.heap.size w w4) := below_step HBl3.out HC.out.2.2.size b4
        clear HK3 HB3 HBl3 b4
        have HS4 : W1.heap.size ≤ w4.heap.size := HB4.out.size
        go_wp2_with fail
        refine (bd_string W1.heap.size b _ (tx (colL (kx, tx', nx))) w4 HK4 (by rw [List.length_append]; show _ + 2 ≤ _; omega) (by rw [tx_size]; have := HF.out; omega) HS4).mono ?_
        rintro e w5 ⟨v5, rfl, h5, b5, _⟩
        have HK5 : Hid (Bd W1.heap.size b lk1 w5) := h5.eq (by rw [bt_tx]; exact HJ3.out.symm)
        have HBl5 : Hid (Below W1.heap.size w w5) := HBl4.out.trans b5
        clear h5 b5 HK4
        go_wp2
        go_roundw
        case rel => exact ⟨k + 1, by omega, by go_num, HK1.out ▸ HK5.out, HBl5.out⟩
        case measure => simp [intOf]; omega
      · have hk0I : ¬ (0 : Int) < (k : Int) := by omega
        have HJ3 : Hid (lk1 = lk ++ colL (kx, tx', nx)) := by show _ = _; rw [HJ2.out, if_neg hk0]; simp
        have x30 : W2.cell? ⟨wr.heap.size, 0, none⟩ = some (.string kx) := slab_cell X2
        have x31 : W2.cell? ⟨wr.heap.size, 1, none⟩ = some (.int .i64 tx') := slab_cell X2
        have x32 : W2.cell? ⟨wr.heap.size, 2, none⟩ = some (.bool nx) := slab_cell X2
        clear HJ2 HK HB X2 B2
        go_wp2_with fail
        refine (columnText_any (kx, tx', nx) HOk.1 HOk.2.1 HOk.2.2 W2 (HC.out.2.1.below HB2.out)).mono ?_
        rintro e w4 ⟨rfl, b4⟩
        have HK4 := HK2.below b4
        have HB4 : Hid (Below W1.heap.size W1 w4) := below_step HB2.out (Nat.le_refl _) b4
        have HBl4 : Hid (Below W1.heap.size w w4) := below_step HBl2.out HC.out.2.2.size b4
        clear HK2 HB2 HBl2 b4
        have HS4 : W1.heap.size ≤ w4.heap.size := HB4.out.size
        go_wp2_with fail
        refine (bd_string W1.heap.size b _ (tx (colL (kx, tx', nx))) w4 HK4 (by omega) (by rw [tx_size]; have := HF.out; omega) HS4).mono ?_
        rintro e w5 ⟨v5, rfl, h5, b5, _⟩
        have HK5 : Hid (Bd W1.heap.size b lk1 w5) := h5.eq (by rw [bt_tx]; exact HJ3.out.symm)
        have HBl5 : Hid (Below W1.heap.size w w5) := HBl4.out.trans b5
        clear h5 b5 HK4
        go_wp2
        go_roundw
        case rel => exact ⟨k + 1, by omega, by go_num, HK1.out ▸ HK5.out, HBl5.out⟩
        case measure => simp [intOf]; omega
    · have e : k = n := by omega
      subst e
      go_wp2
      go_end0
      exact ⟨rfl, HK.out, hbl⟩

set_option maxRecDepth 100000 in
theorem cloT_any (z : Int) (cs : List TC) (ca : Option Addr) (cc tb : Nat) (w : World) (h1 : w.cell? ⟨tb, 1, none⟩ = some (.slice ca cs.length cc)) (hC : RowC w ca cs) (h0 : 0 ≤ z) (hz : z.toNat < cs.length) :
    Calls Tryz.prog 21 #[.int .i64 z, .pointer (some ⟨tb, 0, none⟩)] w fun e w' => e = .returned (.string (tx (bt (nthC cs z.toNat).1))) ∧ Below w.heap.size w w' := by
  obtain ⟨k, rfl⟩ := Int.eq_ofNat_of_zero_le h0
  rw [Int.toNat_natCast] at hz ⊢
  obtain ⟨b, off, rfl, _, ⟨q0, _, _⟩, _⟩ := hC k hz
  rw [tx_bt]
  have hzI : (k : Int) < (cs.length : Int) := by omega
  clear hC
  generalize (nthC cs k).1 = nm at *
  generalize cs.length = n at *
  go_enter Tryz.func21, Tryz.ntmps21
  go_wp2
  go_ret
  exact ⟨rfl, Below.refl _ _⟩

set_option maxRecDepth 100000 in
set_option maxHeartbeats 4000000 in
theorem joinInt_any (W1 : World) (b : Nat) (l0 : List UInt8) (a : Option Addr) (cap : Nat) (is : List Int) (cs : List TC) (ca : Option Addr) (cc tb : Nat) (w : World) (hC : RowI W1 a is) (hWr : W1.cell? ⟨tb, 1, none⟩ = some (.slice ca cs.length cc) ∧ RowC W1 ca cs ∧ tb < W1.heap.size) (bl : Below W1.heap.size W1 w) (h : Bd W1.heap.size b l0 w) (hl0 : l0.length ≤ 50000) (hn : is.length ≤ 8)
    (hOK : ∀ j, j < is.length → 0 ≤ nthI is j ∧ (nthI is j).toNat < cs.length ∧ (nthC cs (nthI is j).toNat).1.size ≤ 40) :
    Calls Tryz.prog 45 #[.pointer (some ⟨b, 0, none⟩), .slice a is.length cap, .func (Fn.func 21) #[] #[.pointer (some ⟨tb, 0, none⟩)]] w fun e w' => e = .returned (.tuple #[]) ∧ Bd W1.heap.size b (l0 ++ joinL (fun j => bt (nthC cs (nthI is j).toNat).1) is.length) w' ∧ Below W1.heap.size w w' := by
  have HC : Hid (RowI W1 a is ∧ (W1.cell? ⟨tb, 1, none⟩ = some (.slice ca cs.length cc) ∧ RowC W1 ca cs ∧ tb < W1.heap.size) ∧ Below W1.heap.size W1 w) := ⟨hC, hWr, bl⟩
  have HO : Hid (∀ j, j < is.length → 0 ≤ nthI is j ∧ (nthI is j).toNat < cs.length ∧ (nthC cs (nthI is j).toNat).1.size ≤ 40) := hOK
  have HJ : Hid (∀ k, k ≤ is.length → (l0 ++ joinL (fun j => bt (nthC cs (nthI is j).toNat).1) k).length ≤ 60000) := fun k hk => by
    have := joinL_len (fun j => bt (nthC cs (nthI is j).toNat).1) 60 k (fun j hj => (by rw [bt_size]; have := (hOK j (by omega)).2.2; omega))
    rw [List.length_append]
    have : k * 62 ≤ 8 * 62 := Nat.mul_le_mul (by omega) (Nat.le_refl _)
    omega
  have H0 : Hid (Bd W1.heap.size b (l0 ++ joinL (fun j => bt (nthC cs (nthI is j).toNat).1) 0) w) := h.eq (by simp [joinL])
  clear hC hWr bl hOK h hl0
  generalize hN : is.length = n at *
  have HN : Hid (is.length = n) := hN
  clear hN
  go_enter Tryz.func45, Tryz.ntmps45
  go_wp2
  go_loopw [10] (fun i wr => ∃ k : Nat, k ≤ n ∧ i = .int .i64 k ∧ Hid (Bd W1.heap.size b (l0 ++ joinL (fun j => bt (nthC cs (nthI is j).toNat).1) k) wr) ∧ Below W1.heap.size w wr) (fun i _ => n - (intOf i).toNat)
  case atStart => exact ⟨0, by omega, rfl, H0.out, Below.refl _ _⟩
  case round =>
    obtain ⟨k, hk, rfl, HK, hbl⟩ := hrel
    by_cases hlt : k < n
    · have hltI : (k : Int) < (n : Int) := by omega
      have hbw := HK.out.lt
      have HB : Hid (Below W1.heap.size W1 wr) := HC.out.2.2.trans hbl
      have HBl : Hid (Below W1.heap.size w wr) := hbl
      have HOk := HO.out k hlt
      have HL := HJ.out k (by omega)
      have hj : joinL (fun j => bt (nthC cs (nthI is j).toNat).1) (k + 1) = joinL (fun j => bt (nthC cs (nthI is j).toNat).1) k ++ (if 0 < k then [44, 32] else []) ++ bt (nthC cs (nthI is k).toNat).1 := rfl
      have HJ2 : Hid (l0 ++ joinL (fun j => bt (nthC cs (nthI is j).toNat).1) (k + 1) = (l0 ++ joinL (fun j => bt (nthC cs (nthI is j).toNat).1) k) ++ (if 0 < k then [44, 32] else []) ++ bt (nthC cs (nthI is k).toNat).1) := by show _ = _; rw [hj]; simp
      clear hj
      obtain ⟨b', off, rfl, hlb, q0⟩ := (HC.out.1.below HB.out) k (by rw [HN.out]; exact hlt)
      generalize (l0 ++ joinL (fun j => bt (nthC cs (nthI is j).toNat).1) k) = lk at *
      generalize hk1 : (l0 ++ joinL (fun j => bt (nthC cs (nthI is j).toNat).1) (k + 1)) = lk1 at *
      have HK1 : Hid ((l0 ++ joinL (fun j => bt (nthC cs (nthI is j).toNat).1) (k + 1)) = lk1) := hk1
      clear hk1
      obtain ⟨W2, hW2⟩ : ∃ W2, wr = W2 := ⟨_, rfl⟩
      have HB2 := hW2 ▸ HB
      have HBl2 := hW2 ▸ HBl
      have HK2 := hW2 ▸ HK.out
      have HS2 : W1.heap.size ≤ W2.heap.size := HB2.out.size
      subst hW2
      have HF : Hid ((bt (nthC cs (nthI is k).toNat).1).length ≤ 100) := (by show _ ≤ _; rw [bt_size]; have := HOk.2.2; omega)
      by_cases hk0 : 0 < k
      · have hk0I : (0 : Int) < (k : Int) := by omega
        have HJ3 : Hid (lk1 = (lk ++ [44, 32]) ++ bt (nthC cs (nthI is k).toNat).1) := by show _ = _; rw [HJ2.out, if_pos hk0]
        clear HJ2 HK HB
        go_wp2_with fail
        refine (bd_string W1.heap.size b lk ⟨#[44, 32]⟩ wr HK2 (by omega) (by show 2 ≤ _; omega) HS2).mono ?_
        rintro e w3 ⟨v3, rfl, h3, b3, o3⟩
        have HB3 : Hid (Below W1.heap.size W1 w3) := HB2.out.trans b3
        have HBl3 : Hid (Below W1.heap.size w w3) := HBl2.out.trans b3
        have HK3 : Hid (Bd W1.heap.size b (lk ++ [44, 32]) w3) := h3
        clear HB2 HBl2 HK2 h3 b3 o3 HS2
        go_wp2_with fail
        refine (cloT_any (nthI is k) cs ca cc tb w3 ((HB3.out.cell (p := ⟨tb, 1, none⟩) HC.out.2.1.2.2).trans HC.out.2.1.1) (HC.out.2.1.2.1.below HB3.out) HOk.1 HOk.2.1).mono ?_
        rintro e w4 ⟨rfl, b4⟩
        have HK4 := HK3.out.below b4
        have HB4 : Hid (Below W1.heap.size W1 w4) := below_step HB3.out (Nat.le_refl _) b4
        have HBl4 : Hid (Below W1.heap.size w w4) := below_step HBl3.out HC.out.2.2.size b4
        clear HK3 HB3 HBl3 b4
        have HS4 : W1.heap.size ≤ w4.heap.size := HB4.out.size
        go_wp2_with fail
        refine (bd_string W1.heap.size b _ (tx (bt (nthC cs (nthI is k).toNat).1)) w4 HK4 (by rw [List.length_append]; show _ + 2 ≤ _; omega) (by rw [tx_size]; have := HF.out; omega) HS4).mono ?_
        rintro e w5 ⟨v5, rfl, h5, b5, _⟩
        have HK5 : Hid (Bd W1.heap.size b lk1 w5) := h5.eq (by rw [bt_tx]; exact HJ3.out.symm)
        have HBl5 : Hid (Below W1.heap.size w w5) := HBl4.out.trans b5
        clear h5 b5 HK4
        go_wp2
        go_roundw
        case rel => exact ⟨k + 1, by omega, by go_num, HK1.out ▸ HK5.out, HBl5.out⟩
        case measure => simp [intOf]; omega
      · have hk0I : ¬ (0 : Int) < (k : Int) := by omega
        have HJ3 : Hid (lk1 = lk ++ bt (nthC cs (nthI is k).toNat).1) := by show _ = _; rw [HJ2.out, if_neg hk0]; simp
        clear HJ2 HK HB 
        go_wp2_with fail
        refine (cloT_any (nthI is k) cs ca cc tb wr ((HB2.out.cell (p := ⟨tb, 1, none⟩) HC.out.2.1.2.2).trans HC.out.2.1.1) (HC.out.2.1.2.1.below HB2.out) HOk.1 HOk.2.1).mono ?_
        rintro e w4 ⟨rfl, b4⟩
        have HK4 := HK2.below b4
        have HB4 : Hid (Below W1.heap.size W1 w4) := below_step HB2.out (Nat.le_refl _) b4
        have HBl4 : Hid (Below W1.heap.size w w4) := below_step HBl2.out HC.out.2.2.size b4
        clear HK2 HB2 HBl2 b4
        have HS4 : W1.heap.size ≤ w4.heap.size := HB4.out.size
        go_wp2_with fail
        refine (bd_string W1.heap.size b _ (tx (bt (nthC cs (nthI is k).toNat).1)) w4 HK4 (by omega) (by rw [tx_size]; have := HF.out; omega) HS4).mono ?_
        rintro e w5 ⟨v5, rfl, h5, b5, _⟩
        have HK5 : Hid (Bd W1.heap.size b lk1 w5) := h5.eq (by rw [bt_tx]; exact HJ3.out.symm)
        have HBl5 : Hid (Below W1.heap.size w w5) := HBl4.out.trans b5
        clear h5 b5 HK4
        go_wp2
        go_roundw
        case rel => exact ⟨k + 1, by omega, by go_num, HK1.out ▸ HK5.out, HBl5.out⟩
        case measure => simp [intOf]; omega
    · have e : k = n := by omega
      subst e
      go_wp2
      go_end0
      exact ⟨rfl, HK.out, hbl⟩
end Go.Proofs.YtkegckfanehgfaaGreatDoor
