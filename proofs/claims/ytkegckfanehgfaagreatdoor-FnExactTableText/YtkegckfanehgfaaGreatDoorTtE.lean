/- Lists in brackets; the text of a table on impl's side (stage 9). -/
import Derived.Test.YtkegckfanehgfaaGreatDoorTtD
import Derived.Test.YtkegckfanehgfaaGreatDoorTkA
namespace Go.Proofs.YtkegckfanehgfaaGreatDoor
open Go.RowKit

theorem bd_40 (B b : Nat) (l : List UInt8) (w : World) (h : Bd B b l w) (hl : l.length ≤ 100000) (hB : B ≤ w.heap.size) :
    Calls Tryz.prog 42 #[.pointer (some ⟨b, 0, none⟩), .int .u8 40] w fun e w' => e = .returned .nilIface ∧ Bd B b (l ++ [40]) w' ∧ Below B w w' := bd_byte B b l 40 w h hl hB
theorem bd_41 (B b : Nat) (l : List UInt8) (w : World) (h : Bd B b l w) (hl : l.length ≤ 100000) (hB : B ≤ w.heap.size) :
    Calls Tryz.prog 42 #[.pointer (some ⟨b, 0, none⟩), .int .u8 41] w fun e w' => e = .returned .nilIface ∧ Bd B b (l ++ [41]) w' ∧ Below B w w' := bd_byte B b l 41 w h hl hB

set_option maxRecDepth 100000 in
theorem listCol_any (W1 : World) (b : Nat) (l0 : List UInt8) (a : Option Addr) (cap : Nat) (cs : List TC) (w : World) (hC : RowC W1 a cs) (hWr : Wrd W1) (bl : Below W1.heap.size W1 w) (h : Bd W1.heap.size b l0 w) (hl0 : l0.length ≤ 49000) (hn : cs.length ≤ 8)
    (hOK : ∀ j, j < cs.length → (nthC cs j).1.size ≤ 40 ∧ 1 ≤ (nthC cs j).2.1 ∧ (nthC cs j).2.1 ≤ 4) :
    Calls Tryz.prog 17 #[.pointer (some ⟨b, 0, none⟩), .slice a cs.length cap, .func (Fn.func 18) #[] #[]] w fun e w' => e = .returned (.tuple #[]) ∧ Bd W1.heap.size b (l0 ++ [40] ++ joinL (fun j => colL (nthC cs j)) cs.length ++ [41]) w' ∧ Below W1.heap.size w w' := by
  have HJ : Hid ((l0 ++ [40] ++ joinL (fun j => colL (nthC cs j)) cs.length).length ≤ 90000) := by
    have := joinL_len (fun j => colL (nthC cs j)) 60 cs.length (fun j hj => colL_len _ (hOK j (by omega)).1)
    have : cs.length * 62 ≤ 8 * 62 := Nat.mul_le_mul hn (Nat.le_refl _)
    show _ ≤ _
    rw [List.length_append, List.length_append]
    show _ + 1 + _ ≤ _
    omega
  have HP : Hid (RowC W1 a cs) := hC
  have HO : Hid (∀ j, j < cs.length → (nthC cs j).1.size ≤ 40 ∧ 1 ≤ (nthC cs j).2.1 ∧ (nthC cs j).2.1 ≤ 4) := hOK
  have HW := hWr
  clear hC hOK hWr
  go_enter Tryz.func17, Tryz.ntmps17
  go_wp2_with fail
  refine (bd_40 W1.heap.size b l0 w h (by omega) bl.size).mono ?_
  rintro e w1 ⟨rfl, h1, b1⟩
  have B1 := bl.trans b1
  go_wp2_with fail
  refine (joinCol_any W1 b _ a cap cs w1 HP.out HW B1 h1 (by rw [List.length_append]; show _ + 1 ≤ _; omega) hn HO.out).mono ?_
  rintro e w2 ⟨rfl, h2, b2⟩
  have B2 := B1.trans b2
  have HB2 : Hid (Below W1.heap.size w w2) := b1.trans b2
  clear b1 b2 h1 h B1
  go_wp2_with fail
  refine (bd_41 W1.heap.size b _ w2 h2 (by have := HJ.out; omega) B2.size).mono ?_
  rintro e w3 ⟨rfl, h3, b3⟩
  have HB3 : Hid (Below W1.heap.size w w3) := HB2.out.trans b3
  clear b3 h2 B2
  go_wp2
  go_end0
  exact ⟨rfl, h3, HB3.out⟩

set_option maxRecDepth 100000 in
theorem listInt_any (W1 : World) (b : Nat) (l0 : List UInt8) (a : Option Addr) (cap : Nat) (is : List Int) (cs : List TC) (ca : Option Addr) (cc tb : Nat) (w : World) (hC : RowI W1 a is) (hWr : W1.cell? ⟨tb, 1, none⟩ = some (.slice ca cs.length cc) ∧ RowC W1 ca cs ∧ tb < W1.heap.size) (bl : Below W1.heap.size W1 w) (h : Bd W1.heap.size b l0 w) (hl0 : l0.length ≤ 49000) (hn : is.length ≤ 8)
    (hOK : ∀ j, j < is.length → 0 ≤ nthI is j ∧ (nthI is j).toNat < cs.length ∧ (nthC cs (nthI is j).toNat).1.size ≤ 40) :
    Calls Tryz.prog 20 #[.pointer (some ⟨b, 0, none⟩), .slice a is.length cap, .func (Fn.func 21) #[] #[.pointer (some ⟨tb, 0, none⟩)]] w fun e w' => e = .returned (.tuple #[]) ∧ Bd W1.heap.size b (l0 ++ [40] ++ joinL (fun j => bt (nthC cs (nthI is j).toNat).1) is.length ++ [41]) w' ∧ Below W1.heap.size w w' := by
  have HJ : Hid ((l0 ++ [40] ++ joinL (fun j => bt (nthC cs (nthI is j).toNat).1) is.length).length ≤ 90000) := by
    have := joinL_len (fun j => bt (nthC cs (nthI is j).toNat).1) 60 is.length (fun j hj => (by rw [bt_size]; have := (hOK j (by omega)).2.2; omega))
    have : is.length * 62 ≤ 8 * 62 := Nat.mul_le_mul hn (Nat.le_refl _)
    show _ ≤ _
    rw [List.length_append, List.length_append]
    show _ + 1 + _ ≤ _
    omega
  have HP : Hid (RowI W1 a is) := hC
  have HO : Hid (∀ j, j < is.length → 0 ≤ nthI is j ∧ (nthI is j).toNat < cs.length ∧ (nthC cs (nthI is j).toNat).1.size ≤ 40) := hOK
  have HW := hWr
  clear hC hOK hWr
  go_enter Tryz.func20, Tryz.ntmps20
  go_wp2_with fail
  refine (bd_40 W1.heap.size b l0 w h (by omega) bl.size).mono ?_
  rintro e w1 ⟨rfl, h1, b1⟩
  have B1 := bl.trans b1
  go_wp2_with fail
  refine (joinInt_any W1 b _ a cap is cs ca cc tb w1 HP.out HW B1 h1 (by rw [List.length_append]; show _ + 1 ≤ _; omega) hn HO.out).mono ?_
  rintro e w2 ⟨rfl, h2, b2⟩
  have B2 := B1.trans b2
  have HB2 : Hid (Below W1.heap.size w w2) := b1.trans b2
  clear b1 b2 h1 h B1
  go_wp2_with fail
  refine (bd_41 W1.heap.size b _ w2 h2 (by have := HJ.out; omega) B2.size).mono ?_
  rintro e w3 ⟨rfl, h3, b3⟩
  have HB3 : Hid (Below W1.heap.size w w3) := HB2.out.trans b3
  clear b3 h2 B2
  go_wp2
  go_end0
  exact ⟨rfl, h3, HB3.out⟩

theorem nameB_size {s : ByteArray} (h : nameB s = true) : s.size ≤ 40 := by
  by_cases h1 : 40 < s.size
  · rw [nameB_small s (.inr h1)] at h; cases h
  · omega
theorem givenB_size {s : ByteArray} (h : givenB s = true) : s.size ≤ 40 := by
  unfold givenB at h
  rw [Bool.and_eq_true] at h
  exact nameB_size h.1
theorem itoa_dig {k : Nat} (h : k < 10) : Lib.decDigits k = digL k := by
  rcases k with _ | _ | _ | _ | _ | _ | _ | _ | _ | _ | k <;> first | (exfalso; omega) | (decide +kernel)
/-- What both sides answer. -/
noncomputable def retT (nm : ByteArray) (cs : List TC) (key : Int) (xs : List TX) : Value := if asB (TabP nm cs key xs) = true then .tuple #[.string (tx (tabL nm cs key xs)), .int .i64 0] else .tuple #[.string ⟨#[]⟩, .int .i64 1]
theorem retT_true {nm : ByteArray} {cs : List TC} {key : Int} {xs : List TX} (h : TabP nm cs key xs) {s : ByteArray} (e : bt s = tabL nm cs key xs) : retT nm cs key xs = .tuple #[.string s, .int .i64 0] := by
  unfold retT; rw [← asB_true h, if_pos rfl, eq_tx e]
theorem retT_false {nm : ByteArray} {cs : List TC} {key : Int} {xs : List TX} (h : ¬ TabP nm cs key xs) : retT nm cs key xs = .tuple #[.string ⟨#[]⟩, .int .i64 1] := by
  unfold retT; rw [← asB_false h]; rfl
theorem TabP.col {nm : ByteArray} {cs : List TC} {key : Int} {xs : List TX} (h : TabP nm cs key xs) : ∀ j, j < cs.length → (nthC cs j).1.size ≤ 40 ∧ 1 ≤ (nthC cs j).2.1 ∧ (nthC cs j).2.1 ≤ 4 := fun j hj =>
  have g := (h.2.2.2.2.2.1 j hj).1
  ⟨givenB_size g.1, g.2.1, g.2.2⟩
theorem TabP.idx {nm : ByteArray} {cs : List TC} {key : Int} {xs : List TX} (h : TabP nm cs key xs) {k : Nat} (hk : k < xs.length) : (nthX xs k).1.size ≤ 40 ∧ (nthX xs k).2.length ≤ 8 ∧ ∀ j, j < (nthX xs k).2.length → 0 ≤ nthI (nthX xs k).2 j ∧ (nthI (nthX xs k).2 j).toNat < cs.length ∧ (nthC cs (nthI (nthX xs k).2 j).toNat).1.size ≤ 40 := by
  obtain ⟨g1, g2, g3, g4, g5, _⟩ := (h.2.2.2.2.2.2 k hk).1
  refine ⟨givenB_size g1, by have := h.2.1; omega, fun j hj => ?_⟩
  have h0 := g4 j hj
  have h1 := g5 j hj
  have h2 : (nthI (nthX xs k).2 j).toNat < cs.length := by omega
  exact ⟨h0, h2, (h.col _ h2).1⟩
end Go.Proofs.YtkegckfanehgfaaGreatDoor
