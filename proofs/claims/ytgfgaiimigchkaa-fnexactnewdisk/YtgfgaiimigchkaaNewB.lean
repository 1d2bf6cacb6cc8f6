/- Lists of texts: held against each other, marked, and asked for their marks. -/
import Derived.Test.YtgfgaiimigchkaaNewA
namespace Go.Proofs.Ytgfgaiimigchkaa
open Go.RowKit

/-- Nothing but block b was written. -/
structure But (b : Nat) (w w' : World) : Prop where
  os : w'.os = w.os
  tape : w'.tape = w.tape
  output : w'.output = w.output
  size : w.heap.size ≤ w'.heap.size
  block : ∀ k, k < w.heap.size → k ≠ b → w'.heap[k]? = w.heap[k]?
theorem But.refl (b : Nat) (w : World) : But b w w := ⟨rfl, rfl, rfl, Nat.le_refl _, fun _ _ _ => rfl⟩
theorem But.setCell {b : Nat} {w w' : World} (h : But b w w') (o : Nat) (v : Value) : But b w (w'.setCell ⟨b, o, none⟩ v) :=
  ⟨h.os, h.tape, h.output, by simpa [World.setCell] using h.size, fun k hk hb => by rw [← h.block k hk hb]; simp [World.setCell, Array.getElem?_modify, Ne.symm hb]⟩
theorem But.trans {b : Nat} {w w1 w2 : World} (h : But b w w1) (h2 : But b w1 w2) : But b w w2 :=
  ⟨h2.os.trans h.os, h2.tape.trans h.tape, h2.output.trans h.output, Nat.le_trans h.size h2.size, fun k hk hb => (h2.block k (Nat.lt_of_lt_of_le hk h.size) hb).trans (h.block k hk hb)⟩
theorem But.of_below {b : Nat} {w w' : World} (h : Below w.heap.size w w') : But b w w' := ⟨h.os, h.tape, h.output, h.size, fun k hk _ => h.block k hk⟩
theorem But.below {b B : Nat} {w w1 w2 : World} (h : But b w1 w2) (hb : Below B w w1) (hB : B ≤ b) (hs : B ≤ w1.heap.size) : Below B w w2 :=
  hb.trans ⟨h.os, h.tape, h.output, h.size, fun k hk => h.block k (by omega) (by omega)⟩
theorem But.cell {b : Nat} {w w' : World} (h : But b w w') {p : Addr} (hp : p.block < w.heap.size) (hb : p.block ≠ b) : w'.cell? p = w.cell? p := World.cell?_of_block (w := w) (h.block p.block hp hb)

/-- The first n texts of a slice can be read. -/
def ReadT (w : World) (a : Option Addr) (n : Nat) (f : Nat → ByteArray) : Prop :=
  ∀ i, i < n → ∃ b, a = some ⟨b, 0, none⟩ ∧ b < w.heap.size ∧ w.cell? ⟨b, i, none⟩ = some (.string (f i))
theorem ReadT.below {w w' : World} {a : Option Addr} {n : Nat} {f : Nat → ByteArray} (h : ReadT w a n f) (hb : Below w.heap.size w w') : ReadT w' a n f := fun i hi => by
  obtain ⟨b, e, hlt, hc⟩ := h i hi
  exact ⟨b, e, Nat.lt_of_lt_of_le hlt hb.size, (hb.cell (p := ⟨b, i, none⟩) hlt).trans hc⟩
theorem ReadT.but {w w' : World} {a : Option Addr} {n g : Nat} {f : Nat → ByteArray} (h : ReadT w a n f) (hb : But g w w') (hne : ∀ b, a = some ⟨b, 0, none⟩ → b ≠ g) : ReadT w' a n f := fun i hi => by
  obtain ⟨b, e, hlt, hc⟩ := h i hi
  exact ⟨b, e, Nat.lt_of_lt_of_le hlt hb.size, (hb.cell (p := ⟨b, i, none⟩) hlt (hne b e)).trans hc⟩
theorem SlabT.read {w : World} {g n : Nat} {f : Nat → ByteArray} (h : SlabT w g f n) : ReadT w (some ⟨g, 0, none⟩) n f := fun _ hi => ⟨g, rfl, h.lt, h.cell hi⟩

set_option maxHeartbeats 1000000 in
theorem eqT_same (a1 a2 : Option Addr) (c1 c2 n : Nat) (f : Nat → ByteArray) (w : World) (h1 : ReadT w a1 n f) (h2 : ReadT w a2 n f) (hn : n ≤ 1048576) :
    Calls Try.prog 13 #[.slice a1 n c1, .slice a2 n c2] w fun e w' => e = .returned (.bool true) ∧ Below w.heap.size w w' := by
  have H1 : Hid (ReadT w a1 n f) := h1
  have H2 : Hid (ReadT w a2 n f) := h2
  clear h1 h2
  go_enter Try.func13, Try.ntmps13
  go_wp2
  go_loopw [5] (fun i wr => ∃ k : Nat, k ≤ n ∧ i = .int .i64 k ∧ Below w.heap.size w wr) (fun i _ => n - (intOf i).toNat)
  case atStart => exact ⟨0, by omega, rfl, Below.refl _ _⟩
  case round =>
    obtain ⟨k, hk, rfl, hbl⟩ := hrel
    by_cases hlt : k < n
    · obtain ⟨b1, rfl, hlb1, hc1⟩ := (H1.out.below hbl) k hlt
      obtain ⟨b2, rfl, hlb2, hc2⟩ := (H2.out.below hbl) k hlt
      go_wp2_with fail
      go_quiet (fail)
      go_wp2
      go_roundw
      case rel => exact ⟨k + 1, by omega, by go_num, below_drewN hbl _⟩
      case measure => simp [intOf]; omega
    · go_wp2
      go_ret
      exact ⟨rfl, hbl⟩
theorem eqP_none (w : World) : Calls Try.prog 14 #[.slice none 0 0, .slice none 0 0] w fun e w' => e = .returned (.bool true) ∧ w' = w := by
  go_enter Try.func14, Try.ntmps14
  go_wp2
  refine wp_loop_rounds 1 ?_
  rw [rounds_succ]
  go_wp2
  go_ret
  exact ⟨rfl, rfl⟩

/-- A disk as a struct: sectors, and no writes. -/
abbrev DN (a : Option Addr) (n c : Nat) : Value := .agg #[.slice a n c, .slice none 0 0]

set_option maxRecDepth 100000 in
theorem eqDisk_same (a1 a2 : Option Addr) (c1 c2 n : Nat) (f : Nat → ByteArray) (w : World) (h1 : ReadT w a1 n f) (h2 : ReadT w a2 n f) (hn : n ≤ 1048576) :
    Calls Try.prog 6 #[DN a1 n c1, DN a2 n c2] w fun e w' => e = .returned (.bool true) ∧ Below w.heap.size w w' := by
  have B0 : Below w.heap.size w ((w.alloc (.cells #[.slice a1 n c1, .slice none 0 0] 25)).alloc (.cells #[.slice a2 n c2, .slice none 0 0] 25)) := ((Below.refl _ _).alloc (Nat.le_refl _) _).alloc (by simp) _
  have H1 : Hid (ReadT w a1 n f) := h1
  have H2 : Hid (ReadT w a2 n f) := h2
  have HN : Hid (n ≤ 1048576) := hn
  clear h1 h2 hn
  go_enter Try.func6, Try.ntmps6
  go_wp2_with fail
  refine (eqT_same a1 a2 c1 c2 n f _ (H1.out.below B0) (H2.out.below B0) HN.out).mono ?_
  rintro e w1 ⟨rfl, hb1⟩
  have d0 : w1.cell? ⟨w.heap.size, 1, none⟩ = some (.slice none 0 0) := (hb1.cell (p := ⟨w.heap.size, 1, none⟩) (by simp; omega)).trans (by go_simp)
  have d1 : w1.cell? ⟨w.heap.size + 1, 1, none⟩ = some (.slice none 0 0) := (hb1.cell (p := ⟨w.heap.size + 1, 1, none⟩) (by simp)).trans (by go_simp)
  have B1 := B0.trans (hb1.mono B0.size)
  clear B0 hb1
  go_wp2_with fail
  refine (eqP_none _).mono ?_
  rintro e w2 ⟨rfl, rfl⟩
  go_wp2
  go_ret
  exact ⟨rfl, B1⟩

set_option maxRecDepth 100000 in
set_option maxHeartbeats 2000000 in
theorem markS_any (g n c : Nat) (f : Nat → ByteArray) (k0 : Nat) (w : World) (h : SlabT w g f n) (hn : n ≤ 1000) (h0 : 0 < k0) (h1 : k0 ≤ 1000) :
    Calls Try.prog 15 #[.slice (some ⟨g, 0, none⟩) n c, .int .i64 k0] w fun e w' => e = .returned (.int .i64 (k0 + n)) ∧ SlabT w' g (fun j => markT (k0 + j)) n ∧ But g w w' := by
  have HG : Hid (g < w.heap.size) := h.lt
  go_enter Try.func15, Try.ntmps15
  go_wp2
  go_loopw [1, 5] (fun kk i wr => ∃ j : Nat, j ≤ n ∧ i = .int .i64 j ∧ kk = .int .i64 ((k0 + j : Nat) : Int) ∧ SlabT wr g (fun x => if x < j then markT (k0 + x) else f x) n ∧ But g w wr) (fun _ i _ => n - (intOf i).toNat)
  case atStart => exact ⟨0, by omega, rfl, by go_num, by simpa using h, But.refl _ _⟩
  case round =>
    clear h
    obtain ⟨j, hj, rfl, rfl, hS, hB⟩ := hrel
    by_cases hlt : j < n
    · have hltI : (j : Int) < (n : Int) := by omega
      go_wp2_with fail
      refine (markText_any (k0 + j) wr (by omega) (by omega)).mono ?_
      rintro e w1 ⟨rfl, hb1⟩
      have hS1 := hS.below hb1 hS.lt
      have hB1 := hB.trans (But.of_below hb1)
      have hv0 := hS1.cell hlt
      have hf := hS1.free j
      have HN : Hid (SlabT (w1.setCell ⟨g, j, none⟩ (.string (markT (k0 + j)))) g (fun x => if x < j + 1 then markT (k0 + x) else f x) n) := hS1.set hlt (fun x _ => by
        by_cases e : x = j
        · subst e; simp
        · rw [if_neg e]
          by_cases h2 : x < j
          · rw [if_pos h2, if_pos (by omega)]
          · rw [if_neg h2, if_neg (by omega)])
      have hB2 := hB1.setCell j (.string (markT (k0 + j)))
      clear hS hB hb1 hS1 hB1
      go_wp2
      go_roundw
      case rel => exact ⟨j + 1, by omega, by go_num, by go_num, HN.out, hB2⟩
      case measure => simp [intOf]; omega
    · obtain rfl : j = n := by omega
      have HS : Hid (SlabT wr g (fun x => markT (k0 + x)) j) := by
        obtain ⟨cur, hh, hc⟩ := hS
        exact ⟨cur, hh, fun x hx => by rw [hc x hx]; simp [hx]⟩
      clear hS
      go_wp2
      go_ret
      exact ⟨ret_int' (by omega), HS.out, hB⟩

/-- A list of texts that lies in w; what lay in w0 lies there still. -/
abbrev LineT (w0 : World) (g j : Nat) (t : ByteArray) (w' : World) : Prop := w'.cell? ⟨g, j, none⟩ = some (.string t) ∧ g < w'.heap.size ∧ Below w0.heap.size w0 w'
theorem LineT.keep {w0 : World} {g j : Nat} {t : ByteArray} {w1 w2 : World} (h : LineT w0 g j t w1) (hb : Below w1.heap.size w1 w2) : LineT w0 g j t w2 :=
  ⟨(hb.cell (p := ⟨g, j, none⟩) h.2.1).trans h.1, Nat.lt_of_lt_of_le h.2.1 hb.size, below_step h.2.2 (Nat.le_refl _) hb⟩

set_option maxRecDepth 100000 in
set_option maxHeartbeats 2000000 in
theorem heldS_any (a : Option Addr) (n c : Nat) (k0 : Nat) (w : World) (h : ReadT w a n (fun j => markT (k0 + j))) (hn : n ≤ 1000) (h0 : 0 < k0) (h1 : k0 ≤ 1000) :
    Calls Try.prog 17 #[.slice a n c, .int .i64 k0] w fun e w' => e = .returned (.int .i64 (k0 + n)) ∧ Below w.heap.size w w' := by
  have H1 : Hid (ReadT w a n (fun j => markT (k0 + j))) := h
  clear h
  go_enter Try.func17, Try.ntmps17
  go_wp2
  go_loopw [1, 5] (fun kk i wr => ∃ j : Nat, j ≤ n ∧ i = .int .i64 j ∧ kk = .int .i64 ((k0 + j : Nat) : Int) ∧ Below w.heap.size w wr) (fun _ i _ => n - (intOf i).toNat)
  case atStart => exact ⟨0, by omega, rfl, by go_num, Below.refl _ _⟩
  case round =>
    obtain ⟨j, hj, rfl, rfl, hbl⟩ := hrel
    by_cases hlt : j < n
    · obtain ⟨b, rfl, hlb, hc⟩ := (H1.out.below hbl) j hlt
      have hltI : (j : Int) < (n : Int) := by omega
      have hc' : wr.cell? ⟨b, j, none⟩ = some (.string (markT (k0 + j))) := hc
      clear hc
      have hP : LineT w b j (markT (k0 + j)) wr.drew := ⟨hc', hlb, hbl.drew⟩
      clear hc' hlb hbl
      go_wp2_with fail
      go_region_held3 (LineT w b j (markT (k0 + j))) (first | exact hP | exact LineT.keep (by assumption) hb) (first | (go_at_call 26; refine (markText_any (k0 + j) _ (by omega) (by omega)).mono ?_; rintro e wA ⟨rfl, hb⟩))
      rename_i hPL
      have hB := hPL.2.2
      clear hP hPL
      go_wp2
      go_roundw
      case rel => exact ⟨j + 1, by omega, by go_num, by go_num, hB⟩
      case measure => simp [intOf]; omega
    · obtain rfl : j = n := by omega
      go_wp2
      go_ret
      exact ⟨ret_int' (by omega), hbl⟩
theorem markP_none (k : Int) (w : World) : Calls Try.prog 16 #[.slice none 0 0, .int .i64 k] w fun e w' => e = .returned (.int .i64 k) ∧ w' = w := by
  go_enter Try.func16, Try.ntmps16
  go_wp2
  refine wp_loop_rounds 1 ?_
  rw [rounds_succ]
  go_wp2
  go_ret
  exact ⟨rfl, rfl⟩
theorem heldP_none (k : Int) (w : World) : Calls Try.prog 18 #[.slice none 0 0, .int .i64 k] w fun e w' => e = .returned (.int .i64 k) ∧ w' = w := by
  go_enter Try.func18, Try.ntmps18
  go_wp2
  refine wp_loop_rounds 1 ?_
  rw [rounds_succ]
  go_wp2
  go_ret
  exact ⟨rfl, rfl⟩
theorem markS_none (k : Int) (w : World) : Calls Try.prog 15 #[.slice none 0 0, .int .i64 k] w fun e w' => e = .returned (.int .i64 k) ∧ w' = w := by
  go_enter Try.func15, Try.ntmps15
  go_wp2
  refine wp_loop_rounds 1 ?_
  rw [rounds_succ]
  go_wp2
  go_ret
  exact ⟨rfl, rfl⟩
end Go.Proofs.Ytgfgaiimigchkaa
