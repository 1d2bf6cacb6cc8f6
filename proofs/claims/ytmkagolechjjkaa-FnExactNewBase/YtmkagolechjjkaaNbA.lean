/- New bases: made, compared, marked, held (stage 7). -/
import Derived.Test.YtmkagolechjjkaaBase
import Derived.Deep.RegionHeld3
namespace Go.Proofs.Ytmkagolechjjkaa
open Go.RowKit

theorem set_other {w : World} {p : Addr} {g : Nat} (v : Value) (h : p.block ≠ g) : (w.setCell p v).heap[g]? = w.heap[g]? := by
  simp [World.setCell, Array.getElem?_modify, h]
/-- All blocks but those of S stand. -/
structure Kept (S : Nat → Prop) (w w' : World) : Prop where
  os : w'.os = w.os
  tape : w'.tape = w.tape
  output : w'.output = w.output
  size : w.heap.size ≤ w'.heap.size
  block : ∀ k, k < w.heap.size → ¬ S k → w'.heap[k]? = w.heap[k]?
theorem Kept.refl (S : Nat → Prop) (w : World) : Kept S w w := ⟨rfl, rfl, rfl, Nat.le_refl _, fun _ _ _ => rfl⟩
theorem Kept.trans {S : Nat → Prop} {w w1 w2 : World} (h : Kept S w w1) (h' : Kept S w1 w2) : Kept S w w2 :=
  ⟨h'.os.trans h.os, h'.tape.trans h.tape, h'.output.trans h.output, Nat.le_trans h.size h'.size, fun k hk hS => (h'.block k (Nat.lt_of_lt_of_le hk h.size) hS).trans (h.block k hk hS)⟩
theorem Kept.mono {S S' : Nat → Prop} {w w1 : World} (h : Kept S w w1) (hS : ∀ k, S k → S' k) : Kept S' w w1 := ⟨h.os, h.tape, h.output, h.size, fun k hk hn => h.block k hk fun h' => hn (hS k h')⟩
theorem Kept.of_below {S : Nat → Prop} {w w1 : World} (h : Below w.heap.size w w1) : Kept S w w1 := ⟨h.os, h.tape, h.output, h.size, fun k hk _ => h.block k hk⟩
theorem Kept.below {S : Nat → Prop} {B : Nat} {w w1 : World} (h : Kept S w w1) (hB : B ≤ w.heap.size) (hS : ∀ k, S k → B ≤ k) : Below B w w1 :=
  ⟨h.os, h.tape, h.output, h.size, fun k hk => h.block k (by omega) fun h' => by have := hS k h'; omega⟩
theorem Kept.alloc {S : Nat → Prop} {w w1 : World} (h : Kept S w w1) (o : Obj) : Kept S w (w1.alloc o) := h.trans (Kept.of_below ((Below.refl _ _).alloc (Nat.le_refl _) _))
theorem Kept.set {S : Nat → Prop} {w w1 : World} {g o : Nat} (h : Kept S w w1) (v : Value) (hg : S g) : Kept S w (w1.setCell ⟨g, o, none⟩ v) :=
  h.trans ⟨rfl, rfl, rfl, by simp [World.setCell], fun k _ hk => set_other v (fun e => hk (e ▸ hg))⟩

theorem below_draw {w : World} : Below w.heap.size w w.drew := ⟨rfl, rfl, rfl, Nat.le_refl _, fun _ _ => rfl⟩
theorem keepBlk {w w' : World} {B g : Nat} {o : Obj} (h : w.heap[g]? = some o) (hb : Below B w w') (hg : g < B) : w'.heap[g]? = some o := (hb.block g hg).trans h
set_option maxRecDepth 100000 in
theorem eqW_nil (a b : Option Addr) (c d : Nat) (w : World) : Calls Try.prog 68 #[.slice a 0 c, .slice b 0 d] w fun e w' => e = .returned (.bool true) ∧ w' = w := by
  go_enter Try.func68, Try.ntmps68
  go_wp2
  refine wp_loop_rounds 1 ?_
  rw [rounds_succ]
  go_wp2
  go_ret
  exact ⟨rfl, rfl⟩
set_option maxRecDepth 100000 in
theorem eqV_nil (a b : Option Addr) (c d : Nat) (w : World) : Calls Try.prog 27 #[.slice a 0 c, .slice b 0 d] w fun e w' => e = .returned (.bool true) ∧ w' = w := by
  go_enter Try.func27, Try.ntmps27
  go_wp2
  refine wp_loop_rounds 1 ?_
  rw [rounds_succ]
  go_wp2
  go_ret
  exact ⟨rfl, rfl⟩
set_option maxRecDepth 100000 in
theorem markV_nil (a : Option Addr) (c : Nat) (k : Int) (w : World) : Calls Try.prog 29 #[.slice a 0 c, .int .i64 k] w fun e w' => e = .returned (.int .i64 k) ∧ w' = w := by
  go_enter Try.func29, Try.ntmps29
  go_wp2
  refine wp_loop_rounds 1 ?_
  rw [rounds_succ]
  go_wp2
  go_ret
  exact ⟨rfl, rfl⟩
set_option maxRecDepth 100000 in
theorem heldV_nil (a : Option Addr) (c : Nat) (k : Int) (w : World) : Calls Try.prog 31 #[.slice a 0 c, .int .i64 k] w fun e w' => e = .returned (.int .i64 k) ∧ w' = w := by
  go_enter Try.func31, Try.ntmps31
  go_wp2
  refine wp_loop_rounds 1 ?_
  rw [rounds_succ]
  go_wp2
  go_ret
  exact ⟨rfl, rfl⟩
set_option maxRecDepth 100000 in
theorem markW_nil (a : Option Addr) (c : Nat) (k : Int) (w : World) : Calls Try.prog 56 #[.slice a 0 c, .int .i64 k] w fun e w' => e = .returned (.int .i64 k) ∧ w' = w := by
  go_enter Try.func56, Try.ntmps56
  go_wp2
  refine wp_loop_rounds 1 ?_
  rw [rounds_succ]
  go_wp2
  go_ret
  exact ⟨rfl, rfl⟩
set_option maxRecDepth 100000 in
theorem heldW_nil (a : Option Addr) (c : Nat) (k : Int) (w : World) : Calls Try.prog 57 #[.slice a 0 c, .int .i64 k] w fun e w' => e = .returned (.int .i64 k) ∧ w' = w := by
  go_enter Try.func57, Try.ntmps57
  go_wp2
  refine wp_loop_rounds 1 ?_
  rw [rounds_succ]
  go_wp2
  go_ret
  exact ⟨rfl, rfl⟩

/-- A base as a value. -/
abbrev BV (t : Int) (v x : Value) : Value := .agg #[.int .i64 t, v, x]
abbrev Z12 : Array Value := #[.bool false, .int .i64 0, .slice none 0 0, .bool false, .int .i64 0, .slice none 0 0, .bool false, .int .i64 0, .slice none 0 0, .bool false, .int .i64 0, .slice none 0 0]
abbrev XV (g : Nat) : Value := .slice (some ⟨g, 0, none⟩) 4 4
theorem info62 : (Try.prog.info? 62).map (fun i => (i.zero, i.size, i.bytes)) = some (some (.agg #[.bool false, .int .i64 0, .slice none 0 0]), 3, 40) := by kernel_rfl
theorem made12 {w : World} {B g : Nat} (h : w.ownsRow B 62 3 (XV g) 4 (madeCells #[.bool false, .int .i64 0, .slice none 0 0] (4 * 3)).toList) : B ≤ g ∧ w.heap[g]? = some (.cells Z12 62 (0, 0)) := by
  rcases h.2 with ⟨h, _⟩ | ⟨g', c, cur, h, hB, hh, _, _, hcs, ht⟩
  · cases h
  · cases h
    refine ⟨hB, ?_⟩
    have e : cur = Z12 := by
      apply Array.ext'
      rw [← List.take_of_length_le (l := cur.toList) (i := 4 * 3) (by simp [hcs]), ht]
      kernel_rfl
    rw [hh, e]

set_option maxRecDepth 100000 in
theorem implNew_any (w : World) : Calls Try.prog 9 #[] w fun e w' => ∃ g, e = .returned (BV 0 (.slice none 0 0) (XV g)) ∧ w.heap.size ≤ g ∧ w'.heap[g]? = some (.cells Z12 62 (0, 0)) ∧ Below w.heap.size w w' := by
  obtain ⟨i0, hi, hz0, hz1, hz2⟩ := info_parts info62
  go_enter Try.func9, Try.ntmps9
  go_wp2_with (at_make; refine wpList_make_full _ rfl _ _ 23 rfl (w.heap.size + 1) 62 i0 _ 3 Try.underlying23 hi hz0 hz1 .i64 .i64 _ _ 4 rfl rfl rfl rfl ?m1 ?m2 (by simp) ?_)
  case m1 => rw [hz2]; omega
  case m2 => unfold maxLen; omega
  intro w1 hown hgr
  have b0 : Below w.heap.size w (w.alloc (.cells #[.int .i64 0, .slice none 0 0, .slice none 0 0] 25)) := (Below.refl _ _).alloc (Nat.le_refl _) _
  have b1 : Below w.heap.size w w1 := b0.grown hgr b0.size (fun k hk => by cases hk)
  have x0 : w1.heap[w.heap.size]? = some (.cells #[.int .i64 0, .slice none 0 0, .slice none 0 0] 25 (0, 0)) := (hgr.block _ (by simp) (by simp)).trans (heap_new' _ _ _ rfl)
  have HM : Hid (w1.heap[w.heap.size + 1]? = some (.cells Z12 62 (0, 0))) := (made12 hown).2
  have c0 : w1.cell? ⟨w.heap.size, 0, none⟩ = some (.int .i64 0) := by simp [World.cell?, x0]
  have c1 : w1.cell? ⟨w.heap.size, 1, none⟩ = some (.slice none 0 0) := by simp [World.cell?, x0]
  have c2 : w1.cell? ⟨w.heap.size, 2, none⟩ = some (.slice none 0 0) := by simp [World.cell?, x0]
  have f0 : ∀ o, w1.frozen? ⟨w.heap.size, o, none⟩ = false := fun o => slab_free x0
  clear hown hgr x0 b0
  go_wp2
  refine bodyPost_ret (v := BV 0 (.slice none 0 0) (XV (w.heap.size + 1))) (by go_simp; simp [results, Try.results9, go_sem, c0, c1, c2]) rfl ⟨_, rfl, by omega, ?_, ?_⟩
  · rw [Below.heap_setCell _ _ _ _ (by simp), Below.heap_setCell _ _ _ _ (by simp), Below.heap_setCell _ _ _ _ (by simp)]
    exact HM.out
  · exact ((b1.setCell (p := ⟨w.heap.size, 0, none⟩) (Nat.le_refl _) _).setCell (p := ⟨w.heap.size, 1, none⟩) (Nat.le_refl _) _).setCell (p := ⟨w.heap.size, 2, none⟩) (Nat.le_refl _) _
set_option maxRecDepth 100000 in
theorem specNew0 (w : World) : Calls Try.prog 26 #[] w fun e w' => ∃ a c g, e = .returned (BV 0 (.slice a 0 c) (XV g)) ∧ w.heap.size ≤ g ∧ w'.heap[g]? = some (.cells Z12 62 (0, 0)) ∧ Below w.heap.size w w' := by
  obtain ⟨i0, hi, hz0, hz1, hz2⟩ := info_parts info62
  go_enter Try.func26, Try.ntmps26
  go_wp2_with (at_make; refine wpList_make_full _ rfl _ _ 23 rfl (w.heap.size + 1) 62 i0 _ 3 Try.underlying23 hi hz0 hz1 .i64 .i64 _ _ 4 rfl rfl rfl rfl ?m1 ?m2 (by simp) ?_)
  case m1 => rw [hz2]; omega
  case m2 => unfold maxLen; omega
  intro w1 hown hgr
  have b0 : Below w.heap.size w ((w.alloc (.cells #[.int .i64 0, .slice none 0 0, .slice none 0 0] 25)).alloc (.cells #[] 57)) := ((Below.refl _ _).alloc (Nat.le_refl _) _).alloc (by simp) _
  have b1 : Below w.heap.size w w1 := b0.grown hgr b0.size (fun k hk => by cases hk)
  have x0 : w1.heap[w.heap.size]? = some (.cells #[.int .i64 0, .slice none 0 0, .slice none 0 0] 25 (0, 0)) := (hgr.block _ (by simp; omega) (by simp)).trans ((heap_old _ _ _ (by simp)).trans (heap_new' _ _ _ rfl))
  have HM : Hid (w1.heap[w.heap.size + 1 + 1]? = some (.cells Z12 62 (0, 0))) := (made12 hown).2
  have c0 : w1.cell? ⟨w.heap.size, 0, none⟩ = some (.int .i64 0) := by simp [World.cell?, x0]
  have c1 : w1.cell? ⟨w.heap.size, 1, none⟩ = some (.slice none 0 0) := by simp [World.cell?, x0]
  have c2 : w1.cell? ⟨w.heap.size, 2, none⟩ = some (.slice none 0 0) := by simp [World.cell?, x0]
  have f0 : ∀ o, w1.frozen? ⟨w.heap.size, o, none⟩ = false := fun o => slab_free x0
  clear hown hgr x0 b0
  go_wp2
  refine bodyPost_ret (v := BV 0 (.slice (some ⟨w.heap.size + 1, 0, none⟩) 0 0) (XV (w.heap.size + 1 + 1))) (by go_simp; simp [results, Try.results26, go_sem, c0, c1, c2]) rfl ⟨_, _, _, rfl, by omega, ?_, ?_⟩
  · rw [Below.heap_setCell _ _ _ _ (by simp; omega), Below.heap_setCell _ _ _ _ (by simp; omega), Below.heap_setCell _ _ _ _ (by simp; omega)]
    exact HM.out
  · exact ((b1.setCell (p := ⟨w.heap.size, 0, none⟩) (Nat.le_refl _) _).setCell (p := ⟨w.heap.size, 1, none⟩) (Nat.le_refl _) _).setCell (p := ⟨w.heap.size, 2, none⟩) (Nat.le_refl _) _
set_option maxRecDepth 100000 in
theorem specNew_any (w : World) : Calls Try.prog 8 #[] w fun e w' => ∃ a c g, e = .returned (BV 0 (.slice a 0 c) (XV g)) ∧ w.heap.size ≤ g ∧ w'.heap[g]? = some (.cells Z12 62 (0, 0)) ∧ Below w.heap.size w w' := by
  obtain ⟨W0, hW0⟩ : ∃ W0, w.alloc (.cells #[.int .i64 0, .slice none 0 0, .slice none 0 0] 25) = W0 := ⟨_, rfl⟩
  have b0 : Below w.heap.size w W0 := hW0 ▸ (Below.refl _ _).alloc (Nat.le_refl _) _
  have X0 : Hid (W0.heap[w.heap.size]? = some (.cells #[.int .i64 0, .slice none 0 0, .slice none 0 0] 25 (0, 0))) := (hW0 ▸ heap_new' _ _ _ rfl : W0.heap[w.heap.size]? = _)
  have z0 : W0.heap.size = w.heap.size + 1 := by rw [← hW0]; simp
  go_enter Try.func8, Try.ntmps8
  go_wp2_with fail
  refine (specNew0 W0).mono ?_
  rintro e w1 ⟨a, c, g, rfl, hg, hh, b1⟩
  have x0 := keepBlk X0.out b1 (slab_lt X0.out)
  have bw : Below w.heap.size w w1 := b0.trans (b1.mono b0.size)
  have HM : Hid (w1.heap[g]? = some (.cells Z12 62 (0, 0))) := hh
  have c0 : w1.cell? ⟨w.heap.size, 0, none⟩ = some (.int .i64 0) := by simp [World.cell?, x0]
  have c1 : w1.cell? ⟨w.heap.size, 1, none⟩ = some (.slice none 0 0) := by simp [World.cell?, x0]
  have c2 : w1.cell? ⟨w.heap.size, 2, none⟩ = some (.slice none 0 0) := by simp [World.cell?, x0]
  have f0 : ∀ o, w1.frozen? ⟨w.heap.size, o, none⟩ = false := fun o => slab_free x0
  clear x0 b1 hh hW0 b0
  go_wp2
  refine bodyPost_ret (v := BV 0 (.slice a 0 c) (XV g)) (by go_simp; simp [results, Try.results8, go_sem, c0, c1, c2]) rfl ⟨_, _, _, rfl, by omega, ?_, ?_⟩
  · rw [Below.heap_setCell _ _ _ _ (by simp; omega), Below.heap_setCell _ _ _ _ (by simp; omega), Below.heap_setCell _ _ _ _ (by simp; omega)]
    exact HM.out
  · exact ((bw.setCell (p := ⟨w.heap.size, 0, none⟩) (Nat.le_refl _) _).setCell (p := ⟨w.heap.size, 1, none⟩) (Nat.le_refl _) _).setCell (p := ⟨w.heap.size, 2, none⟩) (Nat.le_refl _) _

theorem eqTx_zero (w : World) : Calls Try.prog 55 #[.agg #[.bool false, .int .i64 0, .slice none 0 0], .agg #[.bool false, .int .i64 0, .slice none 0 0]] w fun e w' => e = .returned (.bool true) ∧ Below w.heap.size w w' := by
  go_enter Try.func55, Try.ntmps55
  go_wp2_with fail
  refine (eqW_nil none none 0 0 _).mono ?_
  rintro e w1 ⟨rfl, hq⟩
  obtain rfl := hq.symm
  go_wp2
  go_ret
  exact ⟨rfl, ((Below.refl _ _).alloc (Nat.le_refl _) _).alloc (by simp) _⟩
/-- A transaction in a row: nothing. -/
abbrev Cell3 (w : World) (g o : Nat) : Prop := w.cell? ⟨g, o, none⟩ = some (.bool false) ∧ w.cell? ⟨g, o + 1, none⟩ = some (.int .i64 0) ∧ w.cell? ⟨g, o + 2, none⟩ = some (.slice none 0 0)
theorem cell3_z {w : World} {g : Nat} (h : w.heap[g]? = some (.cells Z12 62 (0, 0))) (k : Nat) (hk : k < 4) : Cell3 w g (k * 3) := by
  rcases (show k = 0 ∨ k = 1 ∨ k = 2 ∨ k = 3 by omega) with rfl | rfl | rfl | rfl <;> exact ⟨by simp [World.cell?, h], by simp [World.cell?, h], by simp [World.cell?, h]⟩
abbrev Pair3 (w : World) (g g' o : Nat) (w' : World) : Prop := Cell3 w' g o ∧ Cell3 w' g' o ∧ g < w'.heap.size ∧ g' < w'.heap.size ∧ Below w.heap.size w w'
theorem Cell3.below {w w' : World} {g o : Nat} (h : Cell3 w g o) (hl : g < w.heap.size) (hb : Below w.heap.size w w') : Cell3 w' g o := ⟨(hb.cell (p := ⟨g, o, none⟩) hl).trans h.1, (hb.cell (p := ⟨g, o + 1, none⟩) hl).trans h.2.1, (hb.cell (p := ⟨g, o + 2, none⟩) hl).trans h.2.2⟩
theorem Pair3.keep {w : World} {g g' o : Nat} {w1 w2 : World} (h : Pair3 w g g' o w1) (hb : Below w1.heap.size w1 w2) : Pair3 w g g' o w2 := ⟨h.1.below h.2.2.1 hb, h.2.1.below h.2.2.2.1 hb, Nat.lt_of_lt_of_le h.2.2.1 hb.size, Nat.lt_of_lt_of_le h.2.2.2.1 hb.size, below_step h.2.2.2.2 (Nat.le_refl _) hb⟩

set_option maxRecDepth 100000 in
set_option maxHeartbeats 2000000 in
theorem eqTxS_zero (g g' : Nat) (w : World) (h : w.heap[g]? = some (.cells Z12 62 (0, 0))) (h' : w.heap[g']? = some (.cells Z12 62 (0, 0))) : Calls Try.prog 28 #[XV g, XV g'] w fun e w' => e = .returned (.bool true) ∧ Below w.heap.size w w' := by
  have H : Hid (w.heap[g]? = some (.cells Z12 62 (0, 0)) ∧ w.heap[g']? = some (.cells Z12 62 (0, 0))) := ⟨h, h'⟩
  clear h h'
  go_enter Try.func28, Try.ntmps28
  go_wp2
  go_loopw [5] (fun i wr => ∃ k : Nat, k ≤ 4 ∧ i = .int .i64 k ∧ Below w.heap.size w wr) (fun i _ => 4 - (intOf i).toNat)
  case atStart => exact ⟨0, by omega, rfl, Below.refl _ _⟩
  case round =>
    obtain ⟨k, hk, rfl, bl⟩ := hrel
    by_cases hlt : k < 4
    · have hltI : (k : Int) < 4 := by omega
      have l1 := keepBlk H.out.1 bl (slab_lt H.out.1)
      have l2 := keepBlk H.out.2 bl (slab_lt H.out.2)
      have hP : Pair3 w g g' (k * 3) wr.drew := ⟨cell3_z l1 k hlt, cell3_z l2 k hlt, slab_lt l1, slab_lt l2, bl.drew⟩
      clear l1 l2
      go_wp2_with fail
      go_region_held3 (Pair3 w g g' (k * 3)) (first | exact hP | exact Pair3.keep (by assumption) hb) (first | (go_at_call 55; refine (eqTx_zero _).mono ?_; rintro e wA ⟨rfl, hb⟩) | fail)
      rename_i hPL
      have hB := hPL.2.2.2.2
      clear hP hPL
      go_wp2
      go_roundw
      case rel => exact ⟨k + 1, by omega, by go_num, hB⟩
      case measure => simp [intOf]; omega
    · go_wp2
      go_ret
      exact ⟨rfl, bl⟩
end Go.Proofs.Ytmkagolechjjkaa
