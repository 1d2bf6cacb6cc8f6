/- Marks on bytes: what was written is read again; what is owned, and what none but itself changes. -/
import Derived.Test.YtjiehohfbddpcaaSlE
namespace Go.Proofs.Ytjiehohfbddpcaa
open Go.RowKit

/-- All old blocks but b are as they were. -/
structure But (b : Nat) (w w' : World) : Prop where
  os : w'.os = w.os
  tape : w'.tape = w.tape
  output : w'.output = w.output
  size : w.heap.size ≤ w'.heap.size
  block : ∀ k, k < w.heap.size → k ≠ b → w'.heap[k]? = w.heap[k]?
theorem But.refl (b : Nat) (w : World) : But b w w := ⟨rfl, rfl, rfl, Nat.le_refl _, fun _ _ _ => rfl⟩
theorem But.setCell {b : Nat} {w w' : World} (h : But b w w') (o : Nat) (v : Value) : But b w (w'.setCell ⟨b, o, none⟩ v) :=
  ⟨h.os, h.tape, h.output, by simpa [World.setCell] using h.size, fun k hk hb => (Below.heap_setCell _ _ _ _ hb).trans (h.block k hk hb)⟩
theorem But.below {b B : Nat} {w w1 w2 : World} (h : But b w1 w2) (hb : Below B w w1) (hB : B ≤ b) (hs : B ≤ w1.heap.size) : Below B w w2 :=
  ⟨h.os.trans hb.os, h.tape.trans hb.tape, h.output.trans hb.output, Nat.le_trans hb.size h.size, fun k hk => (h.block k (by omega) (by omega)).trans (hb.block k hk)⟩

theorem SlabL.own {w : World} {g : Nat} {l : List UInt8} (h : SlabL w g l l.length) (hm : l.length ≤ 1048576) {B : Nat} (hB : B ≤ g := by exact Nat.le_refl _) : OwnL w B (.slice (some ⟨g, 0, none⟩) l.length l.length) l := by
  obtain ⟨cur, hh, hs, hc⟩ := h
  exact ⟨g, l.length, cur, (0, 0), rfl, hB, hh, .inl rfl, Nat.le_refl _, by unfold maxLen; omega, hs, hc⟩
set_option maxRecDepth 100000 in
set_option maxHeartbeats 2000000 in
theorem toB_own (a : Option Addr) (cap : Nat) (l : List UInt8) (w : World) (h : ReadL w a l) (hn : l.length ≤ 1048576) :
    Calls Try.prog 6 #[.slice a l.length cap] w fun e w' => ∃ g, e = .returned (.slice (some ⟨g, 0, none⟩) l.length l.length) ∧ OwnL w' w.heap.size (.slice (some ⟨g, 0, none⟩) l.length l.length) l ∧ Below w.heap.size w w' := by
  have HR : Hid (ReadL w a l) := h
  clear h
  obtain ⟨n, hl⟩ : ∃ n, l.length = n := ⟨_, rfl⟩
  have HL : Hid (l.length = n) := hl
  rw [hl] at hn ⊢
  clear hl
  obtain ⟨i0, hi, hz0, hz1, hz2⟩ := info_parts info5
  go_enter Try.func6, Try.ntmps6
  go_wp2_with (at_make; refine wpList_make_full _ rfl _ _ 22 rfl w.heap.size 5 i0 _ 1 Try.underlying22 hi hz0 hz1 .i64 .i64 _ _ n rfl rfl rfl rfl ?m1 ?m2 (Nat.le_refl _) ?_)
  case m1 => rw [hz2]; omega
  case m2 => unfold maxLen; omega
  intro w1 hown hgr
  have hB1 : Below w.heap.size w w1 := (Below.refl _ _).grown hgr (Nat.le_refl _) (fun k hk => by cases hk)
  have hS : SlabL w1 w.heap.size l 0 := by
    rcases hown.2 with ⟨h, _⟩ | ⟨g, c, cur, h, _, hh, _, _, hcs, _⟩
    · cases h
    · cases h
      exact ⟨cur, hh, by rw [HL.out]; omega, fun i hi => by omega⟩
  clear hown hgr hi hz0 hz1 hz2
  go_wp2
  go_loopw [4] (fun i wr => ∃ k : Nat, k ≤ n ∧ i = .int .i64 k ∧ SlabL wr w.heap.size l k ∧ Below w.heap.size w wr) (fun i _ => n - (intOf i).toNat)
  case atStart => exact ⟨0, by omega, rfl, hS, hB1⟩
  case round =>
    obtain ⟨k, hk, rfl, hSk, hbl⟩ := hrel
    by_cases hlt : k < n
    · obtain ⟨b, off, rfl, hlb, hc⟩ := (HR.out.below hbl) k (by rw [HL.out]; exact hlt)
      have hltI : (k : Int) < (n : Int) := by omega
      have hcell : ∃ v, wr.cell? ⟨w.heap.size, k, none⟩ = some v := by
        obtain ⟨cur, hh, hs, _⟩ := hSk
        have := HL.out
        exact ⟨cur[k]'(by omega), by rw [slab_cell hh]; exact Array.getElem?_eq_getElem _⟩
      obtain ⟨v, hv⟩ := hcell
      have hfz : wr.frozen? ⟨w.heap.size, k, none⟩ = false := by obtain ⟨cur, hh, _⟩ := hSk; exact slab_free hh
      have HS : Hid (SlabL (wr.setCell ⟨w.heap.size, k, none⟩ (.int .u8 (byU l k))) w.heap.size l (k + 1)) := hSk.step (by rw [HL.out]; exact hlt)
      have hB2 : Below w.heap.size w (wr.setCell ⟨w.heap.size, k, none⟩ (.int .u8 (byU l k))) := hbl.setCell (p := ⟨w.heap.size, k, none⟩) (Nat.le_refl _) _
      generalize hfk : byU l k = u at *
      clear hSk hS hfk
      go_wp2
      go_roundw
      case rel => exact ⟨k + 1, by omega, by go_num, HS.out, hB2⟩
      case measure => simp [intOf]; omega
    · obtain rfl : k = n := by omega
      have HS : Hid (SlabL wr w.heap.size l l.length) := by rw [HL.out]; exact hSk
      clear hSk hS
      go_wp2
      go_ret
      refine ⟨_, rfl, ?_, hbl⟩
      rw [← HL.out]
      exact HS.out.own (by rw [HL.out]; omega)


theorem toB_n (a : Option Addr) (cap n : Nat) (l : List UInt8) (w : World) (h : ReadL w a l) (hl : Hid (l.length = n)) (hn : n ≤ 1048576) :
    Calls Try.prog 6 #[.slice a n cap] w fun e w' => ∃ g, e = .returned (.slice (some ⟨g, 0, none⟩) n n) ∧ OwnL w' w.heap.size (.slice (some ⟨g, 0, none⟩) n n) l ∧ Below w.heap.size w w' := by
  have e := hl.out
  subst e
  exact toB_own a cap l w h hn
theorem eqB_n (a1 a2 : Option Addr) (c1 c2 n : Nat) (l : List UInt8) (w : World) (h1 : ReadL w a1 l) (h2 : ReadL w a2 l) (hl : Hid (l.length = n)) (hn : n ≤ 1048576) :
    Calls Try.prog 8 #[.slice a1 n c1, .slice a2 n c2] w fun e w' => e = .returned (.bool true) ∧ Below w.heap.size w w' := by
  have e := hl.out
  subst e
  exact eqB_same a1 a2 c1 c2 l w h1 h2 (by omega)

/-- The marks that markByteS lays. -/
def markU (k : Int) (n : Nat) : List UInt8 := (List.range n).map fun i : Nat => b8 (k + (i : Int))
theorem markU_len (k : Int) (n : Nat) : (markU k n).length = n := by simp [markU]
theorem markU_at (k : Int) (n i : Nat) (h : i < n) : byU (markU k n) i = (k + i) % 256 := by
  unfold byU markU
  rw [List.getD_eq_getElem?_getD, List.getElem?_map, List.getElem?_range h]
  exact b8_nat _

/-- The first j bytes of the block are marked. -/
def MarkK (w : World) (g n size : Nat) (fz : Nat × Nat) (k0 : Int) (j : Nat) : Prop :=
  ∃ cur, w.heap[g]? = some (.cells cur 5 fz) ∧ cur.size = size ∧ n ≤ size ∧ ∀ i, i < j → cur[i]? = some (.int .u8 ((k0 + i) % 256))
theorem MarkK.step {w : World} {g n size j : Nat} {fz : Nat × Nat} {k0 : Int} (h : MarkK w g n size fz k0 j) (hj : j < n) (v : Int) (hv : v = (k0 + j) % 256) : MarkK (w.setCell ⟨g, j, none⟩ (.int .u8 v)) g n size fz k0 (j + 1) := by
  subst hv
  obtain ⟨cur, hh, hs, hn, hc⟩ := h
  refine ⟨_, row_set hh _, by simpa using hs, hn, fun i hi' => ?_⟩
  by_cases e : i = j
  · subst e
    rw [Array.getElem?_setIfInBounds_self_of_lt (by omega)]
  · rw [Array.getElem?_setIfInBounds_ne (by omega)]; exact hc i (by omega)

set_option maxRecDepth 100000 in
set_option maxHeartbeats 2000000 in
theorem mark_own (g cap n B : Nat) (l : List UInt8) (w : World) (h : OwnL w B (.slice (some ⟨g, 0, none⟩) n cap) l) (hn : n ≤ 1048576) :
    Calls Try.prog 9 #[.slice (some ⟨g, 0, none⟩) n cap, .int .i64 1] w fun e w' => e = .returned (.int .i64 (1 + n)) ∧ OwnL w' B (.slice (some ⟨g, 0, none⟩) n cap) (markU 1 n) ∧ But g w w' := by
  obtain ⟨g', cap', cur, fz, e, hB, hh, hfr, hlc, hcm, hs, hc⟩ := h
  obtain ⟨rfl, hn', rfl⟩ : g = g' ∧ n = l.length ∧ cap = cap' := by cases e; exact ⟨rfl, rfl, rfl⟩
  clear e
  rw [← hn'] at hlc
  have hM : MarkK w g n cap fz 1 0 := ⟨cur, hh, hs, hlc, fun i hi => by omega⟩
  have HF : Hid ((fz.2 = 0 ∨ cap ≤ fz.1) ∧ n ≤ cap ∧ cap ≤ maxLen ∧ B ≤ g) := ⟨hfr, hlc, hcm, hB⟩
  clear hh hc hs hn' hfr hlc hcm hB
  go_enter Try.func9, Try.ntmps9
  go_wp2
  go_loopw [1, 5] (fun kk i wr => ∃ j : Nat, j ≤ n ∧ i = .int .i64 j ∧ kk = .int .i64 (1 + j) ∧ MarkK wr g n cap fz 1 j ∧ But g w wr) (fun _ i _ => n - (intOf i).toNat)
  case atStart => exact ⟨0, by omega, rfl, by go_num, hM, But.refl _ _⟩
  case round =>
    obtain ⟨j, hj, rfl, rfl, hMj, hB⟩ := hrel
    by_cases hlt : j < n
    · have hltI : (j : Int) < (n : Int) := by omega
      have hcell : ∃ v, wr.cell? ⟨g, j, none⟩ = some v := by
        obtain ⟨cur, hh, hs', hn', _⟩ := hMj
        exact ⟨cur[j]'(by omega), by rw [row_cell hh]; exact Array.getElem?_eq_getElem _⟩
      obtain ⟨v, hv⟩ := hcell
      have hf : wr.frozen? ⟨g, j, none⟩ = false := by obtain ⟨cur, hh, _⟩ := hMj; exact row_free hh (by have := HF.out; omega)
      have HM : Hid (MarkK wr g n cap fz 1 j) := hMj
      clear hMj hM
      go_wp2
      go_roundw
      case rel => exact ⟨j + 1, by omega, by go_num, by go_num, HM.out.step hlt _ rfl, hB.setCell j _⟩
      case measure => simp [intOf]; omega
    · have e : j = n := by omega
      subst e
      go_wp2
      go_ret
      obtain ⟨cur, hh, hs', hn', hc'⟩ := hMj
      obtain ⟨h1, h2, h3, h4⟩ := HF.out
      refine ⟨rfl, ⟨g, cap, cur, fz, by rw [markU_len], h4, hh, h1, by rw [markU_len]; exact h2, h3, hs', fun i hi => ?_⟩, hB⟩
      rw [markU_len] at hi
      rw [markU_at _ _ _ hi]
      exact hc' i hi

set_option maxRecDepth 100000 in
set_option maxHeartbeats 1000000 in
theorem held_any (a : Option Addr) (cap n : Nat) (w : World) (h : ReadL w a (markU 1 n)) (hn : n ≤ 1048576) :
    Calls Try.prog 10 #[.slice a n cap, .int .i64 1] w fun e w' => e = .returned (.int .i64 (1 + n)) ∧ w' = w := by
  have H1 : Hid (ReadL w a (markU 1 n)) := h
  clear h
  go_enter Try.func10, Try.ntmps10
  go_wp2
  go_loop [1, 5] (fun kk i => ∃ j : Nat, j ≤ n ∧ i = .int .i64 j ∧ kk = .int .i64 (1 + j)) (fun _ i => n - (intOf i).toNat)
  case atStart => exact ⟨0, by omega, rfl, by go_num⟩
  case round =>
    obtain ⟨j, hj, rfl, rfl⟩ := hrel
    by_cases hlt : j < n
    · obtain ⟨b, off, rfl, _, hc⟩ := H1.out j (by rw [markU_len]; exact hlt)
      have hltI : (j : Int) < (n : Int) := by omega
      rw [markU_at _ _ _ hlt] at hc
      go_wp2
      go_round
      case rel => exact ⟨j + 1, by omega, by go_num, by go_num⟩
      case measure => simp [intOf]; omega
    · have e : j = n := by omega
      subst e
      go_wp2
      go_ret
      exact ⟨rfl, rfl⟩
end Go.Proofs.Ytjiehohfbddpcaa
