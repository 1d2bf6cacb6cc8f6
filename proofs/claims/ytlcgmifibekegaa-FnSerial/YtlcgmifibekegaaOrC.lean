/- The search of an order, with a jump back: impl (stage 8). -/
import Derived.Test.YtlcgmifibekegaaOrB
import Derived.Test.YtlcgmifibekegaaCfE
import Derived.ScopeJumps
import Derived.WalkMore
namespace Go.Proofs.Ytlcgmifibekegaa
open Go.RowKit

/-- Node i may come next. -/
def CandI (lf : Nat → Bool) (ah : Nat → Nat → Bool) (i : Nat) : Prop := lf i = true ∧ comB lf (ah i) = false
/-- The flags without k. -/
def offI (lf : Nat → Bool) (k i : Nat) : Bool := if i = k then false else lf i
theorem offI_at (lf : Nat → Bool) (k : Nat) : offI lf k k = false := if_pos rfl
theorem offI_oth (lf : Nat → Bool) {k j : Nat} (h : j ≠ k) : offI lf k j = lf j := if_neg h
theorem set_othX {w : World} {g b o : Nat} {v : Value} (h : b ≠ g) : (w.setCell ⟨g, o, none⟩ v).heap[b]? = w.heap[b]? := by
  simp [World.setCell, Array.getElem?_modify, Ne.symm h]
/-- L has come so far, those of lf are left. -/
inductive SrI (zs : List Int) (es : List P2) (ah : Nat → Nat → Bool) (n : Nat) : (Nat → Bool) → List Int → Prop
  | start : SrI zs es ah n (fun i => decide (i < n)) []
  | more {lf : Nat → Bool} {L : List Int} {k : Nat} {z : Int} : SrI zs es ah n lf L → nthI zs k = z → k < n → CandI lf ah k → (∀ i, i < k → ¬ CandI lf ah i) → SrI zs es ah n (offI lf k) (L ++ [z])
theorem SrI.step {zs : List Int} {es : List P2} {ah : Nat → Nat → Bool} {n : Nat} {lf : Nat → Bool} {L : List Int} {k : Nat} {z : Int} (h : SrI zs es ah n lf L) (hz : nthI zs k = z) (hk : k < n) (hc : CandI lf ah k) (hn : ∀ i, i < k → ¬ CandI lf ah i) : SrI zs es ah n (offI lf k) (L ++ [z]) := .more h hz hk hc hn
theorem cnt_off {lf : Nat → Bool} {k : Nat} (hl : lf k = true) : ∀ n, k < n → ((List.range n).filter (offI lf k)).length + 1 = ((List.range n).filter lf).length
  | 0, h => by omega
  | n + 1, h => by
    rw [List.range_succ, List.filter_append, List.filter_append, List.length_append, List.length_append]
    by_cases e : n = k
    · subst e
      have e1 : (List.range n).filter (offI lf n) = (List.range n).filter lf := List.filter_congr (fun x hx => offI_oth lf (by have := List.mem_range.1 hx; omega))
      rw [e1]
      simp [offI_at, hl]
    · have ih := cnt_off hl n (by omega)
      have e1 : offI lf k n = lf n := offI_oth lf e
      simp only [List.filter_cons, e1, List.filter_nil]
      omega
theorem SrI.len {zs : List Int} {es : List P2} {ah : Nat → Nat → Bool} {n : Nat} {lf : Nat → Bool} {L : List Int} (h : SrI zs es ah n lf L) : L.length + ((List.range n).filter lf).length = n := by
  induction h with
  | start =>
    have e : (List.range n).filter (fun i => decide (i < n)) = List.range n := List.filter_eq_self.2 (fun x hx => by simpa using hx)
    rw [e]; simp
  | more h hz hk hc hn ih =>
    have := cnt_off hc.1 n hk
    rw [List.length_append]
    simp only [List.length_cons, List.length_nil]
    omega
/-- What stands while a node is looked at. -/
abbrev StO (W : World) (g6 g7 : Nat) (lf : Nat → Bool) (ah : Nat → Nat → Bool) (w' : World) : Prop := F20 w' g7 lf ∧ F400 w' g6 ah ∧ Below W.heap.size W w'
theorem StO.keep {W : World} {g6 g7 : Nat} {lf : Nat → Bool} {ah : Nat → Nat → Bool} {w1 w2 : World} (h : StO W g6 g7 lf ah w1) (hb : Below w1.heap.size w1 w2) : StO W g6 g7 lf ah w2 :=
  ⟨(hb.block _ (slab_lt h.1)).trans h.1, (hb.block _ (slab_lt h.2.1)).trans h.2.1, below_step h.2.2 (Nat.le_refl _) hb⟩
theorem size155 : (Try.prog.info? 155).map (·.size) = some 20 := by kernel_rfl
set_option maxRecDepth 100000 in
theorem quiet_load20 {o : Oper} {b' : Act} {C : World → Prop} {w : World} (x : Operand) (ho : o.op = .load 155 x) (b off : Nat) (hx : b'.eval x = .pointer (some ⟨b, off, none⟩)) (f : Nat → Bool) (hc : ∀ j, j < 20 → w.cell? ⟨b, off + j, none⟩ = some (.bool (f j))) : o.quietAt Try.prog b' C w (.agg (f20 f)) := by
  have hl := run_loadCells_list (P := Try.prog) w ⟨b, off, none⟩ (f20 f).toList (fun j v hv => by
    rw [add_plain]
    have hj : j < 20 := by
      rcases Nat.lt_or_ge j 20 with h | h
      · exact h
      · rw [Array.getElem?_toList, Array.getElem?_eq_none (by rw [f20_size]; exact h)] at hv; cases hv
    rw [Array.getElem?_toList, f20_get f j hj] at hv
    rw [hc j hj]; exact hv)
  rw [Array.length_toList, f20_size] at hl
  have hz := f20_size f
  generalize f20 f = A at *
  have hq : ∃ i, Try.prog.info? 155 = some i ∧ i.size = 20 := by
    cases h : Try.prog.info? 155 with
    | none => have := size155; rw [h] at this; cases this
    | some i => have := size155; rw [h] at this; exact ⟨i, rfl, by simpa using this⟩
  obtain ⟨i, hi, his⟩ := hq
  have hagg : (isAgg 155).run Try.prog w = .ok true w := by
    unfold isAgg
    rw [Sem.run_bind, run_underlying Try.underlying155 w]
    rfl
  unfold Oper.quietAt
  have hrun : (execOp b'.eval o).run Try.prog w = .ok (.value (.agg A)) w := by
    simp [execOp, ho, hx, Instr.loadAt, Instr.sureAddr, loadVar, Sem.run_bind, hagg, sizeOf, typeInfo, hi, his, hl]
  rw [hrun]
  exact ⟨rfl, rfl⟩
/-- The list that a temporary holds, by its length. -/
def lenOfV : Value → Nat
  | .slice _ l _ => l
  | _ => 0

set_option maxRecDepth 100000 in
set_option maxHeartbeats 4000000 in
theorem searchOrder_any (a a' : Option Addr) (cap cap' : Nat) (zs : List Int) (es : List P2) (w : World) (h : RowI w a zs) (h' : RowP w a' es) (hl : zs.length ≤ 20) (hl' : es.length ≤ 1048576) (hs : zs.Pairwise (· ≤ ·)) :
    Calls Try.prog 73 #[.slice a zs.length cap, .slice a' es.length cap'] w fun e w' => ∃ v c L lf, e = .returned (.tuple #[v, .int .i64 c]) ∧ SrI zs es (edF zs es es.length) zs.length lf L ∧ (∀ i, i < zs.length → ¬ CandI lf (edF zs es es.length) i) ∧ c = (if L.length < zs.length then 15 else 0) ∧ OwnI w' w.heap.size v (if L.length < zs.length then [] else L) ∧ Below w.heap.size w w' := by
  have HI : Hid (RowI w a zs) := h
  have hcall := edgeFlags_any a a' cap cap' zs es w h h' hl hl' hs
  obtain ⟨i0, hi, hz0, hz1, hz2⟩ := info_parts info3
  generalize edF zs es es.length = ah at *
  clear h h' hs
  obtain ⟨n, hn⟩ : ∃ m, zs.length = m := ⟨_, rfl⟩
  have HN : Hid (zs.length = n) := hn
  rw [hn] at hl hcall ⊢
  obtain ⟨ne, hne⟩ : ∃ m, es.length = m := ⟨_, rfl⟩
  rw [hne] at hcall ⊢
  clear hn hne hl'
  have hZ : (f400 fun _ _ => false) = Try.zeroCells156 := by kernel_rfl
  go_enter Try.func73, Try.ntmps73
  go_wp2
  refine wp_scope_jumps 0 (fun b' w' => ∃ (g6 g7 B : Nat) (lf : Nat → Bool) (L : List Int) (v u8 u10 u11 u12 u13 u14 u15 u16 u17 u18 u19 u20 u21 u22 u23 u24 u25 u26 u27 u28 u29 u30 u31 u32 u33 u34 u35 u36 u37 u38 u39 u40 u41 u42 u43 u44 u45 u46 u47 u48 u49 u50 u51 u52 u53 : Value), b' = { tmps := #[.slice a n cap, .slice a' ne cap', undef, undef, .slice none 0 0, .int .i64 0, .pointer (some ⟨g6, 0, none⟩), .pointer (some ⟨g7, 0, none⟩), u8, v, u10, u11, u12, u13, u14, u15, u16, u17, u18, u19, u20, u21, u22, u23, u24, u25, u26, u27, u28, u29, u30, u31, u32, u33, u34, u35, u36, u37, u38, u39, u40, u41, u42, u43, u44, u45, u46, u47, u48, u49, u50, u51, u52, u53], defers := [] } ∧ Hid ((w.heap.size ≤ g6 ∧ g6 < B ∧ w.heap.size ≤ g7 ∧ g7 < B ∧ g6 ≠ g7)) ∧ Hid (SrI zs es ah n lf L) ∧ Hid (F20 w' g7 lf ∧ F400 w' g6 ah ∧ OwnI w' B v L ∧ B ≤ w'.heap.size) ∧ Below w.heap.size w w') (fun b' _ => 20 - lenOfV (b'.tmps.getD 9 undef)) rfl ?_ ?_
  · go_wp2_with fail
    refine hcall.mono ?_
    rintro e w1 ⟨rfl, b1⟩
    have HB1 : Hid (Below w.heap.size w w1) := b1
    have hwl : w.heap.size ≤ w1.heap.size := b1.size
    have hsz := f400_size ah
    have h1' := f400_one ah
    have hi36 : (Try.prog.info? 156).map (·.size) = some (f400 ah).size := by rw [hsz]; exact size156
    have ho36 : Try.zeroCells156.size = (f400 ah).size := by rw [hsz, ← hZ]; exact f400_size _
    obtain ⟨A, hA⟩ : ∃ A, f400 ah = A := ⟨_, rfl⟩
    have HA : Hid (f400 ah = A) := hA
    rw [hA] at hi36 ho36 h1' ⊢
    have L1 : (w1.alloc (.cells Try.zeroCells156 156)).heap[w1.heap.size]? = some (.cells Try.zeroCells156 156 (0, 0)) := heap_new' _ _ _ rfl
    clear hA hsz b1 hcall
    have HM : Hid (F20 (((w1.alloc (.cells Try.zeroCells156 156)).setRow w1.heap.size A).alloc (.cells #[.bool false, .bool false, .bool false, .bool false, .bool false, .bool false, .bool false, .bool false, .bool false, .bool false, .bool false, .bool false, .bool false, .bool false, .bool false, .bool false, .bool false, .bool false, .bool false, .bool false] 155)) (w1.heap.size + 1) (fun i => decide (i < 0)) ∧ F400 (((w1.alloc (.cells Try.zeroCells156 156)).setRow w1.heap.size A).alloc (.cells #[.bool false, .bool false, .bool false, .bool false, .bool false, .bool false, .bool false, .bool false, .bool false, .bool false, .bool false, .bool false, .bool false, .bool false, .bool false, .bool false, .bool false, .bool false, .bool false, .bool false] 155)) w1.heap.size ah) := by
      have e0 : (fun i => decide (i < 0)) = fun _ : Nat => false := funext fun i => by simp
      have e1 : ((w1.alloc (.cells Try.zeroCells156 156)).setRow w1.heap.size A).heap.size = w1.heap.size + 1 := by simp [World.setRow]
      refine ⟨?_, ?_⟩
      · rw [e0]; exact heap_new' _ _ _ e1.symm
      · show _ = some (Obj.cells (f400 ah) 156 (0, 0))
        rw [HA.out]
        exact (heap_old _ _ _ (by rw [e1]; omega)).trans (setRow_heap _ _ Try.zeroCells156 A 156 (0, 0) L1)
    have BM : Below w.heap.size w (((w1.alloc (.cells Try.zeroCells156 156)).setRow w1.heap.size A).alloc (.cells #[.bool false, .bool false, .bool false, .bool false, .bool false, .bool false, .bool false, .bool false, .bool false, .bool false, .bool false, .bool false, .bool false, .bool false, .bool false, .bool false, .bool false, .bool false, .bool false, .bool false] 155)) := (below_setRowX (HB1.out.alloc hwl _) hwl A).alloc (by simp [World.setRow]; omega) _
    go_wp2_with (refine wpList_store_row rfl 156 _ _ rfl w1.heap.size A rfl rfl 156 Try.zeroCells156 L1 hi36 ho36 h1' ?_)
    go_loopw [17] (fun i wr => ∃ k : Nat, k ≤ n ∧ i = .int .i64 k ∧ Hid (F20 wr (w1.heap.size + 1) (fun i => decide (i < k)) ∧ F400 wr w1.heap.size ah) ∧ Below w.heap.size w wr) (fun i _ => n - (intOf i).toNat)
    case atStart => exact ⟨0, by omega, rfl, HM, BM⟩
    case round =>
      clear HM BM L1 hi36 ho36 h1'
      obtain ⟨k, hk, rfl, HF, hbl⟩ := hrel
      have hlw : w1.heap.size + 1 < wr.heap.size := slab_lt HF.out.1
      by_cases hlt : k < n
      · have hltI : (k : Int) < (n : Int) := by omega
        have h20I : (k : Int) < 20 := by omega
        have hwk : IntKind.i64.wrap (k : Int) = (k : Int) := wrap_nat (by omega)
        have hf : wr.frozen? ⟨w1.heap.size + 1, k, none⟩ = false := slab_free HF.out.1
        obtain ⟨vv, hvv⟩ : ∃ v, wr.cell? ⟨w1.heap.size + 1, k, none⟩ = some v := ⟨_, (slab_cell HF.out.1).trans (f20_get _ k (by omega))⟩
        obtain ⟨w3, hw3⟩ : ∃ w3, wr.setCell ⟨w1.heap.size + 1, k, none⟩ (.bool true) = w3 := ⟨_, rfl⟩
        have HF3 : Hid (F20 w3 (w1.heap.size + 1) (fun i => decide (i < k + 1)) ∧ F400 w3 w1.heap.size ah) := hw3 ▸ ⟨HF.out.1.set (by simp) (fun j hj => by by_cases h : j < k <;> simp [h] <;> omega), (set_othX (by omega)).trans HF.out.2⟩
        have B3 : Below w.heap.size w w3 := hw3 ▸ hbl.setCell (p := ⟨w1.heap.size + 1, k, none⟩) (by show w.heap.size ≤ w1.heap.size + 1; omega) _
        clear HF hbl
        go_wp2
        go_roundw
        case rel => exact ⟨k + 1, by omega, by go_num, HF3, B3⟩
        case measure => simp [intOf]; omega
      · obtain rfl : n = k := by omega
        have HG : Hid (w.heap.size ≤ w1.heap.size ∧ w1.heap.size < w1.heap.size + 2 ∧ w.heap.size ≤ w1.heap.size + 1 ∧ w1.heap.size + 1 < w1.heap.size + 2 ∧ w1.heap.size ≠ w1.heap.size + 1) := ⟨hwl, by omega, by omega, by omega, by omega⟩
        have HRUN : Hid (SrI zs es ah n (fun i => decide (i < n)) []) := SrI.start
        have HS0 : Hid (F20 wr (w1.heap.size + 1) (fun i => decide (i < n)) ∧ F400 wr w1.heap.size ah ∧ OwnI wr (w1.heap.size + 2) (.slice none 0 0) [] ∧ w1.heap.size + 2 ≤ wr.heap.size) := ⟨HF.out.1, HF.out.2, OwnI.nil _ _, by omega⟩
        obtain ⟨L, hL⟩ : ∃ L : List Int, [] = L := ⟨_, rfl⟩
        have hL0 : L.length = 0 := hL ▸ rfl
        have HLEN : Hid (L.length ≤ 20) := by show _ ≤ _; omega
        obtain ⟨lf, hlf⟩ : ∃ lf : Nat → Bool, (fun i => decide (i < n)) = lf := ⟨_, rfl⟩
        rw [hL, hlf] at HRUN HS0
        have hB0 := hbl
        clear hL hlf HF hbl HB1 HA hlw hlt
        go_wp2
        go_step3
        go_wp2
        go_loopw [9, 25] (fun v9 i wr => v9 = (.slice none 0 0) ∧ ∃ k : Nat, k ≤ n ∧ i = .int .i64 k ∧ Hid (∀ i, i < k → ¬ CandI lf ah i) ∧ Hid (F20 wr (w1.heap.size + 1) lf ∧ F400 wr w1.heap.size ah ∧ OwnI wr (w1.heap.size + 2) (.slice none 0 0) L ∧ (w1.heap.size + 2) ≤ wr.heap.size) ∧ Below w.heap.size w wr) (fun _ i _ => n - (intOf i).toNat)
        case atStart => exact ⟨rfl, 0, by omega, rfl, fun i hi => by omega, HS0, hB0⟩
        case round =>
          clear HS0 hB0
          obtain ⟨hv9, k, hk, rfl, HNC, HS, hbl⟩ := hrel
          subst hv9
          by_cases hlt : k < n
          · have hltI : (k : Int) < (n : Int) := by omega
            have h20I : (k : Int) < 20 := by omega
            have HK20 : Hid (k < 20) := (by omega : k < 20)
            obtain ⟨b, off, rfl, hlb, q0⟩ := (HI.out.below hbl) k (by rw [HN.out]; exact hlt)
            obtain ⟨z, hz⟩ : ∃ z, nthI zs k = z := ⟨_, rfl⟩
            have HZ : Hid (nthI zs k = z) := hz
            rw [hz] at q0
            clear hz
            have hwk : IntKind.i64.wrap (k : Int) = (k : Int) := wrap_nat (by omega)
            have HNX : Hid (¬ CandI lf ah k → ∀ i, i < k + 1 → ¬ CandI lf ah i) := fun h i hi => by
              by_cases e : i = k
              · subst e; exact h
              · exact HNC.out i (by omega)
            cases hlf : lf k with
            | false =>
              have c7k : wr.cell? ⟨(w1.heap.size + 1), k, none⟩ = some (.bool false) := ((slab_cell HS.out.1).trans (f20_get lf k HK20.out)).trans (by rw [hlf])
              have hg7 : (w1.heap.size + 1) < wr.heap.size := slab_lt HS.out.1
              have HN2 : Hid (∀ i, i < k + 1 → ¬ CandI lf ah i) := HNX.out (fun h => by have := h.1; rw [hlf] at this; cases this)
              have HSq : Hid (∀ q, F20 (wr.drewN q) (w1.heap.size + 1) lf ∧ F400 (wr.drewN q) w1.heap.size ah ∧ OwnI (wr.drewN q) (w1.heap.size + 2) (.slice none 0 0) L ∧ (w1.heap.size + 2) ≤ (wr.drewN q).heap.size) := fun q => ⟨HS.out.1, HS.out.2.1, HS.out.2.2.1.below (below_drewN (Below.refl _ _) q), HS.out.2.2.2⟩
              clear hlf HNX
              go_wp2_with fail
              go_quiet (fail)
              go_wp2
              go_roundw
              case rel => exact ⟨rfl, k + 1, by omega, by go_num, HN2, HSq.out _, below_drewN hbl _⟩
              case measure => simp [intOf]; omega
            | true =>
              have HLF : Hid (lf k = true) := hlf
              clear hlf
              have hC : Hid (StO wr w1.heap.size (w1.heap.size + 1) lf ah wr.drew) := ⟨HS.out.1, HS.out.2.1, (Below.refl _ _).drew⟩
              have hg7 : (w1.heap.size + 1) < wr.heap.size := slab_lt HS.out.1
              have hg6 : w1.heap.size < wr.heap.size := slab_lt HS.out.2.1
              cases hcm : comB lf (ah k) with
              | true =>
                have HCM : Hid (comB lf (ah k) = true) := hcm
                have HN2 : Hid (∀ i, i < k + 1 → ¬ CandI lf ah i) := HNX.out (fun h => by have := h.2; rw [hcm] at this; cases this)
                clear hcm HNX
                go_wp2_with fail
                have HA7 : Hid (∀ w', StO wr w1.heap.size (w1.heap.size + 1) lf ah w' → ∀ j, j < 20 → w'.cell? ⟨(w1.heap.size + 1), 0 + j, none⟩ = some (.bool (lf j))) := fun w' hw' j hj => by rw [Nat.zero_add]; exact (slab_cell hw'.1).trans (f20_get lf j hj)
                have HA6 : Hid (∀ w', StO wr w1.heap.size (w1.heap.size + 1) lf ah w' → ∀ j, j < 20 → w'.cell? ⟨w1.heap.size, k * 20 + j, none⟩ = some (.bool (ah k j))) := fun w' hw' j hj => (slab_cell hw'.2.1).trans (f400_get ah k j HK20.out hj)
                have HCL : Hid (∀ W, Calls Try.prog 108 #[.agg (f20 lf), .agg (f20 (ah k))] W fun e w' => e = .returned (.bool (comB lf (ah k))) ∧ Below W.heap.size W w') := fun W => haveCommon_any lf (ah k) W
                have HQ7 : Hid (∀ (o : Oper) (b' : Act), o.op = .load 155 (.tmp 7) → b'.eval (.tmp 7) = .pointer (some ⟨(w1.heap.size + 1), 0, none⟩) → ∀ w', StO wr w1.heap.size (w1.heap.size + 1) lf ah w' → o.quietAt Try.prog b' (StO wr w1.heap.size (w1.heap.size + 1) lf ah) w' (.agg (f20 lf))) := fun o b' ho hx w' hw' => quiet_load20 (.tmp 7) ho (w1.heap.size + 1) 0 hx lf (HA7.out w' hw')
                have HQ6 : Hid (∀ (o : Oper) (b' : Act), o.op = .load 155 (.tmp 36) → b'.eval (.tmp 36) = .pointer (some ⟨w1.heap.size, k * 20, none⟩) → ∀ w', StO wr w1.heap.size (w1.heap.size + 1) lf ah w' → o.quietAt Try.prog b' (StO wr w1.heap.size (w1.heap.size + 1) lf ah) w' (.agg (f20 (ah k)))) := fun o b' ho hx w' hw' => quiet_load20 (.tmp 36) ho w1.heap.size (k * 20) hx (ah k) (HA6.out w' hw')
                generalize f20 lf = A7 at HCL HQ7
                generalize f20 (ah k) = A6 at HCL HQ6
                rw [HCM.out] at HCL
                refine wp_region_class (C := StO wr w1.heap.size (w1.heap.size + 1) lf ah) (by kernel_rfl) (by kernel_rfl) hC.out ?_
                repeat (first | go_big_quiet_skip | (go_big_quiet_want; refine ⟨.agg A7, HQ7.out _ _ rfl rfl, ?_⟩; (try simp only [Act.put, List.setIfInBounds_toArray, List.set_cons_zero, List.set_cons_succ]); go_big_quiet_on) | (go_big_quiet_want; refine ⟨.agg A6, HQ6.out _ _ rfl rfl, ?_⟩; (try simp only [Act.put, List.setIfInBounds_toArray, List.set_cons_zero, List.set_cons_succ]); go_big_quiet_on) | (go_big_quiet_want; apply Exists.intro; refine ⟨?_, ?_⟩; (focus (intro w' hw'; first | (obtain ⟨m0, m1, m2⟩ := hw'; have c7k : w'.cell? ⟨(w1.heap.size + 1), k, none⟩ = some (.bool true) := ((slab_cell m0).trans (f20_get lf k HK20.out)).trans (by rw [HLF.out]); go_simp; with_reducible rfl) | (go_simp; refine (HCL.out w').mono ?_; rintro e w'' ⟨rfl, hb⟩; exact ⟨rfl, hw'.keep hb⟩))); (try simp only [Act.put, List.setIfInBounds_toArray, List.set_cons_zero, List.set_cons_succ]); go_big_quiet_on))
                refine wpQuiet_nil ?_
                intro w2 hw2
                have HX2 : Hid (StO wr w1.heap.size (w1.heap.size + 1) lf ah w2) := hw2
                clear hw2 hC HA7 HA6 HCL HQ7 HQ6
                have HS2 : Hid (F20 w2 (w1.heap.size + 1) lf ∧ F400 w2 w1.heap.size ah ∧ OwnI w2 (w1.heap.size + 2) (.slice none 0 0) L ∧ (w1.heap.size + 2) ≤ w2.heap.size) := ⟨HX2.out.1, HX2.out.2.1, HS.out.2.2.1.below HX2.out.2.2, Nat.le_trans HS.out.2.2.2 HX2.out.2.2.size⟩
                have B2 := below_step hbl (Nat.le_refl _) HX2.out.2.2
                clear HX2 hbl q0
                go_wp2
                go_roundw
                case rel => exact ⟨rfl, k + 1, by omega, by go_num, HN2, HS2, B2⟩
                case measure => simp [intOf]; omega
              | false =>
                have HCM : Hid (comB lf (ah k) = false) := hcm
                have HCA : Hid (CandI lf ah k) := ⟨HLF.out, hcm⟩
                clear hcm HNX
                go_wp2_with fail
                have HA7 : Hid (∀ w', StO wr w1.heap.size (w1.heap.size + 1) lf ah w' → ∀ j, j < 20 → w'.cell? ⟨(w1.heap.size + 1), 0 + j, none⟩ = some (.bool (lf j))) := fun w' hw' j hj => by rw [Nat.zero_add]; exact (slab_cell hw'.1).trans (f20_get lf j hj)
                have HA6 : Hid (∀ w', StO wr w1.heap.size (w1.heap.size + 1) lf ah w' → ∀ j, j < 20 → w'.cell? ⟨w1.heap.size, k * 20 + j, none⟩ = some (.bool (ah k j))) := fun w' hw' j hj => (slab_cell hw'.2.1).trans (f400_get ah k j HK20.out hj)
                have HCL : Hid (∀ W, Calls Try.prog 108 #[.agg (f20 lf), .agg (f20 (ah k))] W fun e w' => e = .returned (.bool (comB lf (ah k))) ∧ Below W.heap.size W w') := fun W => haveCommon_any lf (ah k) W
                have HQ7 : Hid (∀ (o : Oper) (b' : Act), o.op = .load 155 (.tmp 7) → b'.eval (.tmp 7) = .pointer (some ⟨(w1.heap.size + 1), 0, none⟩) → ∀ w', StO wr w1.heap.size (w1.heap.size + 1) lf ah w' → o.quietAt Try.prog b' (StO wr w1.heap.size (w1.heap.size + 1) lf ah) w' (.agg (f20 lf))) := fun o b' ho hx w' hw' => quiet_load20 (.tmp 7) ho (w1.heap.size + 1) 0 hx lf (HA7.out w' hw')
                have HQ6 : Hid (∀ (o : Oper) (b' : Act), o.op = .load 155 (.tmp 36) → b'.eval (.tmp 36) = .pointer (some ⟨w1.heap.size, k * 20, none⟩) → ∀ w', StO wr w1.heap.size (w1.heap.size + 1) lf ah w' → o.quietAt Try.prog b' (StO wr w1.heap.size (w1.heap.size + 1) lf ah) w' (.agg (f20 (ah k)))) := fun o b' ho hx w' hw' => quiet_load20 (.tmp 36) ho w1.heap.size (k * 20) hx (ah k) (HA6.out w' hw')
                generalize f20 lf = A7 at HCL HQ7
                generalize f20 (ah k) = A6 at HCL HQ6
                rw [HCM.out] at HCL
                refine wp_region_class (C := StO wr w1.heap.size (w1.heap.size + 1) lf ah) (by kernel_rfl) (by kernel_rfl) hC.out ?_
                repeat (first | go_big_quiet_skip | (go_big_quiet_want; refine ⟨.agg A7, HQ7.out _ _ rfl rfl, ?_⟩; (try simp only [Act.put, List.setIfInBounds_toArray, List.set_cons_zero, List.set_cons_succ]); go_big_quiet_on) | (go_big_quiet_want; refine ⟨.agg A6, HQ6.out _ _ rfl rfl, ?_⟩; (try simp only [Act.put, List.setIfInBounds_toArray, List.set_cons_zero, List.set_cons_succ]); go_big_quiet_on) | (go_big_quiet_want; apply Exists.intro; refine ⟨?_, ?_⟩; (focus (intro w' hw'; first | (obtain ⟨m0, m1, m2⟩ := hw'; have c7k : w'.cell? ⟨(w1.heap.size + 1), k, none⟩ = some (.bool true) := ((slab_cell m0).trans (f20_get lf k HK20.out)).trans (by rw [HLF.out]); go_simp; with_reducible rfl) | (go_simp; refine (HCL.out w').mono ?_; rintro e w'' ⟨rfl, hb⟩; exact ⟨rfl, hw'.keep hb⟩))); (try simp only [Act.put, List.setIfInBounds_toArray, List.set_cons_zero, List.set_cons_succ]); go_big_quiet_on))
                refine wpQuiet_nil ?_
                intro w2 hw2
                have HX2 : Hid (StO wr w1.heap.size (w1.heap.size + 1) lf ah w2) := hw2
                clear hw2 hC HA7 HA6 HCL HQ7 HQ6
                have HS2 : Hid (F20 w2 (w1.heap.size + 1) lf ∧ F400 w2 w1.heap.size ah ∧ OwnI w2 (w1.heap.size + 2) (.slice none 0 0) L ∧ (w1.heap.size + 2) ≤ w2.heap.size) := ⟨HX2.out.1, HX2.out.2.1, HS.out.2.2.1.below HX2.out.2.2, Nat.le_trans HS.out.2.2.2 HX2.out.2.2.size⟩
                have B2 := below_step hbl (Nat.le_refl _) HX2.out.2.2
                clear HX2 hbl q0 HS
                have hf2 : w2.frozen? ⟨(w1.heap.size + 1), k, none⟩ = false := slab_free HS2.out.1
                obtain ⟨vv, hvv⟩ : ∃ v, w2.cell? ⟨(w1.heap.size + 1), k, none⟩ = some v := ⟨_, (slab_cell HS2.out.1).trans (f20_get lf k HK20.out)⟩
                obtain ⟨w3, hw3⟩ : ∃ w3, w2.setCell ⟨(w1.heap.size + 1), k, none⟩ (.bool false) = w3 := ⟨_, rfl⟩
                have HS3 : Hid (F20 w3 (w1.heap.size + 1) (offI lf k) ∧ F400 w3 w1.heap.size ah ∧ OwnI w3 (w1.heap.size + 2) (.slice none 0 0) L ∧ (w1.heap.size + 2) ≤ w3.heap.size) := hw3 ▸ ⟨HS2.out.1.set (offI_at lf k) (fun j hj => offI_oth lf hj), (set_othX (by have := HG.out; omega)).trans HS2.out.2.1, own_at HS2.out.2.2.1 (fun j hj => set_othX (by have := (own_lt HS2.out.2.2.1 hj).1; have := HG.out; omega)), by simp [World.setCell]; exact HS2.out.2.2.2⟩
                have B3 : Below w.heap.size w w3 := hw3 ▸ B2.setCell (p := ⟨(w1.heap.size + 1), k, none⟩) (by have := HG.out; show w.heap.size ≤ (w1.heap.size + 1); omega) _
                have HL3 := HLEN.out
                go_wp2_with (at_builtin; refine wpList_append_own _ rfl _ _ 25 rfl (w1.heap.size + 2) 3 i0 (.int .i64 0) 1 8 Try.underlying25 hi hz0 hz1 hz2 rfl (by decide) _ _ _ rfl (HS3.out.2.2.1.alloc _) ⟨w3.heap.size, 0, none⟩ 1 1 [.int .i64 z] rfl rfl (cell_one_new _ _ _) (ints_oneCell .i64 [z]) ?m1 ?m2 ?m3 ?_)
                case m1 => unfold maxLen; omega
                case m2 => omega
                case m3 => have := HS3.out.2.2.2; first | omega | (simp; omega)
                intro v' w4 ho4 g4 _
                have bA : Below (w1.heap.size + 2) w3 w4 := own_below ((Below.refl _ _).alloc HS3.out.2.2.2 _) (by have := HS3.out.2.2.2; simp; omega) (HS3.out.2.2.1.alloc _) g4
                have HS4 : Hid (F20 w4 (w1.heap.size + 1) (offI lf k) ∧ F400 w4 w1.heap.size ah ∧ OwnI w4 (w1.heap.size + 2) v' (L ++ [z]) ∧ (w1.heap.size + 2) ≤ w4.heap.size) := ⟨(bA.block _ (by have := HG.out; omega)).trans HS3.out.1, (bA.block _ (by have := HG.out; omega)).trans HS3.out.2.1, OwnI.snoc (by rw [hL0]; exact ho4), Nat.le_trans HS3.out.2.2.2 bA.size⟩
                have B4 : Hid (Below w.heap.size w w4) := B3.trans (bA.mono (by have := HG.out; omega))
                have HRN : Hid (SrI zs es ah n (offI lf k) (L ++ [z])) := HRUN.out.step HZ.out hlt HCA.out HNC.out
                obtain ⟨a4, c4, rfl⟩ := own_shp ho4
                clear ho4 g4 bA HS3 HS2 B3 B2
                go_wp2
                go_step3
                have hlen4 := HRN.out.len
                rw [List.length_append] at hlen4
                simp only [List.length_cons, List.length_nil] at hlen4
                refine show _ ∧ _ from ⟨rfl, ⟨w1.heap.size, (w1.heap.size + 1), (w1.heap.size + 2), offI lf k, L ++ [z], .slice a4 1 c4, _, _, _, _, _, _, _, _, _, _, _, _, _, _, _, _, _, _, _, _, _, _, _, _, _, _, _, _, _, _, _, _, _, _, _, _, _, _, _, _, _, _, _, _, _, rfl, HG, HRN, HS4, B4.out⟩⟩
          · obtain rfl : k = n := by omega
            have HFIN : Hid (∀ i, i < k → ¬ CandI lf ah i) := HNC.out
            by_cases hLn : (0 : Int) < (k : Int)
            · have HLN : Hid (L.length < k) := (by omega : L.length < k)
              go_wp2
              simp only [Exit.jump]
              go_ret2
              exact ⟨_, _, L, lf, rfl, HRUN.out, HFIN.out, by rw [if_pos HLN.out], by rw [if_pos HLN.out]; exact OwnI.nil _ _, hbl⟩
            · have HLN : Hid (¬ L.length < k) := (by omega : ¬ L.length < k)
              have HOW : Hid (OwnI wr w.heap.size (.slice none 0 0) L) := own_mono HS.out.2.2.1 (by have := HG.out; omega)
              go_wp2
              simp only [Exit.jump]
              go_ret2
              exact ⟨_, _, L, lf, rfl, HRUN.out, HFIN.out, by rw [if_neg HLN.out], by rw [if_neg HLN.out]; exact HOW.out, hbl⟩
  · rintro b' w' ⟨g6, g7, B, lf, L, v, u8, u10, u11, u12, u13, u14, u15, u16, u17, u18, u19, u20, u21, u22, u23, u24, u25, u26, u27, u28, u29, u30, u31, u32, u33, u34, u35, u36, u37, u38, u39, u40, u41, u42, u43, u44, u45, u46, u47, u48, u49, u50, u51, u52, u53, rfl, HG, HRUN, HS0, hB0⟩
    have HLEN : Hid (L.length ≤ 20) := by show _ ≤ _; have := HRUN.out.len; omega
    obtain ⟨aV, cV, rfl⟩ := own_shp HS0.out.2.2.1
    go_wp2
    go_loopw [9, 25] (fun v9 i wr => v9 = (.slice aV L.length cV) ∧ ∃ k : Nat, k ≤ n ∧ i = .int .i64 k ∧ Hid (∀ i, i < k → ¬ CandI lf ah i) ∧ Hid (F20 wr g7 lf ∧ F400 wr g6 ah ∧ OwnI wr B (.slice aV L.length cV) L ∧ B ≤ wr.heap.size) ∧ Below w.heap.size w wr) (fun _ i _ => n - (intOf i).toNat)
    case atStart => exact ⟨rfl, 0, by omega, rfl, fun i hi => by omega, HS0, hB0⟩
    case round =>
      clear HS0 hB0
      obtain ⟨hv9, k, hk, rfl, HNC, HS, hbl⟩ := hrel
      subst hv9
      by_cases hlt : k < n
      · have hltI : (k : Int) < (n : Int) := by omega
        have h20I : (k : Int) < 20 := by omega
        have HK20 : Hid (k < 20) := (by omega : k < 20)
        obtain ⟨b, off, rfl, hlb, q0⟩ := (HI.out.below hbl) k (by rw [HN.out]; exact hlt)
        obtain ⟨z, hz⟩ : ∃ z, nthI zs k = z := ⟨_, rfl⟩
        have HZ : Hid (nthI zs k = z) := hz
        rw [hz] at q0
        clear hz
        have hwk : IntKind.i64.wrap (k : Int) = (k : Int) := wrap_nat (by omega)
        have HNX : Hid (¬ CandI lf ah k → ∀ i, i < k + 1 → ¬ CandI lf ah i) := fun h i hi => by
          by_cases e : i = k
          · subst e; exact h
          · exact HNC.out i (by omega)
        cases hlf : lf k with
        | false =>
          have c7k : wr.cell? ⟨g7, k, none⟩ = some (.bool false) := ((slab_cell HS.out.1).trans (f20_get lf k HK20.out)).trans (by rw [hlf])
          have hg7 : g7 < wr.heap.size := slab_lt HS.out.1
          have HN2 : Hid (∀ i, i < k + 1 → ¬ CandI lf ah i) := HNX.out (fun h => by have := h.1; rw [hlf] at this; cases this)
          have HSq : Hid (∀ q, F20 (wr.drewN q) g7 lf ∧ F400 (wr.drewN q) g6 ah ∧ OwnI (wr.drewN q) B (.slice aV L.length cV) L ∧ B ≤ (wr.drewN q).heap.size) := fun q => ⟨HS.out.1, HS.out.2.1, HS.out.2.2.1.below (below_drewN (Below.refl _ _) q), HS.out.2.2.2⟩
          clear hlf HNX
          go_wp2_with fail
          go_quiet (fail)
          go_wp2
          go_roundw
          case rel => exact ⟨rfl, k + 1, by omega, by go_num, HN2, HSq.out _, below_drewN hbl _⟩
          case measure => simp [intOf]; omega
        | true =>
          have HLF : Hid (lf k = true) := hlf
          clear hlf
          have hC : Hid (StO wr g6 g7 lf ah wr.drew) := ⟨HS.out.1, HS.out.2.1, (Below.refl _ _).drew⟩
          have hg7 : g7 < wr.heap.size := slab_lt HS.out.1
          have hg6 : g6 < wr.heap.size := slab_lt HS.out.2.1
          cases hcm : comB lf (ah k) with
          | true =>
            have HCM : Hid (comB lf (ah k) = true) := hcm
            have HN2 : Hid (∀ i, i < k + 1 → ¬ CandI lf ah i) := HNX.out (fun h => by have := h.2; rw [hcm] at this; cases this)
            clear hcm HNX
            go_wp2_with fail
            have HA7 : Hid (∀ w', StO wr g6 g7 lf ah w' → ∀ j, j < 20 → w'.cell? ⟨g7, 0 + j, none⟩ = some (.bool (lf j))) := fun w' hw' j hj => by rw [Nat.zero_add]; exact (slab_cell hw'.1).trans (f20_get lf j hj)
            have HA6 : Hid (∀ w', StO wr g6 g7 lf ah w' → ∀ j, j < 20 → w'.cell? ⟨g6, k * 20 + j, none⟩ = some (.bool (ah k j))) := fun w' hw' j hj => (slab_cell hw'.2.1).trans (f400_get ah k j HK20.out hj)
            have HCL : Hid (∀ W, Calls Try.prog 108 #[.agg (f20 lf), .agg (f20 (ah k))] W fun e w' => e = .returned (.bool (comB lf (ah k))) ∧ Below W.heap.size W w') := fun W => haveCommon_any lf (ah k) W
            have HQ7 : Hid (∀ (o : Oper) (b' : Act), o.op = .load 155 (.tmp 7) → b'.eval (.tmp 7) = .pointer (some ⟨g7, 0, none⟩) → ∀ w', StO wr g6 g7 lf ah w' → o.quietAt Try.prog b' (StO wr g6 g7 lf ah) w' (.agg (f20 lf))) := fun o b' ho hx w' hw' => quiet_load20 (.tmp 7) ho g7 0 hx lf (HA7.out w' hw')
            have HQ6 : Hid (∀ (o : Oper) (b' : Act), o.op = .load 155 (.tmp 36) → b'.eval (.tmp 36) = .pointer (some ⟨g6, k * 20, none⟩) → ∀ w', StO wr g6 g7 lf ah w' → o.quietAt Try.prog b' (StO wr g6 g7 lf ah) w' (.agg (f20 (ah k)))) := fun o b' ho hx w' hw' => quiet_load20 (.tmp 36) ho g6 (k * 20) hx (ah k) (HA6.out w' hw')
            generalize f20 lf = A7 at HCL HQ7
            generalize f20 (ah k) = A6 at HCL HQ6
            rw [HCM.out] at HCL
            refine wp_region_class (C := StO wr g6 g7 lf ah) (by kernel_rfl) (by kernel_rfl) hC.out ?_
            repeat (first | go_big_quiet_skip | (go_big_quiet_want; refine ⟨.agg A7, HQ7.out _ _ rfl rfl, ?_⟩; (try simp only [Act.put, List.setIfInBounds_toArray, List.set_cons_zero, List.set_cons_succ]); go_big_quiet_on) | (go_big_quiet_want; refine ⟨.agg A6, HQ6.out _ _ rfl rfl, ?_⟩; (try simp only [Act.put, List.setIfInBounds_toArray, List.set_cons_zero, List.set_cons_succ]); go_big_quiet_on) | (go_big_quiet_want; apply Exists.intro; refine ⟨?_, ?_⟩; (focus (intro w' hw'; first | (obtain ⟨m0, m1, m2⟩ := hw'; have c7k : w'.cell? ⟨g7, k, none⟩ = some (.bool true) := ((slab_cell m0).trans (f20_get lf k HK20.out)).trans (by rw [HLF.out]); go_simp; with_reducible rfl) | (go_simp; refine (HCL.out w').mono ?_; rintro e w'' ⟨rfl, hb⟩; exact ⟨rfl, hw'.keep hb⟩))); (try simp only [Act.put, List.setIfInBounds_toArray, List.set_cons_zero, List.set_cons_succ]); go_big_quiet_on))
            refine wpQuiet_nil ?_
            intro w2 hw2
            have HX2 : Hid (StO wr g6 g7 lf ah w2) := hw2
            clear hw2 hC HA7 HA6 HCL HQ7 HQ6
            have HS2 : Hid (F20 w2 g7 lf ∧ F400 w2 g6 ah ∧ OwnI w2 B (.slice aV L.length cV) L ∧ B ≤ w2.heap.size) := ⟨HX2.out.1, HX2.out.2.1, HS.out.2.2.1.below HX2.out.2.2, Nat.le_trans HS.out.2.2.2 HX2.out.2.2.size⟩
            have B2 := below_step hbl (Nat.le_refl _) HX2.out.2.2
            clear HX2 hbl q0
            go_wp2
            go_roundw
            case rel => exact ⟨rfl, k + 1, by omega, by go_num, HN2, HS2, B2⟩
            case measure => simp [intOf]; omega
          | false =>
            have HCM : Hid (comB lf (ah k) = false) := hcm
            have HCA : Hid (CandI lf ah k) := ⟨HLF.out, hcm⟩
            clear hcm HNX
            go_wp2_with fail
            have HA7 : Hid (∀ w', StO wr g6 g7 lf ah w' → ∀ j, j < 20 → w'.cell? ⟨g7, 0 + j, none⟩ = some (.bool (lf j))) := fun w' hw' j hj => by rw [Nat.zero_add]; exact (slab_cell hw'.1).trans (f20_get lf j hj)
            have HA6 : Hid (∀ w', StO wr g6 g7 lf ah w' → ∀ j, j < 20 → w'.cell? ⟨g6, k * 20 + j, none⟩ = some (.bool (ah k j))) := fun w' hw' j hj => (slab_cell hw'.2.1).trans (f400_get ah k j HK20.out hj)
            have HCL : Hid (∀ W, Calls Try.prog 108 #[.agg (f20 lf), .agg (f20 (ah k))] W fun e w' => e = .returned (.bool (comB lf (ah k))) ∧ Below W.heap.size W w') := fun W => haveCommon_any lf (ah k) W
            have HQ7 : Hid (∀ (o : Oper) (b' : Act), o.op = .load 155 (.tmp 7) → b'.eval (.tmp 7) = .pointer (some ⟨g7, 0, none⟩) → ∀ w', StO wr g6 g7 lf ah w' → o.quietAt Try.prog b' (StO wr g6 g7 lf ah) w' (.agg (f20 lf))) := fun o b' ho hx w' hw' => quiet_load20 (.tmp 7) ho g7 0 hx lf (HA7.out w' hw')
            have HQ6 : Hid (∀ (o : Oper) (b' : Act), o.op = .load 155 (.tmp 36) → b'.eval (.tmp 36) = .pointer (some ⟨g6, k * 20, none⟩) → ∀ w', StO wr g6 g7 lf ah w' → o.quietAt Try.prog b' (StO wr g6 g7 lf ah) w' (.agg (f20 (ah k)))) := fun o b' ho hx w' hw' => quiet_load20 (.tmp 36) ho g6 (k * 20) hx (ah k) (HA6.out w' hw')
            generalize f20 lf = A7 at HCL HQ7
            generalize f20 (ah k) = A6 at HCL HQ6
            rw [HCM.out] at HCL
            refine wp_region_class (C := StO wr g6 g7 lf ah) (by kernel_rfl) (by kernel_rfl) hC.out ?_
            repeat (first | go_big_quiet_skip | (go_big_quiet_want; refine ⟨.agg A7, HQ7.out _ _ rfl rfl, ?_⟩; (try simp only [Act.put, List.setIfInBounds_toArray, List.set_cons_zero, List.set_cons_succ]); go_big_quiet_on) | (go_big_quiet_want; refine ⟨.agg A6, HQ6.out _ _ rfl rfl, ?_⟩; (try simp only [Act.put, List.setIfInBounds_toArray, List.set_cons_zero, List.set_cons_succ]); go_big_quiet_on) | (go_big_quiet_want; apply Exists.intro; refine ⟨?_, ?_⟩; (focus (intro w' hw'; first | (obtain ⟨m0, m1, m2⟩ := hw'; have c7k : w'.cell? ⟨g7, k, none⟩ = some (.bool true) := ((slab_cell m0).trans (f20_get lf k HK20.out)).trans (by rw [HLF.out]); go_simp; with_reducible rfl) | (go_simp; refine (HCL.out w').mono ?_; rintro e w'' ⟨rfl, hb⟩; exact ⟨rfl, hw'.keep hb⟩))); (try simp only [Act.put, List.setIfInBounds_toArray, List.set_cons_zero, List.set_cons_succ]); go_big_quiet_on))
            refine wpQuiet_nil ?_
            intro w2 hw2
            have HX2 : Hid (StO wr g6 g7 lf ah w2) := hw2
            clear hw2 hC HA7 HA6 HCL HQ7 HQ6
            have HS2 : Hid (F20 w2 g7 lf ∧ F400 w2 g6 ah ∧ OwnI w2 B (.slice aV L.length cV) L ∧ B ≤ w2.heap.size) := ⟨HX2.out.1, HX2.out.2.1, HS.out.2.2.1.below HX2.out.2.2, Nat.le_trans HS.out.2.2.2 HX2.out.2.2.size⟩
            have B2 := below_step hbl (Nat.le_refl _) HX2.out.2.2
            clear HX2 hbl q0 HS
            have hf2 : w2.frozen? ⟨g7, k, none⟩ = false := slab_free HS2.out.1
            obtain ⟨vv, hvv⟩ : ∃ v, w2.cell? ⟨g7, k, none⟩ = some v := ⟨_, (slab_cell HS2.out.1).trans (f20_get lf k HK20.out)⟩
            obtain ⟨w3, hw3⟩ : ∃ w3, w2.setCell ⟨g7, k, none⟩ (.bool false) = w3 := ⟨_, rfl⟩
            have HS3 : Hid (F20 w3 g7 (offI lf k) ∧ F400 w3 g6 ah ∧ OwnI w3 B (.slice aV L.length cV) L ∧ B ≤ w3.heap.size) := hw3 ▸ ⟨HS2.out.1.set (offI_at lf k) (fun j hj => offI_oth lf hj), (set_othX (by have := HG.out; omega)).trans HS2.out.2.1, own_at HS2.out.2.2.1 (fun j hj => set_othX (by have := (own_lt HS2.out.2.2.1 hj).1; have := HG.out; omega)), by simp [World.setCell]; exact HS2.out.2.2.2⟩
            have B3 : Below w.heap.size w w3 := hw3 ▸ B2.setCell (p := ⟨g7, k, none⟩) (by have := HG.out; show w.heap.size ≤ g7; omega) _
            have HL3 := HLEN.out
            go_wp2_with (at_builtin; refine wpList_append_own _ rfl _ _ 25 rfl B 3 i0 (.int .i64 0) 1 8 Try.underlying25 hi hz0 hz1 hz2 rfl (by decide) _ _ _ rfl (HS3.out.2.2.1.alloc _) ⟨w3.heap.size, 0, none⟩ 1 1 [.int .i64 z] rfl rfl (cell_one_new _ _ _) (ints_oneCell .i64 [z]) ?m1 ?m2 ?m3 ?_)
            case m1 => unfold maxLen; omega
            case m2 => omega
            case m3 => have := HS3.out.2.2.2; first | omega | (simp; omega)
            intro v' w4 ho4 g4 _
            have bA : Below B w3 w4 := own_below ((Below.refl _ _).alloc HS3.out.2.2.2 _) (by have := HS3.out.2.2.2; simp; omega) (HS3.out.2.2.1.alloc _) g4
            have HS4 : Hid (F20 w4 g7 (offI lf k) ∧ F400 w4 g6 ah ∧ OwnI w4 B v' (L ++ [z]) ∧ B ≤ w4.heap.size) := ⟨(bA.block _ (by have := HG.out; omega)).trans HS3.out.1, (bA.block _ (by have := HG.out; omega)).trans HS3.out.2.1, OwnI.snoc ho4, Nat.le_trans HS3.out.2.2.2 bA.size⟩
            have B4 : Hid (Below w.heap.size w w4) := B3.trans (bA.mono (by have := HG.out; omega))
            have HRN : Hid (SrI zs es ah n (offI lf k) (L ++ [z])) := HRUN.out.step HZ.out hlt HCA.out HNC.out
            obtain ⟨a4, c4, rfl⟩ := own_shp ho4
            clear ho4 g4 bA HS3 HS2 B3 B2
            go_wp2
            go_step3
            have hlen4 := HRN.out.len
            rw [List.length_append] at hlen4
            simp only [List.length_cons, List.length_nil] at hlen4
            refine show _ ∧ _ from ⟨rfl, ⟨g6, g7, B, offI lf k, L ++ [z], .slice a4 (L.length + 1) c4, _, _, _, _, _, _, _, _, _, _, _, _, _, _, _, _, _, _, _, _, _, _, _, _, _, _, _, _, _, _, _, _, _, _, _, _, _, _, _, _, _, _, _, _, _, rfl, HG, HRN, HS4, B4.out⟩, ?_⟩
            show 20 - (L.length + 1) < 20 - L.length
            omega
      · obtain rfl : k = n := by omega
        have HFIN : Hid (∀ i, i < k → ¬ CandI lf ah i) := HNC.out
        by_cases hLn : (L.length : Int) < (k : Int)
        · have HLN : Hid (L.length < k) := (by omega : L.length < k)
          go_wp2
          simp only [Exit.jump]
          go_ret2
          exact ⟨_, _, L, lf, rfl, HRUN.out, HFIN.out, by rw [if_pos HLN.out], by rw [if_pos HLN.out]; exact OwnI.nil _ _, hbl⟩
        · have HLN : Hid (¬ L.length < k) := (by omega : ¬ L.length < k)
          have HOW : Hid (OwnI wr w.heap.size (.slice aV L.length cV) L) := own_mono HS.out.2.2.1 (by have := HG.out; omega)
          go_wp2
          simp only [Exit.jump]
          go_ret2
          exact ⟨_, _, L, lf, rfl, HRUN.out, HFIN.out, by rw [if_neg HLN.out], by rw [if_neg HLN.out]; exact HOW.out, hbl⟩
end Go.Proofs.Ytlcgmifibekegaa
