/- Conflicts: impl's answer (stage 8). -/
import Derived.Test.YtlcgmifibekegaaCfB
namespace Go.Proofs.Ytlcgmifibekegaa
open Go.RowKit

/-- Edges from i to those below j whose flags are set. -/
def rowE (f : Nat → Nat → Bool) (i : Nat) : Nat → List P2
  | 0 => []
  | j + 1 => if f i j = true then rowE f i j ++ [((i : Int), (j : Int))] else rowE f i j
/-- Edges from those below i. -/
def allE (f : Nat → Nat → Bool) : Nat → List P2
  | 0 => []
  | i + 1 => allE f i ++ rowE f i 6
theorem rowE_len (f : Nat → Nat → Bool) (i : Nat) : ∀ j, (rowE f i j).length ≤ j
  | 0 => Nat.le_refl _
  | j + 1 => by
    have := rowE_len f i j
    unfold rowE
    split
    · simp; omega
    · omega
theorem allE_len (f : Nat → Nat → Bool) : ∀ i, (allE f i).length ≤ i * 6
  | 0 => Nat.le_refl _
  | i + 1 => by
    have := allE_len f i
    have := rowE_len f i 6
    unfold allE
    rw [List.length_append]
    omega
theorem cells93 : Try.prog.cellsOf 93 = 6 := by kernel_rfl
theorem info93 : (Try.prog.info? 93).map (fun i => (i.size, i.bytes)) = some (6, 6) := by kernel_rfl
theorem run_index_fl2 (f : Nat → Nat → Bool) (k : Nat) (hk : k < 6) (w : World) : (Instr.index 95 (.agg (fl2A f)) (.int .i64 (k : Int))).run Try.prog w = .ok (FlV (f k)) w := by
  obtain ⟨i0, hi⟩ : ∃ i0, Try.prog.info? 93 = some i0 := by
    cases h : Try.prog.info? 93 with
    | none => have := info93; rw [h] at this; cases this
    | some i => exact ⟨i, rfl⟩
  have he : (fl2A f).extract (k * 6) (k * 6 + 6) = flA (f k) := by
    have h : k = 0 ∨ k = 1 ∨ k = 2 ∨ k = 3 ∨ k = 4 ∨ k = 5 := by omega
    rcases h with rfl | rfl | rfl | rfl | rfl | rfl <;> rfl
  have hp : (part 93 (fl2A f) (k * 6)).run Try.prog w = .ok (FlV (f k)) w := by
    simp only [part, isAgg, Sem.run_bind, run_underlying Try.underlying93, Result.andThen_ok, run_sizeOf w hi, cells93, Sem.run_pure, if_true, he]
  simp [Instr.index, asIntOf, run_underlying Try.underlying95, run_sizeOf w hi, cells93]
  rw [if_pos hk]
  exact hp
/-- The acts of those that commit. -/
noncomputable def comO (ss : List TH) : List TH := selL (comF ss ss.length) ss ss.length
/-- What Conflicts answers. -/
noncomputable def cfL (ss : List TH) : List P2 := if hisC ss = 0 then allE (cfF (comO ss) (comO ss).length 0) 6 else []
theorem cfL_len (ss : List TH) : (cfL ss).length ≤ 36 := by
  unfold cfL
  split
  · exact allE_len _ 6
  · exact Nat.zero_le _
theorem mem_nthH {l : List TH} {i : Nat} (h : i < l.length) : nthH l i ∈ l := by rw [nthH_get h]; exact List.getElem_mem h
theorem selL_prop {P : TH → Prop} {f : Nat → Bool} {ss : List TH} {k : Nat} (h : ∀ i, i < ss.length → P (nthH ss i)) : ∀ i, i < (selL f ss k).length → P (nthH (selL f ss k) i) := fun i hi => by
  have hm := mem_nthH hi
  have hm2 : nthH (selL f ss k) i ∈ ss := List.mem_of_mem_take (List.mem_filter.1 hm).1
  obtain ⟨j, hj, e⟩ := List.mem_iff_getElem.1 hm2
  rw [← e, ← nthH_get hj]
  exact h j hj
theorem OwnH.cap {w : World} {B : Nat} {v : Value} {l : List TH} (h : OwnH w B v l) (hz : ∀ i, i < l.length → (nthH l i).2.2.1.size ≤ maxLen ∧ (nthH l i).2.2.2.size ≤ maxLen) : ∃ a cap, v = .slice a l.length cap ∧ RowH w a l ∧ l.length ≤ cap := by
  obtain ⟨a, cap, e, r⟩ := h.row hz
  refine ⟨a, cap, e, r, ?_⟩
  rcases h.2 with ⟨e', hn⟩ | ⟨g, c, cur, e', hB, hh, hc, _⟩
  · omega
  · rw [e'] at e
    injection e with h1 h2 h3
    omega
abbrev RetP (w : World) (l : List P2) (c : Int) (r : Ending) (w' : World) : Prop := ∃ v, r = .returned (.tuple #[v, .int .i64 c]) ∧ OwnP w' w.heap.size v l ∧ Below w.heap.size w w'

set_option maxRecDepth 100000 in
set_option maxHeartbeats 4000000 in
theorem implConflicts_any (a : Option Addr) (cap : Nat) (ss : List TH) (w : World) (h : RowH w a ss) (hl : ss.length ≤ 1048576) (hz : ∀ i, i < ss.length → SmallH (nthH ss i)) :
    Calls Try.prog 15 #[.slice a ss.length cap] w (RetP w (cfL ss) (hisC ss)) := by
  have HR : Hid (RowH w a ss) := h
  have HLL : Hid (ss.length ≤ 1048576) := hl
  have hcall := historyCode_any a cap ss w h hl
  have HC : Hid (cfL ss = if hisC ss = 0 then allE (cfF (comO ss) (comO ss).length 0) 6 else []) := rfl
  have HOK : Hid (hisC ss = 0 → TxsP ss) := fun e => (hisC_ok e).txs
  have HZ : Hid (∀ i, i < (comO ss).length → (nthH (comO ss) i).2.2.1.size ≤ maxLen ∧ (nthH (comO ss) i).2.2.2.size ≤ maxLen) := selL_prop (P := fun x => x.2.2.1.size ≤ maxLen ∧ x.2.2.2.size ≤ maxLen) (fun i hi => by have := hz i hi; unfold SmallH at this; unfold maxLen; omega)
  have HT : Hid (TxsP ss → TxsP (comO ss)) := fun h => selL_prop (P := fun x => 0 ≤ x.1 ∧ x.1 ≤ 5) h
  have HOL : Hid ((comO ss).length ≤ 1048576) := Nat.le_trans (selL_len _ _ _) hl
  obtain ⟨i0, hi, hz0, hz1, hz2⟩ := info_parts info48
  generalize hisC ss = c at *
  generalize cfL ss = L at *
  clear h hl hz
  go_enter Try.func15, Try.ntmps15
  go_wp2_with fail
  refine hcall.mono ?_
  rintro e w1 ⟨rfl, B1⟩
  clear hcall
  by_cases hc : c = 0
  · subst hc
    have E : Hid (L = allE (cfF (comO ss) (comO ss).length 0) 6) := HC.out
    have HTX := HOK.out rfl
    have hcall : Calls Try.prog 70 #[.slice a ss.length cap] w1 fun e w' => ∃ v, e = .returned v ∧ OwnH w' w1.heap.size v (comO ss) ∧ Below w1.heap.size w1 w' := committedOps_any a cap ss w1 (HR.out.below B1) HLL.out HTX
    have HTO : Hid (TxsP (comO ss)) := HT.out HTX
    generalize comO ss = ops at *
    clear HT HTX
    go_wp2_with fail
    refine hcall.mono ?_
    rintro e w2 ⟨v2, rfl, o2, b2⟩
    clear hcall
    have B2 := below_step B1 (Nat.le_refl _) b2
    obtain ⟨a2, c2, rfl, r2, hc2⟩ := OwnH.cap o2 HZ.out
    have hcall := conflictFlags_any a2 c2 ops w2 r2 HOL.out hc2 HTO.out
    generalize cfF ops ops.length 0 = f at *
    clear o2 b2 B1 r2 hc2
    go_wp2_with fail
    refine hcall.mono ?_
    rintro e w3 ⟨rfl, b3⟩
    clear hcall
    have B3 := below_step B2 (Nat.le_refl _) b3
    clear b3 B2
    obtain ⟨A, hA⟩ : ∃ A, fl2A f = A := ⟨_, rfl⟩
    have HA : Hid (∀ k : Nat, k < 6 → ∀ w, (Instr.index 95 (.agg A) (.int .i64 (k : Int))).run Try.prog w = .ok (FlV (f k)) w) := fun k hk w => hA ▸ run_index_fl2 f k hk w
    rw [hA]
    clear hA
    have o0 : OwnP w3 w.heap.size (.slice none 0 0) [] := OwnP.nil _ _
    go_wp2
    go_loopw [5, 18] (fun v i wr => ∃ k : Nat, k ≤ 6 ∧ i = .int .i64 k ∧ OwnP wr w.heap.size v (allE f k) ∧ Below w.heap.size w wr) (fun _ i _ => 6 - (intOf i).toNat)
    case atStart => exact ⟨0, by omega, rfl, o0, B3⟩
    case round =>
      clear o0 B3
      obtain ⟨k, hk, rfl, hO, hbl⟩ := hrel
      have HO : Hid (OwnP wr w.heap.size u5 (allE f k)) := hO
      clear hO
      by_cases hlt : k < 6
      · have hltI : (k : Int) < 6 := by omega
        have hg := HA.out k hlt wr
        obtain ⟨W1, hW1⟩ : ∃ W1, wr.alloc (.cells (flA (f k)) 93) = W1 := ⟨_, rfl⟩
        have b1 : Below wr.heap.size wr W1 := hW1 ▸ (Below.refl _ _).alloc (Nat.le_refl _) _
        have yb : FlB W1 wr.heap.size (f k) := hW1 ▸ heap_new' _ _ _ rfl
        have hB1 := below_step hbl (Nat.le_refl _) b1
        have HO1 : OwnP W1 w.heap.size u5 (allE f k ++ rowE f k 0) := by show OwnP _ _ _ (allE f k ++ []); rw [List.append_nil]; exact own_keep HO.out fun g _ hg => b1.block g hg
        have c0 : ∀ o, W1.cell? ⟨wr.heap.size, o, none⟩ = (flA (f k))[o]? := fun o => slab_cell yb
        clear yb b1 HO hbl
        go_wp2
        go_loopw [5, 23] (fun v i wr => ∃ j : Nat, j ≤ 6 ∧ i = .int .i64 j ∧ OwnP wr w.heap.size v (allE f k ++ rowE f k j) ∧ Below w.heap.size w wr) (fun _ i _ => 6 - (intOf i).toNat)
        case atStart => exact ⟨0, by omega, rfl, HO1, hB1⟩
        case round =>
          clear HO1 hB1 hg hW1 c0
          obtain ⟨j, hj, rfl, hO, hbj⟩ := hrel
          have HO : Hid (OwnP wr w.heap.size u5 (allE f k ++ rowE f k j)) := hO
          clear hO
          by_cases hlt2 : j < 6
          · have hlt2I : (j : Int) < 6 := by omega
            have hg : (Instr.index 93 (.agg #[.bool (f k 0), .bool (f k 1), .bool (f k 2), .bool (f k 3), .bool (f k 4), .bool (f k 5)]) (.int .i64 (j : Int))).run Try.prog wr = .ok (.bool (f k j)) wr := run_index_fl (f k) j hlt2 wr
            cases hf : f k j with
            | true =>
              rw [hf] at hg
              have HN : Hid (allE f k ++ rowE f k (j + 1) = (allE f k ++ rowE f k j) ++ [((k : Int), (j : Int))]) := by
                show allE f k ++ (if f k j = true then _ else _) = _
                rw [hf, List.append_assoc]
                rfl
              have hll : (allE f k ++ rowE f k j).length ≤ 36 := by
                have h1 := allE_len f k
                have h2 := rowE_len f k j
                rw [List.length_append]
                omega
              obtain ⟨fl, hfl⟩ : ∃ fl, allE f k ++ rowE f k j = fl := ⟨_, rfl⟩
              rw [hfl] at HN HO hll
              clear hfl hf
              have hs0 : w.heap.size ≤ wr.heap.size := hbj.size
              go_wp2_with (at_builtin; refine wpList_append_own _ rfl _ _ 28 rfl w.heap.size 48 i0 (.agg #[.int .i64 0, .int .i64 0]) 2 16 Try.underlying28 hi hz0 hz1 hz2 rfl (by decide) _ _ _ rfl (HO.out.alloc _) ⟨wr.heap.size, 0, none⟩ 1 1 [.int .i64 k, .int .i64 j] rfl rfl ?m0 ?m4 ?m1 ?m2 ?m3 ?_)
              case m0 => exact cell_two_new _ _ _ _
              case m4 => intro u hu; simp at hu; rcases hu with rfl | rfl <;> rfl
              case m1 => unfold maxLen; omega
              case m2 => omega
              case m3 => first | omega | (simp; omega)
              intro v' w2 ho2 g2 _
              have HO2 : Hid (OwnP w2 w.heap.size v' (allE f k ++ rowE f k (j + 1))) := by show OwnP _ _ _ _; rw [HN.out]; exact OwnP.snoc (p := ((k : Int), (j : Int))) ho2
              have B2 : Hid (Below w.heap.size w w2) := own_belowX (hbj.alloc hbj.size _) (by simp; omega) (HO.out.alloc _) g2
              clear ho2 g2
              go_wp2
              go_roundw
              case rel => exact ⟨j + 1, by omega, by go_num, HO2.out, B2.out⟩
              case measure => simp [intOf]; omega
            | false =>
              rw [hf] at hg
              have HN : Hid (rowE f k (j + 1) = rowE f k j) := by
                show (if f k j = true then _ else _) = _
                rw [hf]
                rfl
              clear hf
              go_wp2
              go_roundw
              case rel => exact ⟨j + 1, by omega, by go_num, by rw [HN.out]; exact HO.out, hbj⟩
              case measure => simp [intOf]; omega
          · obtain rfl : j = 6 := by omega
            have HN : Hid (OwnP wr w.heap.size u5 (allE f (k + 1))) := HO.out
            go_wp2
            go_roundw
            case rel => exact ⟨k + 1, by omega, by go_num, HN.out, hbj⟩
            case measure => simp [intOf]; omega
      · obtain rfl : k = 6 := by omega
        go_wp2
        go_ret2
        rw [E.out]
        exact ⟨_, rfl, HO.out, hbl⟩
  · have E : Hid (L = []) := by show _ = _; rw [HC.out, if_neg hc]
    have hc' : (c == 0) = false := by simpa using hc
    clear hc
    go_wp2
    go_ret2
    rw [E.out]
    exact ⟨_, rfl, OwnP.nil _ _, B1⟩
end Go.Proofs.Ytlcgmifibekegaa
