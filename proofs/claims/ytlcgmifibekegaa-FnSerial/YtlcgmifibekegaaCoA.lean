/- Who is committed: both sides (stage 8). -/
import Derived.Test.YtlcgmifibekegaaHoD
import Derived.Test.YtlcgmifibekegaaInA
namespace Go.Proofs.Ytlcgmifibekegaa
open Go.RowKit

/-- The history's code. -/
noncomputable def hisC (ss : List TH) : Int := if 4096 < ss.length then 2 else if asB (HistP ss) = true then 0 else 1
set_option maxRecDepth 100000 in
theorem historyCode_any (a : Option Addr) (cap : Nat) (ss : List TH) (w : World) (h : RowH w a ss) (hl : ss.length ≤ 1048576) :
    Calls Try.prog 67 #[.slice a ss.length cap] w fun e w' => e = .returned (.int .i64 (hisC ss)) ∧ Below w.heap.size w w' := by
  have hcall := implHistoryOK_any a cap ss w h hl
  have HC : Hid (hisC ss = if 4096 < ss.length then 2 else if asB (HistP ss) = true then 0 else 1) := rfl
  generalize hisC ss = c at *
  obtain ⟨len, hlen⟩ : ∃ m, ss.length = m := ⟨_, rfl⟩
  rw [hlen] at hl hcall HC ⊢
  clear hlen h
  by_cases h4 : (4096 : Int) < (len : Int)
  · have E : Hid (c = 2) := by show _ = _; rw [HC.out, if_pos (by omega)]
    go_enter Try.func67, Try.ntmps67
    go_wp2
    go_ret
    exact ⟨ret_int' E.out.symm, Below.refl _ _⟩
  · go_enter Try.func67, Try.ntmps67
    go_wp2_with fail
    refine hcall.mono ?_
    rintro e w1 ⟨rfl, b1⟩
    clear hcall
    cases hp : asB (HistP ss) with
    | false =>
      have E : Hid (c = 1) := by show _ = _; rw [HC.out, if_neg (by omega), hp]; rfl
      clear hp
      go_wp2
      go_ret
      exact ⟨ret_int' E.out.symm, b1⟩
    | true =>
      have E : Hid (c = 0) := by show _ = _; rw [HC.out, if_neg (by omega), hp]; rfl
      clear hp
      go_wp2
      go_ret
      exact ⟨ret_int' E.out.symm, b1⟩

/-- Who commits in the first k acts. -/
noncomputable def comF (ss : List TH) (k t : Nat) : Bool := asB (∃ i, i < k ∧ (nthH ss i).1 = (t : Int) ∧ (nthH ss i).2.1 = 3)
theorem comF_at {ss : List TH} {k T : Nat} (h : (nthH ss k).1 = (T : Int)) (h3 : (nthH ss k).2.1 = 3) : comF ss (k + 1) T = true := (asB_true ⟨k, by omega, h, h3⟩).symm
theorem comF_oth {ss : List TH} {k i : Nat} (h : ¬ ((nthH ss k).1 = (i : Int) ∧ (nthH ss k).2.1 = 3)) : comF ss (k + 1) i = comF ss k i := by
  refine asB_iff ⟨fun ⟨j, h1, h2⟩ => ?_, fun ⟨j, h1, h2⟩ => ⟨j, by omega, h2⟩⟩
  by_cases e : j = k
  · subst e; exact absurd h2 h
  · exact ⟨j, by omega, h2⟩
/-- All transactions are of the history's six. -/
def TxsP (ss : List TH) : Prop := ∀ i, i < ss.length → 0 ≤ (nthH ss i).1 ∧ (nthH ss i).1 ≤ 5
theorem HistP.txs {ss : List TH} (h : HistP ss) : TxsP ss := fun i hi => (h.2 i hi).1.1.1
/-- Six flags as a value. -/
abbrev FlV (f : Nat → Bool) : Value := .agg (flA f)

set_option maxRecDepth 100000 in
set_option maxHeartbeats 2000000 in
theorem committedFlags_any (a : Option Addr) (cap : Nat) (ss : List TH) (w : World) (h : RowH w a ss) (hl : ss.length ≤ 1048576) (hp : TxsP ss) :
    Calls Try.prog 68 #[.slice a ss.length cap] w fun e w' => e = .returned (FlV (comF ss ss.length)) ∧ Below w.heap.size w w' := by
  have HR : Hid (RowH w a ss) := h
  have HP : Hid (TxsP ss) := hp
  clear h hp
  obtain ⟨len, hlen⟩ : ∃ m, ss.length = m := ⟨_, rfl⟩
  have HL : Hid (ss.length = len) := hlen
  rw [hlen] at hl ⊢
  clear hlen
  have X0 : Hid (FlB ((w.alloc (.cells #[.bool false, .bool false, .bool false, .bool false, .bool false, .bool false] 93)).alloc (.cells #[.bool false, .bool false, .bool false, .bool false, .bool false, .bool false] 93)) (w.heap.size + 1) (comF ss 0)) := by
    have e0 : ∀ t, comF ss 0 t = false := fun t => (asB_false (fun ⟨i, h, _⟩ => by omega)).symm
    have e1 : flA (comF ss 0) = #[.bool false, .bool false, .bool false, .bool false, .bool false, .bool false] := by simp [flA, e0]
    show _ = some (Obj.cells (flA (comF ss 0)) 93 (0, 0))
    rw [e1]
    exact heap_new' _ _ _ (by simp)
  have Y0 : Hid (((w.alloc (.cells #[.bool false, .bool false, .bool false, .bool false, .bool false, .bool false] 93)).alloc (.cells #[.bool false, .bool false, .bool false, .bool false, .bool false, .bool false] 93)).heap[w.heap.size]? = some (.cells #[.bool false, .bool false, .bool false, .bool false, .bool false, .bool false] 93 (0, 0))) := (heap_old _ _ _ (by simp)).trans (heap_new' _ _ _ rfl)
  go_enter Try.func68, Try.ntmps68
  go_wp2
  go_loopw [8] (fun i wr => ∃ k : Nat, k ≤ len ∧ i = .int .i64 k ∧ Hid (FlB wr (w.heap.size + 1) (comF ss k) ∧ wr.heap[w.heap.size]? = some (.cells #[.bool false, .bool false, .bool false, .bool false, .bool false, .bool false] 93 (0, 0))) ∧ Below w.heap.size w wr) (fun i _ => len - (intOf i).toNat)
  case atStart => exact ⟨0, by omega, rfl, ⟨X0.out, Y0.out⟩, ((Below.refl _ _).alloc (Nat.le_refl _) _).alloc (by simp) _⟩
  case round =>
    clear X0 Y0
    obtain ⟨k, hk, rfl, HF, hbl⟩ := hrel
    have hlw : w.heap.size + 1 < wr.heap.size := slab_lt HF.out.1
    by_cases hlt : k < len
    · obtain ⟨b, off, rfl, hlb, ⟨q0, q1, q2, q3⟩, _, _⟩ := (HR.out.below hbl) k (by rw [HL.out]; exact hlt)
      have hltI : (k : Int) < (len : Int) := by omega
      obtain ⟨t0, t5⟩ := HP.out k (by rw [HL.out]; exact hlt)
      obtain ⟨x, hx⟩ : ∃ x, nthH ss k = x := ⟨_, rfl⟩
      have HX : Hid (nthH ss k = x) := hx
      rw [hx] at q0 q1 q2 q3 t0 t5
      clear hx
      obtain ⟨tx, kd, ky, va⟩ := x
      simp only at t0 t5
      obtain ⟨T, rfl⟩ := Int.eq_ofNat_of_zero_le t0
      have hT : T < 6 := by omega
      have hTI : (T : Int) < 6 := by omega
      have HTX : Hid ((nthH ss k).1 = (T : Int)) := by show _ = _; rw [HX.out]
      have HKX : Hid ((nthH ss k).2.1 = kd) := by show _ = _; rw [HX.out]
      obtain ⟨W1, hW1⟩ : ∃ W1, wr.alloc (.cells #[.int .i64 T, .int .i64 kd, .string ky, .string va] 107) = W1 := ⟨_, rfl⟩
      have b1 : Below wr.heap.size wr W1 := hW1 ▸ (Below.refl _ _).alloc (Nat.le_refl _) _
      have yb : W1.heap[wr.heap.size]? = some (.cells #[.int .i64 T, .int .i64 kd, .string ky, .string va] 107 (0, 0)) := hW1 ▸ heap_new' _ _ _ rfl
      have hB1 := below_step hbl (Nat.le_refl _) b1
      have HF1 : Hid (FlB W1 (w.heap.size + 1) (comF ss k) ∧ W1.heap[w.heap.size]? = some (.cells #[.bool false, .bool false, .bool false, .bool false, .bool false, .bool false] 93 (0, 0))) := ⟨(b1.block _ hlw).trans HF.out.1, (b1.block _ (by omega)).trans HF.out.2⟩
      have m0 : W1.cell? ⟨wr.heap.size, 0, none⟩ = some (.int .i64 T) := slab_cell yb
      have m1 : W1.cell? ⟨wr.heap.size, 1, none⟩ = some (.int .i64 kd) := slab_cell yb
      clear yb b1 HF
      by_cases h3 : kd = 3
      · subst h3
        have hf1 : W1.frozen? ⟨w.heap.size + 1, T, none⟩ = false := slab_free HF1.out.1
        obtain ⟨v1, hv1⟩ : ∃ v, W1.cell? ⟨w.heap.size + 1, T, none⟩ = some v := ⟨_, (slab_cell HF1.out.1).trans (flA_get _ _ hT)⟩
        have HN : Hid (FlB (W1.setCell ⟨w.heap.size + 1, T, none⟩ (.bool true)) (w.heap.size + 1) (comF ss (k + 1)) ∧ (W1.setCell ⟨w.heap.size + 1, T, none⟩ (.bool true)).heap[w.heap.size]? = some (.cells #[.bool false, .bool false, .bool false, .bool false, .bool false, .bool false] 93 (0, 0))) :=
          ⟨FlB.set HF1.out.1 hT (comF_at HTX.out HKX.out) (fun i hi => comF_oth (fun h => by have := HTX.out; omega)), (set_oth (by omega)).trans HF1.out.2⟩
        have hB2 : Below w.heap.size w (W1.setCell ⟨w.heap.size + 1, T, none⟩ (.bool true)) := hB1.setCell (p := ⟨w.heap.size + 1, T, none⟩) (by simp) _
        clear HF1 hB1
        go_wp2
        go_roundw
        case rel => exact ⟨k + 1, by omega, by go_num, HN, hB2⟩
        case measure => simp [intOf]; omega
      · have e3 : (kd == 3) = false := by simpa using h3
        have HN : Hid (FlB W1 (w.heap.size + 1) (comF ss (k + 1)) ∧ W1.heap[w.heap.size]? = some (.cells #[.bool false, .bool false, .bool false, .bool false, .bool false, .bool false] 93 (0, 0))) := by
          have e : ∀ i, comF ss (k + 1) i = comF ss k i := fun i => comF_oth (fun h => h3 (HKX.out ▸ h.2))
          refine ⟨?_, HF1.out.2⟩
          show _ = some (Obj.cells (flA (comF ss (k + 1))) 93 (0, 0))
          rw [show flA (comF ss (k + 1)) = flA (comF ss k) by simp [flA, e]]
          exact HF1.out.1
        clear HF1 h3
        go_wp2
        go_roundw
        case rel => exact ⟨k + 1, by omega, by go_num, HN, hB1⟩
        case measure => simp [intOf]; omega
    · obtain rfl : k = len := by omega
      have c0 : ∀ o, wr.cell? ⟨w.heap.size + 1, o, none⟩ = (flA (comF ss k))[o]? := fun o => slab_cell HF.out.1
      have c1 : ∀ o, wr.cell? ⟨w.heap.size, o, none⟩ = #[.bool false, .bool false, .bool false, .bool false, .bool false, .bool false][o]? := fun o => slab_cell HF.out.2
      have f1 : ∀ o, wr.frozen? ⟨w.heap.size, o, none⟩ = false := fun o => slab_free HF.out.2
      have E5 : Hid (∃ W5, ((((((wr.setCell ⟨w.heap.size, 0, none⟩ (.bool (comF ss k 0))).setCell ⟨w.heap.size, 1, none⟩ (.bool (comF ss k 1))).setCell ⟨w.heap.size, 2, none⟩ (.bool (comF ss k 2))).setCell ⟨w.heap.size, 3, none⟩ (.bool (comF ss k 3))).setCell ⟨w.heap.size, 4, none⟩ (.bool (comF ss k 4))).setCell ⟨w.heap.size, 5, none⟩ (.bool (comF ss k 5))) = W5 ∧ FlB W5 w.heap.size (comF ss k) ∧ Below w.heap.size w W5) := by
        refine ⟨_, rfl, ?_, (((((hbl.setCell (p := ⟨w.heap.size, 0, none⟩) (Nat.le_refl _) _).setCell (p := ⟨w.heap.size, 1, none⟩) (Nat.le_refl _) _).setCell (p := ⟨w.heap.size, 2, none⟩) (Nat.le_refl _) _).setCell (p := ⟨w.heap.size, 3, none⟩) (Nat.le_refl _) _).setCell (p := ⟨w.heap.size, 4, none⟩) (Nat.le_refl _) _).setCell (p := ⟨w.heap.size, 5, none⟩) (Nat.le_refl _) _⟩
        exact slab_set (slab_set (slab_set (slab_set (slab_set (slab_set HF.out.2 _) _) _) _) _) _
      go_wp2
      obtain ⟨W5, h5, f5, b5⟩ := E5.out
      rw [h5]
      have d : ∀ o, W5.cell? ⟨w.heap.size, o, none⟩ = (flA (comF ss k))[o]? := fun o => slab_cell f5
      exact bodyPost_ret (v := FlV (comF ss k)) (by simp [results, Try.results68, go_sem, d]) rfl ⟨rfl, b5⟩
end Go.Proofs.Ytlcgmifibekegaa
