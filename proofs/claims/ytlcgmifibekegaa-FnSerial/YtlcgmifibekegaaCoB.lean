/- Who is committed: what both sides answer (stage 8). -/
import Derived.Test.YtlcgmifibekegaaCoA
import Derived.ChangeKeysEq
namespace Go.Proofs.Ytlcgmifibekegaa
open Go.RowKit

/-- The numbers below k whose flags are set. -/
def setL (f : Nat → Bool) : Nat → List Int
  | 0 => []
  | k + 1 => if f k = true then setL f k ++ [(k : Int)] else setL f k
theorem setL_len (f : Nat → Bool) : ∀ k, (setL f k).length ≤ k
  | 0 => Nat.le_refl _
  | k + 1 => by
    have := setL_len f k
    unfold setL
    split
    · simp; omega
    · omega
theorem setL_congr {f g : Nat → Bool} : ∀ k, (∀ i, i < k → f i = g i) → setL f k = setL g k
  | 0, _ => rfl
  | k + 1, h => by
    unfold setL
    rw [setL_congr k (fun i hi => h i (by omega)), h k (by omega)]
/-- What Committed answers. -/
noncomputable def cmL (ss : List TH) : List Int := if hisC ss = 0 then setL (comF ss ss.length) 6 else []
theorem cmL_len (ss : List TH) : (cmL ss).length ≤ 6 := by
  unfold cmL
  split
  · exact setL_len _ 6
  · exact Nat.zero_le _
theorem hisC_ok {ss : List TH} (h : hisC ss = 0) : HistP ss := by
  unfold hisC at h
  split at h
  · cases h
  · split at h
    · exact asB_is ‹_›
    · cases h
theorem run_index_fl (f : Nat → Bool) (k : Nat) (hk : k < 6) (w : World) : (Instr.index 93 (FlV f) (.int .i64 (k : Int))).run Try.prog w = .ok (.bool (f k)) w := by
  obtain ⟨i0, hi, _⟩ := info_parts info4
  have hp := run_part_plain (P := Try.prog) w (e := 4) (by kernel_rfl) (xs := flA f) (off := k) (v := .bool (f k)) (flA_get f k hk)
  simp [Instr.index, asIntOf, run_underlying Try.underlying93, run_sizeOf w hi, cells4, hp]
  intro h
  omega
/-- A list of numbers of the call's own, and a code. -/
abbrev RetI (w : World) (l : List Int) (c : Int) (r : Ending) (w' : World) : Prop := ∃ v, r = .returned (.tuple #[v, .int .i64 c]) ∧ OwnI w' w.heap.size v l ∧ Below w.heap.size w w'

set_option maxRecDepth 100000 in
set_option maxHeartbeats 2000000 in
theorem implCommitted_any (a : Option Addr) (cap : Nat) (ss : List TH) (w : World) (h : RowH w a ss) (hl : ss.length ≤ 1048576) :
    Calls Try.prog 14 #[.slice a ss.length cap] w (RetI w (cmL ss) (hisC ss)) := by
  have HR : Hid (RowH w a ss) := h
  have HLL : Hid (ss.length ≤ 1048576) := hl
  have hcall := historyCode_any a cap ss w h hl
  have HC : Hid (cmL ss = if hisC ss = 0 then setL (comF ss ss.length) 6 else []) := rfl
  have HOK : Hid (hisC ss = 0 → TxsP ss) := fun e => (hisC_ok e).txs
  obtain ⟨i0, hi, hz0, hz1, hz2⟩ := info_parts info3
  generalize hisC ss = c at *
  generalize cmL ss = L at *
  clear h hl
  go_enter Try.func14, Try.ntmps14
  go_wp2_with fail
  refine hcall.mono ?_
  rintro e w1 ⟨rfl, B1⟩
  clear hcall
  by_cases hc : c = 0
  · subst hc
    have E : Hid (L = setL (comF ss ss.length) 6) := HC.out
    have hcall := committedFlags_any a cap ss w1 (HR.out.below B1) HLL.out (HOK.out rfl)
    generalize comF ss ss.length = f at *
    go_wp2_with fail
    refine hcall.mono ?_
    rintro e w2 ⟨rfl, b2⟩
    clear hcall
    have B2 := below_step B1 (Nat.le_refl _) b2
    clear b2 B1
    have o0 : OwnI w2 w.heap.size (.slice none 0 0) [] := OwnI.nil _ _
    go_wp2
    go_loopw [5, 15] (fun v i wr => ∃ k : Nat, k ≤ 6 ∧ i = .int .i64 k ∧ OwnI wr w.heap.size v (setL f k) ∧ Below w.heap.size w wr) (fun _ i _ => 6 - (intOf i).toNat)
    case atStart => exact ⟨0, by omega, rfl, o0, B2⟩
    case round =>
      clear o0 B2
      obtain ⟨k, hk, rfl, hO, hbl⟩ := hrel
      have HO : Hid (OwnI wr w.heap.size u5 (setL f k)) := hO
      clear hO
      by_cases hlt : k < 6
      · have hltI : (k : Int) < 6 := by omega
        have hg := run_index_fl f k hlt wr
        cases hf : f k with
        | true =>
          rw [hf] at hg
          have HN : Hid (setL f (k + 1) = setL f k ++ [(k : Int)]) := by
            show (if f k = true then _ else _) = _
            rw [hf]
            rfl
          have hll := setL_len f k
          obtain ⟨fl, hfl⟩ : ∃ fl, setL f k = fl := ⟨_, rfl⟩
          rw [hfl] at HN HO hll
          clear hfl hf
          go_wp2_with (at_builtin; refine wpList_append_own _ rfl _ _ 25 rfl w.heap.size 3 i0 (.int .i64 0) 1 8 Try.underlying25 hi hz0 hz1 hz2 rfl (by decide) _ _ _ rfl (HO.out.alloc _) ⟨wr.heap.size, 0, none⟩ 1 1 [.int .i64 k] rfl rfl (cell_one_new _ _ _) (ints_oneCell .i64 [(k : Int)]) ?m1 ?m2 ?m3 ?_)
          case m1 => unfold maxLen; omega
          case m2 => omega
          case m3 => simp; have := hbl.size; omega
          intro v' w2 ho2 g2 _
          have HO2 : Hid (OwnI w2 w.heap.size v' (setL f (k + 1))) := by show OwnI _ _ _ _; rw [HN.out]; exact OwnI.snoc ho2
          have B2 : Hid (Below w.heap.size w w2) := own_below (hbl.alloc hbl.size _) (by simp; have := hbl.size; omega) (HO.out.alloc _) g2
          clear ho2 g2
          go_wp2
          go_roundw
          case rel => exact ⟨k + 1, by omega, by go_num, HO2.out, B2.out⟩
          case measure => simp [intOf]; omega
        | false =>
          rw [hf] at hg
          have HN : Hid (setL f (k + 1) = setL f k) := by
            show (if f k = true then _ else _) = _
            rw [hf]
            rfl
          clear hf
          go_wp2
          go_roundw
          case rel => exact ⟨k + 1, by omega, by go_num, by rw [HN.out]; exact HO.out, hbl⟩
          case measure => simp [intOf]; omega
      · obtain rfl : k = 6 := by omega
        go_wp2
        go_ret2
        rw [E.out]
        exact ⟨_, rfl, HO.out, hbl⟩
  · have E : Hid (L = []) := by show _ = _; rw [HC.out, if_neg hc]
    have hc' : (c == 0) = false := by simpa using hc
    clear hc
    go_wp2
    go_ret2
    rw [E.out]
    exact ⟨_, rfl, OwnI.nil _ _, B1⟩

/-- Who commits by his first end. -/
noncomputable def comG (ss : List TH) (t : Nat) : Bool := asB (∃ k : Nat, k < ss.length ∧ EndAt ss t k ∧ (∀ i, i < k → ¬ EndAt ss t i) ∧ (nthH ss k).2.1 = 3)
theorem comG_done {ss : List TH} {t : Nat} {r : Int} (h : DoneIs ss t r) : (r < 0 → comG ss t = false) ∧ ∀ k : Nat, r = k → comG ss t = decide ((nthH ss k).2.1 = 3) := by
  rcases h with ⟨rfl, h⟩ | ⟨k, rfl, hk, he, hb⟩
  · exact ⟨fun _ => (asB_false fun ⟨k, h1, h2, _⟩ => h k h1 h2).symm, fun k hk => by omega⟩
  · refine ⟨fun h => by omega, fun k' e => ?_⟩
    obtain rfl : k = k' := by omega
    refine (asB_eq ⟨fun ⟨j, j1, j2, j3, j4⟩ => ?_, fun e => ⟨k, hk, he, hb, of_decide_eq_true e⟩⟩).symm
    obtain rfl : j = k := by
      rcases Nat.lt_trichotomy j k with h | h | h
      · exact absurd j2 (hb j h)
      · exact h
      · exact absurd he (j3 k h)
    exact decide_eq_true j4
theorem comG_F {ss : List TH} (h : HistP ss) (t : Nat) : comG ss t = comF ss ss.length t := by
  refine asB_iff ⟨fun ⟨k, h1, h2, _, h4⟩ => ⟨k, h1, h2.1, h4⟩, fun ⟨k, h1, h2, h4⟩ => ⟨k, h1, ⟨h2, by omega⟩, fun i hi he => ?_, h4⟩⟩
  exact (h.2 k h1).1.2 i hi (h2 ▸ he)

set_option maxRecDepth 100000 in
set_option maxHeartbeats 2000000 in
theorem l08Committed_any (a : Option Addr) (cap : Nat) (ss : List TH) (w : World) (h : RowH w a ss) (hl : ss.length ≤ 1048576) :
    Calls Try.prog 90 #[.slice a ss.length cap] w fun e w' => ∃ v, e = .returned v ∧ OwnI w' w.heap.size v (setL (comG ss) 6) ∧ Below w.heap.size w w' := by
  have HR : Hid (RowH w a ss) := h
  clear h
  obtain ⟨len, hlen⟩ : ∃ m, ss.length = m := ⟨_, rfl⟩
  have HL : Hid (ss.length = len) := hlen
  rw [hlen] at hl ⊢
  clear hlen
  obtain ⟨i0, hi, hz0, hz1, hz2⟩ := info_parts info3
  have o0 : Hid (OwnI (w.alloc (.cells #[] 3)) w.heap.size (.slice (some ⟨w.heap.size, 0, none⟩) 0 0) []) := OwnI.made w w.heap.size (Nat.le_refl _)
  go_enter Try.func90, Try.ntmps90
  go_wp2
  go_loopw [3, 4] (fun v i wr => ∃ k : Nat, k ≤ 6 ∧ i = .int .i64 k ∧ OwnI wr w.heap.size v (setL (comG ss) k) ∧ Below w.heap.size w wr) (fun _ i _ => 6 - (intOf i).toNat)
  case atStart => exact ⟨0, by omega, rfl, o0.out, (Below.refl _ _).alloc (Nat.le_refl _) _⟩
  case round =>
    clear o0
    obtain ⟨k, hk, rfl, hO, hbl⟩ := hrel
    have HO : Hid (OwnI wr w.heap.size u3 (setL (comG ss) k)) := hO
    clear hO
    by_cases hlt : k < 6
    · have hcall := l08Done_any a cap ss k wr (HR.out.below hbl) (by rw [HL.out]; exact hl)
      rw [HL.out] at hcall
      go_wp2_with fail
      refine hcall.mono ?_
      rintro e w1 ⟨r, rfl, hd, hq⟩
      obtain rfl := hq.symm
      clear hcall
      have HD : Hid (DoneIs ss k r) := hd
      clear hd
      by_cases r0 : r < 0
      · have HN : Hid (setL (comG ss) (k + 1) = setL (comG ss) k) := by
          show (if comG ss k = true then _ else _) = _
          rw [(comG_done HD.out).1 r0]
          rfl
        go_wp2
        go_roundw
        case rel => exact ⟨k + 1, by omega, by go_num, by rw [HN.out]; exact HO.out, hbl⟩
        case measure => simp [intOf]; omega
      · obtain ⟨R, rfl⟩ := Int.eq_ofNat_of_zero_le (show 0 ≤ r by omega)
        have HG : Hid (comG ss k = decide ((nthH ss R).2.1 = 3)) := (comG_done HD.out).2 R rfl
        have hR : R < len := by
          rcases HD.out with ⟨h, _⟩ | ⟨k', h, h', _⟩
          · omega
          · rw [HL.out] at h'; omega
        have hRI : (R : Int) < (len : Int) := by omega
        obtain ⟨b, off, rfl, hlb, ⟨q0, q1, q2, q3⟩, _, _⟩ := (HR.out.below hbl) R (by rw [HL.out]; exact hR)
        by_cases h3 : (nthH ss R).2.1 = 3
        · have HN : Hid (setL (comG ss) (k + 1) = setL (comG ss) k ++ [(k : Int)]) := by
            show (if comG ss k = true then _ else _) = _
            rw [HG.out, decide_eq_true h3]
            rfl
          have e3 : ((nthH ss R).2.1 == 3) = true := by simpa using h3
          have hll := setL_len (comG ss) k
          obtain ⟨fl, hfl⟩ : ∃ fl, setL (comG ss) k = fl := ⟨_, rfl⟩
          rw [hfl] at HN HO hll
          clear hfl h3 HG
          go_wp2_with (at_builtin; refine wpList_append_own _ rfl _ _ 25 rfl w.heap.size 3 i0 (.int .i64 0) 1 8 Try.underlying25 hi hz0 hz1 hz2 rfl (by decide) _ _ _ rfl (HO.out.alloc _) ⟨wr.heap.size, 0, none⟩ 1 1 [.int .i64 k] rfl rfl (cell_one_new _ _ _) (ints_oneCell .i64 [(k : Int)]) ?m1 ?m2 ?m3 ?_)
          case m1 => unfold maxLen; omega
          case m2 => omega
          case m3 => simp; have := hbl.size; omega
          intro v' w2 ho2 g2 _
          have HO2 : Hid (OwnI w2 w.heap.size v' (setL (comG ss) (k + 1))) := by show OwnI _ _ _ _; rw [HN.out]; exact OwnI.snoc ho2
          have B2 : Hid (Below w.heap.size w w2) := own_below (hbl.alloc hbl.size _) (by simp; have := hbl.size; omega) (HO.out.alloc _) g2
          clear ho2 g2
          go_wp2
          go_roundw
          case rel => exact ⟨k + 1, by omega, by go_num, HO2.out, B2.out⟩
          case measure => simp [intOf]; omega
        · have HN : Hid (setL (comG ss) (k + 1) = setL (comG ss) k) := by
            show (if comG ss k = true then _ else _) = _
            rw [HG.out, decide_eq_false h3]
            rfl
          have e3 : ((nthH ss R).2.1 == 3) = false := by simpa using h3
          clear h3 HG
          go_wp2
          go_roundw
          case rel => exact ⟨k + 1, by omega, by go_num, by rw [HN.out]; exact HO.out, hbl⟩
          case measure => simp [intOf]; omega
    · obtain rfl : k = 6 := by omega
      go_wp2
      go_ret
      exact ⟨_, rfl, HO.out, hbl⟩

set_option maxRecDepth 100000 in
set_option maxHeartbeats 2000000 in
theorem specCommitted_any (a : Option Addr) (cap : Nat) (ss : List TH) (w : World) (h : RowH w a ss) (hl : ss.length ≤ 1048576) :
    Calls Try.prog 38 #[.slice a ss.length cap] w (RetI w (cmL ss) (hisC ss)) := by
  have HR : Hid (RowH w a ss) := h
  have hcall := specHistoryOK_any a cap ss w h hl
  have HC : Hid (cmL ss = if hisC ss = 0 then setL (comF ss ss.length) 6 else []) := rfl
  have HS : Hid (hisC ss = if 4096 < ss.length then 2 else if asB (HistP ss) = true then 0 else 1) := rfl
  have HG : Hid (HistP ss → setL (comG ss) 6 = setL (comF ss ss.length) 6) := fun h => setL_congr 6 (fun i _ => comG_F h i)
  generalize hisC ss = c at *
  generalize cmL ss = L at *
  obtain ⟨F, hF⟩ : ∃ F, setL (comF ss ss.length) 6 = F := ⟨_, rfl⟩
  rw [hF] at HC HG
  clear hF h
  obtain ⟨len, hlen⟩ : ∃ m, ss.length = m := ⟨_, rfl⟩
  have HL : Hid (ss.length = len) := hlen
  rw [hlen] at hl hcall HS ⊢
  clear hlen
  by_cases h4 : (4096 : Int) < (len : Int)
  · have E1 : Hid (c = 2) := by show _ = _; rw [HS.out, if_pos (by omega)]
    have E2 : Hid (L = []) := by show _ = _; rw [HC.out, E1.out]; rfl
    have O1 : Hid (OwnI (w.alloc (.cells #[] 3)) w.heap.size (.slice (some ⟨w.heap.size, 0, none⟩) 0 0) []) := OwnI.made w w.heap.size (Nat.le_refl _)
    go_enter Try.func38, Try.ntmps38
    go_wp2
    go_ret2
    rw [E1.out, E2.out]
    exact ⟨_, rfl, O1.out, (Below.refl _ _).alloc (Nat.le_refl _) _⟩
  · go_enter Try.func38, Try.ntmps38
    go_wp2_with fail
    refine hcall.mono ?_
    rintro e w1 ⟨rfl, b1⟩
    clear hcall
    cases hp : asB (HistP ss) with
    | false =>
      have E1 : Hid (c = 1) := by show _ = _; rw [HS.out, if_neg (by omega), hp]; rfl
      have E2 : Hid (L = []) := by show _ = _; rw [HC.out, E1.out]; rfl
      have O1 : Hid (OwnI (w1.alloc (.cells #[] 3)) w.heap.size (.slice (some ⟨w1.heap.size, 0, none⟩) 0 0) []) := OwnI.made w1 w.heap.size b1.size
      clear hp
      go_wp2
      go_ret2
      rw [E1.out, E2.out]
      exact ⟨_, rfl, O1.out, b1.alloc b1.size _⟩
    | true =>
      have E1 : Hid (c = 0) := by show _ = _; rw [HS.out, if_neg (by omega), hp]; rfl
      have E2 : Hid (L = setL (comG ss) 6) := by show _ = _; rw [HC.out, E1.out, HG.out (asB_is hp)]; rfl
      have hcall := l08Committed_any a cap ss w1 (HR.out.below b1) (by rw [HL.out]; exact hl)
      rw [HL.out] at hcall
      clear hp
      go_wp2_with fail
      refine hcall.mono ?_
      rintro e w2 ⟨v, rfl, o2, b2⟩
      have O2 : Hid (OwnI w2 w.heap.size v (setL (comG ss) 6)) := own_mono o2 b1.size
      have B2 := below_step b1 (Nat.le_refl _) b2
      clear o2 b2 b1 hcall
      go_wp2
      go_ret2
      rw [E1.out, E2.out]
      exact ⟨_, rfl, O2.out, B2⟩
end Go.Proofs.Ytlcgmifibekegaa
