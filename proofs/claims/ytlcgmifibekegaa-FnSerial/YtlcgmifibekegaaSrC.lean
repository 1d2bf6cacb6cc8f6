/- One whole behind the other: impl's answer (stage 8). -/
import Derived.Test.YtlcgmifibekegaaSrB
import Derived.Test.YtlcgmifibekegaaCfA
namespace Go.Proofs.Ytlcgmifibekegaa
open Go.RowKit

/-- The acts of t among the first m. -/
def selT (ss : List TH) (t : Int) (m : Nat) : List TH := (ss.take m).filter (fun x => x.1 == t)
/-- The acts of the first k of ord, one whole behind the other. -/
def shA (ss : List TH) (ord : List Int) (k : Nat) : List TH := (ord.take k).flatMap (fun t => selT ss t ss.length)
theorem selT_step {ss : List TH} {t : Int} {m : Nat} (h : m < ss.length) : selT ss t (m + 1) = if ((nthH ss m).1 == t) = true then selT ss t m ++ [nthH ss m] else selT ss t m := by
  unfold selT
  rw [take_snoc h, List.filter_append]
  cases hf : ((nthH ss m).1 == t)
  · simp only [List.filter_cons, hf]; simp
  · simp only [List.filter_cons, hf]; simp
theorem selT_len (ss : List TH) (t : Int) (m : Nat) : (selT ss t m).length ≤ m := by
  unfold selT
  have := List.length_filter_le (fun x : TH => x.1 == t) (ss.take m)
  have := List.length_take_le m ss
  omega
theorem takeZ_snoc {L : List Int} {k : Nat} (h : k < L.length) : L.take (k + 1) = L.take k ++ [nthI L k] := by
  rw [List.take_add_one, List.getElem?_eq_getElem h, nthI_get h]; rfl
theorem shA_step {ss : List TH} {ord : List Int} {k : Nat} (h : k < ord.length) : shA ss ord (k + 1) = shA ss ord k ++ selT ss (nthI ord k) ss.length := by
  unfold shA
  rw [takeZ_snoc h, List.flatMap_append]
  simp
theorem shA_zero (ss : List TH) (ord : List Int) : shA ss ord 0 = [] := by simp [shA]
theorem selT_zero (ss : List TH) (t : Int) : selT ss t 0 = [] := by simp [selT]
theorem shA_len (ss : List TH) (ord : List Int) : ∀ k, k ≤ ord.length → (shA ss ord k).length ≤ k * ss.length
  | 0, _ => by rw [shA_zero]; exact Nat.zero_le _
  | k + 1, h => by
    have ih := shA_len ss ord k (by omega)
    have := selT_len ss (nthI ord k) ss.length
    rw [shA_step (by omega), List.length_append, Nat.add_mul]
    omega
theorem shA_mem {ss : List TH} {ord : List Int} {k : Nat} {x : TH} (h : x ∈ shA ss ord k) : x ∈ ss := by
  unfold shA at h
  obtain ⟨t, _, ht⟩ := List.mem_flatMap.1 h
  exact List.mem_of_mem_take (List.mem_filter.1 ht).1
/-- The code of SerialHistory. -/
noncomputable def shC (ss : List TH) (ord : List Int) : Int := if 4096 < ord.length then 2 else if hisC ss ≠ 0 then hisC ss else if asB (¬ ord.Nodup) = true then 9 else 0
/-- What SerialHistory answers. -/
noncomputable def shL (ss : List TH) (ord : List Int) : List TH := if shC ss ord = 0 then shA ss ord ord.length else []
theorem shC_hist {ss : List TH} {ord : List Int} (h : shC ss ord = 0) : ord.length ≤ 4096 ∧ HistP ss ∧ ord.Nodup := by
  unfold shC at h
  split at h
  · cases h
  · split at h
    · exact absurd h ‹_›
    · split at h
      · cases h
      · rename_i h1 h2 h3
        refine ⟨by omega, hisC_ok (Classical.not_not.1 h2), Classical.not_not.1 (asB_not (by simpa using h3))⟩
theorem shL_len (ss : List TH) (ord : List Int) : (shL ss ord).length ≤ 245760 := by
  unfold shL
  split
  · rename_i h
    obtain ⟨h1, h2, _⟩ := shC_hist h
    have := shA_len ss ord ord.length (Nat.le_refl _)
    have h3 : ord.length * ss.length ≤ 4096 * 60 := Nat.mul_le_mul h1 h2.1
    omega
  · exact Nat.zero_le _
theorem shL_mem {ss : List TH} {ord : List Int} {x : TH} (h : x ∈ shL ss ord) : x ∈ ss := by
  unfold shL at h
  split at h
  · exact shA_mem h
  · cases h
abbrev RetH (w : World) (l : List TH) (c : Int) (r : Ending) (w' : World) : Prop := ∃ v, r = .returned (.tuple #[v, .int .i64 c]) ∧ OwnH w' w.heap.size v l ∧ Below w.heap.size w w'

set_option maxRecDepth 100000 in
set_option maxHeartbeats 4000000 in
theorem implSerialHistory_any (a a' : Option Addr) (cap cap' : Nat) (ss : List TH) (ord : List Int) (w : World) (h : RowH w a ss) (h' : RowI w a' ord) (hl : ss.length ≤ 1048576) (hl' : ord.length ≤ 1048576) :
    Calls Try.prog 21 #[.slice a ss.length cap, .slice a' ord.length cap'] w (RetH w (shL ss ord) (shC ss ord)) := by
  have HR : Hid (RowH w a ss) := h
  have HI : Hid (RowI w a' ord) := h'
  have HLL : Hid (ord.length ≤ 1048576) := hl'
  have hcall := historyCode_any a cap ss w h hl
  have hcall2 : ∀ W, RowI W a' ord → Calls Try.prog 72 #[.slice a' ord.length cap'] W fun e w' => e = .returned (.bool (asB (¬ ord.Nodup))) ∧ Below W.heap.size W w' := fun W hW => hasTwice_any a' cap' ord W hW hl'
  have HT : Hid (∀ W, RowI W a' ord → Calls Try.prog 72 #[.slice a' ord.length cap'] W fun e w' => e = .returned (.bool (asB (¬ ord.Nodup))) ∧ Below W.heap.size W w') := hcall2
  have HC : Hid (shC ss ord = if 4096 < ord.length then 2 else if hisC ss ≠ 0 then hisC ss else if asB (¬ ord.Nodup) = true then 9 else 0) := rfl
  have HD : Hid (shL ss ord = if shC ss ord = 0 then shA ss ord ord.length else []) := rfl
  have H60 : Hid (hisC ss = 0 → ss.length ≤ 60) := fun e => (hisC_ok e).1
  obtain ⟨i0, hi, hz0, hz1, hz2⟩ := info_parts info107
  generalize shC ss ord = c at *
  generalize shL ss ord = L at *
  generalize hisC ss = d at *
  generalize asB (¬ ord.Nodup) = tw at *
  obtain ⟨no, hno⟩ : ∃ m, ord.length = m := ⟨_, rfl⟩
  have HNO : Hid (ord.length = no) := hno
  obtain ⟨len, hlen⟩ : ∃ m, ss.length = m := ⟨_, rfl⟩
  have HL : Hid (ss.length = len) := hlen
  rw [hno] at hl' HT HC HD ⊢
  rw [hlen] at hl hcall H60 ⊢
  clear h h' hno hlen hcall2
  by_cases h4 : (4096 : Int) < (no : Int)
  · have E1 : Hid (c = 2) := by show _ = _; rw [HC.out, if_pos (by omega)]
    have E2 : Hid (L = []) := by show _ = _; rw [HD.out, E1.out]; rfl
    go_enter Try.func21, Try.ntmps21
    go_wp2
    go_ret2
    rw [E1.out, E2.out]
    exact ⟨_, rfl, OwnH.nil _ _, Below.refl _ _⟩
  · go_enter Try.func21, Try.ntmps21
    go_wp2_with fail
    refine hcall.mono ?_
    rintro e w1 ⟨rfl, B1⟩
    clear hcall
    by_cases hd : d = 0
    · subst hd
      have h60 := H60.out rfl
      go_wp2_with fail
      refine (HT.out w1 (HI.out.below B1)).mono ?_
      rintro e w2 ⟨rfl, b2⟩
      have B2 := below_step B1 (Nat.le_refl _) b2
      clear b2 B1
      cases htw : tw with
      | true =>
        have E1 : Hid (c = 9) := by show _ = _; rw [HC.out, if_neg (by omega), if_neg (by simp), htw]; rfl
        have E2 : Hid (L = []) := by show _ = _; rw [HD.out, E1.out]; rfl
        go_wp2
        go_ret2
        rw [E1.out, E2.out]
        exact ⟨_, rfl, OwnH.nil _ _, B2⟩
      | false =>
        have E1 : Hid (c = 0) := by show _ = _; rw [HC.out, if_neg (by omega), if_neg (by simp), htw]; rfl
        have E2 : Hid (L = shA ss ord no) := by show _ = _; rw [HD.out, E1.out]; rfl
        have o0 : OwnH w2 w.heap.size (.slice none 0 0) (shA ss ord 0) := by rw [shA_zero]; exact OwnH.nil _ _
        clear htw
        go_wp2
        go_loopw [7, 24] (fun v i wr => ∃ k : Nat, k ≤ no ∧ i = .int .i64 k ∧ OwnH wr w.heap.size v (shA ss ord k) ∧ Below w.heap.size w wr) (fun _ i _ => no - (intOf i).toNat)
        case atStart => exact ⟨0, by omega, rfl, o0, B2⟩
        case round =>
          clear o0 B2
          obtain ⟨k, hk, rfl, hO, hbl⟩ := hrel
          have HO : Hid (OwnH wr w.heap.size u7 (shA ss ord k)) := hO
          clear hO
          by_cases hlt : k < no
          · have hltI : (k : Int) < (no : Int) := by omega
            obtain ⟨b, off, rfl, hlb, q0⟩ := (HI.out.below hbl) k (by rw [HNO.out]; exact hlt)
            have HST : Hid (shA ss ord (k + 1) = shA ss ord k ++ selT ss (nthI ord k) len) := by show _ = _; rw [shA_step (by rw [HNO.out]; exact hlt), HL.out]
            have hal : (shA ss ord k).length ≤ 245760 := by
              have h1 := shA_len ss ord k (by rw [HNO.out]; exact hk)
              rw [HL.out] at h1
              have h3 : k * len ≤ 4096 * 60 := Nat.mul_le_mul (by omega) h60
              omega
            obtain ⟨t, ht⟩ : ∃ t, nthI ord k = t := ⟨_, rfl⟩
            rw [ht] at q0 HST
            clear ht
            have HO0 : OwnH wr w.heap.size u7 (shA ss ord k ++ selT ss t 0) := by rw [selT_zero, List.append_nil]; exact HO.out
            clear HO
            go_wp2
            go_loopw [7, 30] (fun v i wr => ∃ m : Nat, m ≤ len ∧ i = .int .i64 m ∧ OwnH wr w.heap.size v (shA ss ord k ++ selT ss t m) ∧ Below w.heap.size w wr) (fun _ i _ => len - (intOf i).toNat)
            case atStart => exact ⟨0, by omega, rfl, HO0, hbl⟩
            case round =>
              clear HO0 hbl
              obtain ⟨m, hm, rfl, hO, hbm⟩ := hrel
              have HO : Hid (OwnH wr w.heap.size u7 (shA ss ord k ++ selT ss t m)) := hO
              clear hO
              by_cases hlt2 : m < len
              · have hlt2I : (m : Int) < (len : Int) := by omega
                obtain ⟨b2, off2, rfl, hlb2, ⟨r0, r1, r2, r3⟩, _, _⟩ := (HR.out.below hbm) m (by rw [HL.out]; exact hlt2)
                have hst := selT_step (ss := ss) (t := t) (m := m) (by rw [HL.out]; exact hlt2)
                obtain ⟨x, hx⟩ : ∃ x, nthH ss m = x := ⟨_, rfl⟩
                rw [hx] at r0 r1 r2 r3 hst
                clear hx
                obtain ⟨tx, kd, ky, va⟩ := x
                simp only at hst
                obtain ⟨W1, hW1⟩ : ∃ W1, wr.alloc (.cells #[.int .i64 tx, .int .i64 kd, .string ky, .string va] 107) = W1 := ⟨_, rfl⟩
                have b1 : Below wr.heap.size wr W1 := hW1 ▸ (Below.refl _ _).alloc (Nat.le_refl _) _
                have yb : W1.heap[wr.heap.size]? = some (.cells #[.int .i64 tx, .int .i64 kd, .string ky, .string va] 107 (0, 0)) := hW1 ▸ heap_new' _ _ _ rfl
                have hB1 := below_step hbm (Nat.le_refl _) b1
                have HO1 : Hid (OwnH W1 w.heap.size u7 (shA ss ord k ++ selT ss t m)) := HO.out.below b1
                have m0 : W1.cell? ⟨wr.heap.size, 0, none⟩ = some (.int .i64 tx) := slab_cell yb
                have m1 : W1.cell? ⟨wr.heap.size, 1, none⟩ = some (.int .i64 kd) := slab_cell yb
                have m2 : W1.cell? ⟨wr.heap.size, 2, none⟩ = some (.string ky) := slab_cell yb
                have m3 : W1.cell? ⟨wr.heap.size, 3, none⟩ = some (.string va) := slab_cell yb
                have hs1 : w.heap.size ≤ W1.heap.size := hB1.size
                have hll : (shA ss ord k ++ selT ss t m).length ≤ 245820 := by have := selT_len ss t m; rw [List.length_append]; omega
                clear yb b1 HO
                cases hf : (tx == t) with
                | true =>
                  rw [hf] at hst
                  have HN : Hid (shA ss ord k ++ selT ss t (m + 1) = (shA ss ord k ++ selT ss t m) ++ [(tx, kd, ky, va)]) := by show _ = _; rw [hst, List.append_assoc]; rfl
                  obtain ⟨fl, hfl⟩ : ∃ fl, shA ss ord k ++ selT ss t m = fl := ⟨_, rfl⟩
                  rw [hfl] at HN HO1 hll
                  clear hst hfl
                  go_wp2_with (at_builtin; refine wpList_append_own _ rfl _ _ 23 rfl w.heap.size 107 i0 (.agg #[.int .i64 0, .int .i64 0, .string ⟨#[]⟩, .string ⟨#[]⟩]) 4 48 Try.underlying23 hi hz0 hz1 hz2 rfl (by decide) _ _ _ rfl (HO1.out.alloc _) ⟨W1.heap.size, 0, none⟩ 1 1 [.int .i64 tx, .int .i64 kd, .string ky, .string va] rfl rfl ?m0 ?m4 ?m1 ?m2 ?m3 ?_)
                  case m4 => first | exact ⟨rfl, rfl, rfl, rfl⟩ | (intro u hu; simp at hu; rcases hu with rfl | rfl | rfl | rfl <;> rfl)
                  case m1 => unfold maxLen; omega
                  case m2 => omega
                  case m3 => first | omega | (simp; omega)
                  intro v' w3 ho2 g2 _
                  have HO2 : Hid (OwnH w3 w.heap.size v' (shA ss ord k ++ selT ss t (m + 1))) := by show OwnH _ _ _ _; rw [HN.out]; exact OwnH.snoc (p := (tx, kd, ky, va)) ho2
                  have B3 : Hid (Below w.heap.size w w3) := own_belowX (hB1.alloc hs1 _) (by simp; omega) (HO1.out.alloc _) g2
                  clear ho2 g2
                  go_wp2
                  go_roundw
                  case rel => exact ⟨m + 1, by omega, by go_num, HO2.out, B3.out⟩
                  case measure => simp [intOf]; omega
                | false =>
                  rw [hf] at hst
                  have HN : Hid (selT ss t (m + 1) = selT ss t m) := hst
                  clear hst
                  go_wp2
                  go_roundw
                  case rel => exact ⟨m + 1, by omega, by go_num, by rw [HN.out]; exact HO1.out, hB1⟩
                  case measure => simp [intOf]; omega
              · obtain rfl : m = len := by omega
                have HE : Hid (OwnH wr w.heap.size u7 (shA ss ord (k + 1))) := by show OwnH _ _ _ _; rw [HST.out]; exact HO.out
                clear HO
                go_wp2
                go_roundw
                case rel => exact ⟨k + 1, by omega, by go_num, HE.out, hbm⟩
                case measure => simp [intOf]; omega
          · obtain rfl : k = no := by omega
            go_wp2
            go_ret2
            rw [E1.out, E2.out]
            exact ⟨_, rfl, HO.out, hbl⟩
    · have E1 : Hid (c = d) := by show _ = _; rw [HC.out, if_neg (by omega), if_pos hd]
      have E2 : Hid (L = []) := by show _ = _; rw [HD.out, if_neg (by rw [E1.out]; exact hd)]
      have hd' : (d == 0) = false := by simpa using hd
      clear hd
      go_wp2
      go_ret2
      rw [E1.out, E2.out]
      exact ⟨_, rfl, OwnH.nil _ _, B1⟩
end Go.Proofs.Ytlcgmifibekegaa
