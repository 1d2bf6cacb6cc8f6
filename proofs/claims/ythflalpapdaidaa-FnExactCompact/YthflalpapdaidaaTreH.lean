/- How the specification looks at a node (stage 5). -/
import Derived.Test.YthflalpapdaidaaTreG
namespace Go.Proofs.Ythflalpapdaidaa
open Go.RowKit

set_option maxRecDepth 100000 in
set_option maxHeartbeats 8000000 in
theorem l05Node_any (a : Option Addr) (cap : Nat) (ns : List Nd) (at' : Nat) (w : World) (h : RowN w a ns) (hlen : ns.length ≤ 1048576) (hat : at' < ns.length) (hsm : SmallN (nthN ns at')) :
    Calls Try.prog 77 #[FV (.slice a ns.length cap), .int .i64 at'] w fun e w' => e = .returned (.bool (asB (NodeOK (nthN ns at') at'))) ∧ Below w.heap.size w w' := by
  have hatI : (at' : Int) < (ns.length : Int) := by omega
  obtain ⟨b, off, rfl, hlb, ka, kc, va, vc, ia, ic, q0, q1, q2, q3, hr⟩ := h at' hat
  clear h
  generalize ns.length = nlen at *
  generalize nthN ns at' = nd at *
  obtain ⟨l, ks, vs, is⟩ := nd
  simp only at q0 q1 q2 q3
  obtain ⟨hk, hv, hi, _, _, _⟩ := hr
  obtain ⟨lk, lv, li⟩ := hsm
  simp only at lk lv li hk hv hi
  have HK : Hid (RowS w ka ks) := hk
  have HV : Hid (RowS w va vs) := hv
  have HI : Hid (RowI w ia is) := hi
  clear hk hv hi
  obtain ⟨W0, hW0⟩ : ∃ W0, ((w.alloc (.cells #[.slice (some ⟨b, off, none⟩) nlen cap] 25)).alloc (.cells #[.bool l, .slice ka ks.length kc, .slice va vs.length vc, .slice ia is.length ic] 93)) = W0 := ⟨_, rfl⟩
  have B0 : Below w.heap.size w W0 := hW0 ▸ (((Below.refl _ _).alloc (Nat.le_refl _) _).alloc (by simp) _)
  have z0 : W0.heap.size = w.heap.size + 2 := by rw [← hW0]; simp
  have xo : W0.heap[w.heap.size + 1]? = some (.cells #[.bool l, .slice ka ks.length kc, .slice va vs.length vc, .slice ia is.length ic] 93 (0, 0)) := by
    rw [← hW0]
    exact heap_new' _ _ _ (by simp)
  have HC : Hid (∀ wr, Below W0.heap.size W0 wr → wr.cell? ⟨w.heap.size + 1, 0, none⟩ = some (.bool l) ∧ wr.cell? ⟨w.heap.size + 1, 1, none⟩ = some (.slice ka ks.length kc) ∧ wr.cell? ⟨w.heap.size + 1, 2, none⟩ = some (.slice va vs.length vc) ∧ wr.cell? ⟨w.heap.size + 1, 3, none⟩ = some (.slice ia is.length ic) ∧ w.heap.size + 1 < wr.heap.size) := fun wr hb => by
    have hx := (hb.block (w.heap.size + 1) (by omega)).trans xo
    have := hb.size
    refine ⟨?_, ?_, ?_, ?_, by omega⟩ <;> simp [World.cell?, hx]
  have hC0 := HC.out W0 (Below.refl _ _)
  have HBB : Hid (∀ wr, Below W0.heap.size W0 wr → Below w.heap.size w wr) := fun wr hb => B0.trans (hb.mono B0.size)
  obtain ⟨d0, d1, d2, d3, dn⟩ := hC0
  clear xo
  by_cases h14 : 1 ≤ ks.length ∧ ks.length ≤ 4
  · have hin : inB ks.length 1 4 = true := decide_eq_true (by omega)
    go_enter Try.func77, Try.ntmps77
    go_wp2_with fail
    refine (l01In_any ks.length 1 4 W0).mono ?_
    rintro e W0' ⟨rfl, hq⟩
    obtain rfl := hq.symm
    rw [hin]
    obtain ⟨len, hlen'⟩ : ∃ m, ks.length = m := ⟨_, rfl⟩
    have HL : Hid (ks.length = len) := hlen'
    rw [hlen'] at h14 d1 lk hW0
    rw [hlen']
    clear hlen' hin hW0 q0 q1 q2 q3
    go_wp2
    go_loopw [6] (fun i wr => ∃ k : Nat, k ≤ len ∧ i = .int .i64 k ∧ Hid (∀ i, i < k → KeyOK ks i) ∧ Below W0.heap.size W0 wr) (fun i _ => len - (intOf i).toNat)
    case atStart => exact ⟨0, by omega, rfl, fun i hi => by omega, Below.refl _ _⟩
    case round =>
      obtain ⟨k, hk, rfl, HS, hbl⟩ := hrel
      obtain ⟨e0, e1, e2, e3, en⟩ := HC.out wr hbl
      rw [HL.out] at e1
      have hB := HBB.out wr hbl
      clear d0 d1 d2 d3 dn
      by_cases hlt : k < len
      · have hltI : (k : Int) < (len : Int) := by omega
        have HF : Hid (¬ KeyOK ks k → ¬ NodeOK (l, ks, vs, is) at') := fun h => key_false (by simp only; rw [HL.out]; exact hlt) h
        have HT : Hid (KeyOK ks k → ∀ i, i < k + 1 → KeyOK ks i) := fun h i hi => by
          by_cases e : i = k
          · rw [e]; exact h
          · exact HS.out i (by omega)
        obtain ⟨b1, off1, rfl, hlb1, hc, hsz⟩ := (HK.out.below hB) k (by rw [HL.out]; exact hlt)
        unfold maxLen at hsz
        by_cases h8 : (80 : Int) < ((nthS ks k).size : Int)
        · have HFF : Hid (¬ NodeOK (l, ks, vs, is) at') := HF.out (fun h => by have := h.1; omega)
          clear HF HT
          go_wp2_with fail
          go_quiet (fail)
          go_wp2
          go_ret
          exact ⟨ret_bool' (asB_false HFF.out), below_drewN hB _⟩
        by_cases hz : k = 0
        · have HN' : Hid (∀ i, i < k + 1 → KeyOK ks i) := HT.out ⟨by omega, fun h => by omega⟩
          have hk0 : decide (0 < k) = false := decide_eq_false (by omega)
          have hd8 : decide ((80 : Int) < ((nthS ks k).size : Int)) = false := decide_eq_false h8
          clear HF HT hz
          go_wp2_with fail
          go_quiet (fail)
          go_wp2
          go_roundw
          case rel => exact ⟨k + 1, by omega, by go_num, HN', below_drewN hbl _⟩
          case measure => simp [intOf]; omega
        · obtain ⟨j, hj⟩ : ∃ j, k = j + 1 := ⟨k - 1, by omega⟩
          obtain ⟨b', off', e', hlb', hc', hsz'⟩ := (HK.out.below hB) j (by rw [HL.out]; omega)
          cases e'
          have hsub : (k : Int) - 1 = (j : Int) := by omega
          have hjI : (j : Int) < (len : Int) := by omega
          have hk0 : decide (0 < k) = true := decide_eq_true (by omega)
          have hd8 : decide ((80 : Int) < ((nthS ks k).size : Int)) = false := decide_eq_false h8
          have HT' : Hid (Op.bytesLess (nthS ks j).toList (nthS ks k).toList = true → ∀ i, i < k + 1 → KeyOK ks i) := fun h => HT.out ⟨by omega, fun _ => by rw [hj] at h ⊢; exact h⟩
          have HF' : Hid (Op.bytesLess (nthS ks j).toList (nthS ks k).toList = false → ¬ NodeOK (l, ks, vs, is) at') := fun h => HF.out (fun hh => by have h2 := hh.2 (by omega); rw [hj] at h2 h; simp only [Nat.add_sub_cancel] at h2; rw [h] at h2; cases h2)
          clear HF HT hz hj
          generalize nthS ks k = s1 at *
          generalize nthS ks j = s0 at *
          cases hless : Op.bytesLess s0.toList s1.toList with
          | true =>
            have HN' : Hid (∀ i, i < k + 1 → KeyOK ks i) := HT'.out hless
            clear HF' HT'
            go_wp2_with fail
            go_quiet (fail)
            go_wp2
            go_roundw
            case rel => exact ⟨k + 1, by omega, by go_num, HN', below_drewN hbl _⟩
            case measure => simp [intOf]; omega
          | false =>
            have HFF : Hid (¬ NodeOK (l, ks, vs, is) at') := HF'.out hless
            clear HF' HT'
            go_wp2_with fail
            go_quiet (fail)
            go_wp2
            go_ret
            exact ⟨ret_bool' (asB_false HFF.out), below_drewN hB _⟩
      · obtain rfl : k = len := by omega
        have HKs : Hid (1 ≤ ks.length ∧ ks.length ≤ 4 ∧ ∀ i, i < ks.length → KeyOK ks i) := ⟨by rw [HL.out]; omega, by rw [HL.out]; omega, fun i hi => HS.out i (by rw [← HL.out]; exact hi)⟩
        cases l with
        | true =>
          by_cases hv : vs.length = k
          · by_cases hi0 : is.length = 0
            · have HI0 : Hid (is.length = 0) := hi0
              have HV0 : Hid (vs.length = k) := hv
              have HRt : Hid (vs.length = ks.length) := by show _ = _; rw [HL.out]; exact hv
              rw [hv] at e2 lv
              rw [hi0] at e3
              have hkI : ((0 : Nat) : Int) = 0 := rfl
              clear hv hi0
              go_wp2
              go_loopw [7] (fun i wr2 => ∃ m : Nat, m ≤ k ∧ i = .int .i64 m ∧ Hid (∀ i, i < m → (nthS vs i).size ≤ 200) ∧ Below W0.heap.size W0 wr2) (fun i _ => k - (intOf i).toNat)
              case atStart => exact ⟨0, by omega, rfl, fun i hi => by omega, hbl⟩
              case round =>
                obtain ⟨m, hm, rfl, HS2, hbl2⟩ := hrel
                clear e0 e1 e2 e3 en
                obtain ⟨e0, e1, e2, e3, en⟩ := HC.out wr hbl2
                rw [HV0.out] at e2
                have hB2 := HBB.out wr hbl2
                by_cases hlt2 : m < k
                · have hltI : (m : Int) < (k : Int) := by omega
                  obtain ⟨b1, off1, rfl, hlb1, hc, hsz⟩ := (HV.out.below hB2) m (by rw [HV0.out]; exact hlt2)
                  unfold maxLen at hsz
                  by_cases h2 : (200 : Int) < ((nthS vs m).size : Int)
                  · have HFF : Hid (¬ NodeOK (true, ks, vs, is) at') := fun hh => by have := (NodeOK.leaf.1 hh).2.2.2 m (by rw [HV0.out]; exact hlt2); omega
                    go_wp2
                    go_ret
                    exact ⟨ret_bool' (asB_false HFF.out), hB2⟩
                  · have HN : Hid (∀ i, i < m + 1 → (nthS vs i).size ≤ 200) := fun i hi => by
                      by_cases e : i = m
                      · rw [e]; omega
                      · exact HS2.out i (by omega)
                    go_wp2
                    go_roundw
                    case rel => exact ⟨m + 1, by omega, by go_num, HN, hbl2⟩
                    case measure => simp [intOf]; omega
                · obtain rfl : m = k := by omega
                  have HT : Hid (NodeOK (true, ks, vs, is) at') := NodeOK.leaf.2 ⟨HKs.out, HI0.out, HRt.out, fun i hi => HS2.out i (by rw [← HV0.out]; exact hi)⟩
                  go_wp2
                  go_ret
                  exact ⟨ret_bool' (asB_true HT.out), hB2⟩
            · have HFF : Hid (¬ NodeOK (true, ks, vs, is) at') := fun hh => hi0 (NodeOK.leaf.1 hh).2.1
              have hi1 : ((is.length : Int) == 0) = false := by simp; intro h; exact hi0 (by rw [h]; rfl)
              rw [hv] at e2 lv
              go_wp2
              go_ret
              exact ⟨ret_bool' (asB_false HFF.out), hB⟩
          · have HFF : Hid (¬ NodeOK (true, ks, vs, is) at') := fun hh => hv (by have := (NodeOK.leaf.1 hh).2.2.1; rw [HL.out] at this; exact this)
            have hv1 : ((vs.length : Int) == (k : Int)) = false := by simp; omega
            go_wp2
            go_ret
            exact ⟨ret_bool' (asB_false HFF.out), hB⟩
        | false =>
          by_cases hv : vs.length = 0
          · by_cases hi0 : is.length = k + 1
            · have HI0 : Hid (is.length = k + 1) := hi0
              have HV0 : Hid (vs.length = 0) := hv
              have HRt : Hid (is.length = ks.length + 1) := by show _ = _; rw [HL.out]; exact hi0
              rw [hv] at e2
              rw [hi0] at e3 li
              clear hv hi0
              go_wp2
              go_loopw [8] (fun i wr2 => ∃ m : Nat, m ≤ k + 1 ∧ i = .int .i64 m ∧ Hid (∀ i, i < m → 0 ≤ nthI is i ∧ nthI is i < (at' : Int)) ∧ Below W0.heap.size W0 wr2) (fun i _ => k + 1 - (intOf i).toNat)
              case atStart => exact ⟨0, by omega, rfl, fun i hi => by omega, hbl⟩
              case round =>
                obtain ⟨m, hm, rfl, HS2, hbl2⟩ := hrel
                clear e0 e1 e2 e3 en
                obtain ⟨e0, e1, e2, e3, en⟩ := HC.out wr hbl2
                rw [HI0.out] at e3
                have hB2 := HBB.out wr hbl2
                by_cases hlt2 : m < k + 1
                · have hltI : (m : Int) < (k : Int) + 1 := by omega
                  obtain ⟨b1, off1, rfl, hlb1, hc⟩ := (HI.out.below hB2) m (by rw [HI0.out]; exact hlt2)
                  have HFm : Hid (¬ (0 ≤ nthI is m ∧ nthI is m < (at' : Int)) → ¬ NodeOK (false, ks, vs, is) at') := fun h hh => h ((NodeOK.inner.1 hh).2.2.2 m (by rw [HI0.out]; exact hlt2))
                  have HNm : Hid ((0 ≤ nthI is m ∧ nthI is m < (at' : Int)) → ∀ i, i < m + 1 → 0 ≤ nthI is i ∧ nthI is i < (at' : Int)) := fun h i hi => by
                    by_cases e : i = m
                    · rw [e]; exact h
                    · exact HS2.out i (by omega)
                  generalize nthI is m = x at *
                  go_wp2_with fail
                  refine (l01In_any x 0 ((at' : Int) - 1) wr).mono ?_
                  rintro e wr' ⟨rfl, hq⟩
                  obtain rfl := hq.symm
                  by_cases hx : 0 ≤ x ∧ x < (at' : Int)
                  · have hin : inB x 0 ((at' : Int) - 1) = true := decide_eq_true (by omega)
                    rw [hin]
                    have HN : Hid (∀ i, i < m + 1 → 0 ≤ nthI is i ∧ nthI is i < (at' : Int)) := HNm.out hx
                    clear hin HFm HNm
                    go_wp2
                    go_roundw
                    case rel => exact ⟨m + 1, by omega, by go_num, HN, hbl2⟩
                    case measure => simp [intOf]; omega
                  · have hin : inB x 0 ((at' : Int) - 1) = false := decide_eq_false (by omega)
                    rw [hin]
                    have HFF : Hid (¬ NodeOK (false, ks, vs, is) at') := HFm.out hx
                    clear hin HFm HNm
                    go_wp2
                    go_ret
                    exact ⟨ret_bool' (asB_false HFF.out), hB2⟩
                · obtain rfl : m = k + 1 := by omega
                  have HT : Hid (NodeOK (false, ks, vs, is) at') := NodeOK.inner.2 ⟨HKs.out, HV0.out, HRt.out, fun i hi => HS2.out i (by rw [← HI0.out]; exact hi)⟩
                  go_wp2
                  go_ret
                  exact ⟨ret_bool' (asB_true HT.out), hB2⟩
            · have HFF : Hid (¬ NodeOK (false, ks, vs, is) at') := fun hh => hi0 (by have := (NodeOK.inner.1 hh).2.2.1; rw [HL.out] at this; exact this)
              have hi1 : ((is.length : Int) == (k : Int) + 1) = false := by simp; omega
              rw [hv] at e2
              go_wp2
              go_ret
              exact ⟨ret_bool' (asB_false HFF.out), hB⟩
          · have HFF : Hid (¬ NodeOK (false, ks, vs, is) at') := fun hh => hv (NodeOK.inner.1 hh).2.1
            have hv1 : ((vs.length : Int) == 0) = false := by simp; intro h; exact hv (by rw [h]; rfl)
            go_wp2
            go_ret
            exact ⟨ret_bool' (asB_false HFF.out), hB⟩
  · have HF : Hid (¬ NodeOK (l, ks, vs, is) at') := keys_false (by simp only; exact h14)
    have hin : inB ks.length 1 4 = false := decide_eq_false (by omega)
    go_enter Try.func77, Try.ntmps77
    go_wp2_with fail
    refine (l01In_any ks.length 1 4 W0).mono ?_
    rintro e W0' ⟨rfl, hq⟩
    obtain rfl := hq.symm
    rw [hin]
    go_wp2
    go_ret
    exact ⟨ret_bool' (asB_false HF.out), B0⟩
end Go.Proofs.Ythflalpapdaidaa
