/- The specification's SortRows (stage 13). -/
import Derived.Test.YtmcjgncpblbhpaaKsH
namespace Go.Proofs.Ytmcjgncpblbhpaa
open Go.RowKit

theorem OwnE.rowA {w : World} {B : Nat} {v : Value} {k : Cel} {zs : List Nat} {rs : Rs} (h : OwnE w B v k zs) (hk : CelR w k rs) (hz : ∀ x ∈ zs, x < rs.length) (hl : ∀ i, i < rs.length → (nthR rs i).length ≤ 4096) : ∃ a c, v = .slice a (zs.map (nthR rs)).length c ∧ RowA w a (zs.map (nthR rs)) := by
  by_cases h0 : zs.length = 0
  · have : zs = [] := List.eq_nil_of_length_eq_zero h0
    subst this
    obtain ⟨_, q2⟩ := h
    rcases q2 with ⟨e, _⟩ | ⟨g, c, cur, e, _⟩
    · exact ⟨none, 0, e, fun i hi => by simp at hi⟩
    · exact ⟨_, c, e, fun i hi => by simp at hi⟩
  · obtain ⟨g, c, e, hg, hD⟩ := h.dat (by omega)
    refine ⟨_, c, by rw [List.length_map]; exact e, fun i hi => ?_⟩
    rw [List.length_map] at hi
    have hm : nthN zs i ∈ zs := by rw [nthN_get hi]; exact List.getElem_mem hi
    have en : nthR (zs.map (nthR rs)) i = nthR rs (nthN zs i) := by rw [nthR_get (by rw [List.length_map]; exact hi), List.getElem_map, nthN_get hi]
    obtain ⟨e1, p1, o1, f1, r1⟩ := hk _ (hz _ hm)
    rw [en]
    refine ⟨g, 0, p1, o1, k.c (nthN zs i), rfl, hD.lt, ?_, r1, by have := hl _ (hz _ hm); unfold maxLen; omega⟩
    rw [Nat.zero_add, hD.cell hi, Cel.v, f1, e1]
set_option maxRecDepth 100000 in
set_option maxHeartbeats 8000000 in
theorem specSort_early (ak ad ar : Option Addr) (ck cd cr : Nat) (ks : Rs) (ds : List Bool) (rs : Rs) (w : World) (hk : RowA w ak ks) (hr : RowA w ar rs) (sk : SmallR ks) (sr : SmallR rs) (sd : ds.length ≤ 1048576) (h : soC ks ds rs ≠ 0 ∧ soC ks ds rs ≠ 12) :
    Calls Try.prog 16 #[.slice ak ks.length ck, .slice ad ds.length cd, .slice ar rs.length cr] w (RetO ks ds rs w) := by
  have lk := sk.1
  have lr := sr.1
  have b0 : Below w.heap.size w (w.alloc (.cells #[] 28)) := (Below.refl _ _).alloc (Nat.le_refl _) _
  by_cases h1 : 4096 < ks.length ∨ 4096 < ds.length ∨ 4096 < rs.length
  · have HC : Hid (soC ks ds rs = 2) := if_pos h1
    clear hk hr sk sr h
    generalize ks.length = n at *
    generalize ds.length = m at *
    generalize rs.length = l at *
    by_cases h2 : 4096 < n
    · have h2I : (4096 : Int) < (n : Int) := by omega
      go_enter Try.func16, Try.ntmps16
      go_wp2
      go_ret2
      exact RetO.bad HC.out (by omega) (BldR.made (hi := 0) (Nat.le_refl _)) b0
    · have h2I : ¬ (4096 : Int) < (n : Int) := by omega
      by_cases h3 : 4096 < m
      · have h3I : (4096 : Int) < (m : Int) := by omega
        go_enter Try.func16, Try.ntmps16
        go_wp2
        go_ret2
        exact RetO.bad HC.out (by omega) (BldR.made (hi := 0) (Nat.le_refl _)) b0
      · have h3I : ¬ (4096 : Int) < (m : Int) := by omega
        have h4I : (4096 : Int) < (l : Int) := by omega
        go_enter Try.func16, Try.ntmps16
        go_wp2
        go_ret2
        exact RetO.bad HC.out (by omega) (BldR.made (hi := 0) (Nat.le_refl _)) b0
  have HC0 : soC ks ds rs = if ks.length = rs.length ∧ okRs 16 ks = true ∧ okRs 16 rs = true ∧ ds.length ≤ 16 then (if allK ks ds.length = true then 0 else 12) else 1 := if_neg h1
  have hbad : ¬ (ks.length = rs.length ∧ okRs 16 ks = true ∧ okRs 16 rs = true ∧ ds.length ≤ 16) := fun hc => by
    rw [if_pos hc] at HC0
    rw [HC0] at h
    split at h
    · exact h.1 rfl
    · exact h.2 rfl
  have HC : Hid (soC ks ds rs = 1) := by show _ = _; rw [HC0, if_neg hbad]
  have g1 : ¬ (4096 : Int) < (ks.length : Int) := by omega
  have g2 : ¬ (4096 : Int) < (ds.length : Int) := by omega
  have g3 : ¬ (4096 : Int) < (rs.length : Int) := by omega
  have A1 := fun W (hW : Below w.heap.size w W) => l13Rows_any 16 ak ck ks W (hk.row.below hW) sk (by omega)
  have A2 := fun W (hW : Below w.heap.size w W) => l13Rows_any 16 ar cr rs W (hr.row.below hW) sr (by omega)
  have EN : Hid (∀ W, Below w.heap.size w W → RetO ks ds rs w (.returned (.tuple #[.slice (some ⟨W.heap.size, 0, none⟩) 0 0, .int .i64 1])) (W.alloc (.cells #[] 28))) := fun W hW => RetO.bad HC.out (by omega) (BldR.made (hi := 0) hW.size) (below_step hW (Nat.le_refl _) ((Below.refl _ _).alloc (Nat.le_refl _) _))
  have rf : Below w.heap.size w w := Below.refl _ _
  clear hk hr sk sr h1 HC0 h b0 HC
  by_cases e1 : ks.length = rs.length
  · have hne : ((ks.length : Int) != (rs.length : Int)) = false := by simp; omega
    rw [← e1] at A2 hne g3 ⊢
    have hb2 : ¬ (okRs 16 ks = true ∧ okRs 16 rs = true ∧ ds.length ≤ 16) := fun h => hbad ⟨e1, h⟩
    clear hbad e1 lr g3
    by_cases h6 : 16 < ds.length
    · have h6I : (16 : Int) < (ds.length : Int) := by omega
      clear A1 A2 hb2
      generalize ks.length = n at *
      generalize ds.length = m at *
      go_enter Try.func16, Try.ntmps16
      go_wp2
      go_ret2
      exact EN.out w rf
    · have h6I : ¬ (16 : Int) < (ds.length : Int) := by omega
      cases o2 : okRs 16 rs with
      | false =>
        rw [o2] at A2
        clear A1 o2 hb2
        generalize ks.length = n at *
        generalize ds.length = m at *
        go_enter Try.func16, Try.ntmps16
        go_wp2_with (go_at_call 49; refine (A2 _ rf).mono ?_; rintro e w1 ⟨rfl, b1⟩)
        go_ret2
        exact EN.out w1 b1
      | true =>
        rw [o2] at A2
        have o1 : okRs 16 ks = false := by
          cases o : okRs 16 ks with
          | false => rfl
          | true => exact absurd ⟨o, o2, by omega⟩ hb2
        rw [o1] at A1
        clear o1 o2 hb2
        generalize ks.length = n at *
        generalize ds.length = m at *
        go_enter Try.func16, Try.ntmps16
        go_wp2_with (first | (go_at_call 49; refine (A2 _ rf).mono ?_; rintro e w1 ⟨rfl, b1⟩; clear A2) | (go_at_call 49; refine (A1 _ b1).mono ?_; rintro e w2 ⟨rfl, b2⟩))
        go_ret2
        exact EN.out w2 (below_step b1 (Nat.le_refl _) b2)
  · have hne : ((ks.length : Int) != (rs.length : Int)) = true := by simp; omega
    clear A1 A2 hbad
    generalize ks.length = n at *
    generalize ds.length = m at *
    generalize rs.length = l at *
    go_enter Try.func16, Try.ntmps16
    go_wp2
    go_ret2
    exact EN.out w rf
set_option maxRecDepth 100000 in
set_option maxHeartbeats 8000000 in
theorem specSort_late (ak ad ar : Option Addr) (ck cd cr : Nat) (ks : Rs) (ds : List Bool) (rs : Rs) (w : World) (hk : RowA w ak ks) (hd : BoA w ad ds) (hr : RowA w ar rs) (sk : SmallR ks) (sr : SmallR rs) (h1 : ¬ (4096 < ks.length ∨ 4096 < ds.length ∨ 4096 < rs.length)) (h2 : ks.length = rs.length ∧ okRs 16 ks = true ∧ okRs 16 rs = true ∧ ds.length ≤ 16) :
    Calls Try.prog 16 #[.slice ak ks.length ck, .slice ad ds.length cd, .slice ar rs.length cr] w (RetO ks ds rs w) := by
  obtain ⟨e1, o1, o2, l16⟩ := h2
  have l4 := (small16 o1).1
  have HC0 : Hid (soC ks ds rs = if allK ks ds.length = true then 0 else 12) := by show _ = _; unfold soC; rw [if_neg h1, if_pos ⟨e1, o1, o2, l16⟩]
  have g1 : ¬ (4096 : Int) < (ks.length : Int) := by omega
  have g2 : ¬ (4096 : Int) < (ds.length : Int) := by omega
  have hne : ((ks.length : Int) != (rs.length : Int)) = false := by simp; omega
  have h6 : ¬ (16 : Int) < (ds.length : Int) := by omega
  have A1 := fun W (hW : Below w.heap.size w W) => l13Rows_any 16 ak ck ks W (hk.row.below hW) sk (by omega)
  have A2 := fun W (hW : Below w.heap.size w W) => l13Rows_any 16 ar cr rs W (hr.row.below hW) sr (by omega)
  rw [o1] at A1
  rw [o2] at A2
  have rf : Below w.heap.size w w := Below.refl _ _
  have HKR : Hid (RowA w ak ks) := hk
  have LS : Hid (allK ks ds.length = true → ∀ W, Below w.heap.size w W → Calls Try.prog 51 #[.slice ak ks.length ck, .slice ad ds.length cd, .slice ar ks.length cr] W fun e w' => ∃ v, e = .returned v ∧ (∃ a c, v = .slice a ks.length c ∧ RowA w' a ((srtN ks ds).map (nthR rs))) ∧ Below W.heap.size W w') := fun hal W hW => by
    have hsl : (srtN ks ds).length = ks.length := by rw [(srtN_spec ks ds).1.length_eq, List.length_range]
    have hlt : ∀ x ∈ srtN ks ds, x < rs.length := fun x hx => by have := List.mem_range.1 ((srtN_spec ks ds).1.mem_iff.1 hx); omega
    have fin : ∀ (kr : Cel) v w', CelR W kr rs → Below W.heap.size W w' → OwnE w' W.heap.size v kr (srtN ks ds) → ∃ a c, v = .slice a ks.length c ∧ RowA w' a ((srtN ks ds).map (nthR rs)) := fun kr v w' hk hb ho => by
      have := OwnE.rowA ho (hk.below hb) hlt (small16 o2).2
      rw [List.length_map, hsl] at this
      exact this
    by_cases h0 : ks.length = 0
    · have hrl : rs.length = 0 := by omega
      refine (l13Sort_any ak ad ar ck cd cr ks.length ks ds rs ⟨fun _ => none, fun _ => 0, fun _ => 0⟩ 0 0 W (hk.below hW) (hd.below hW) (fun h => absurd h (by omega)) (fun x hx => by omega) rfl e1.symm l4 (allK_true hal) (by omega)).mono ?_
      rintro e w' ⟨v, rfl, ho, hb⟩
      exact ⟨v, rfl, fin _ v w' (fun x hx => by omega) hb ho, hb⟩
    · obtain ⟨br, or, rfl⟩ : ∃ b o, ar = some ⟨b, o, none⟩ := by obtain ⟨b, o, _, _, _, e, _⟩ := hr 0 (by omega); exact ⟨b, o, e⟩
      have lbr : br < w.heap.size := by obtain ⟨b, o, _, _, _, e, hl, _⟩ := hr 0 (by omega); cases e; exact hl
      obtain ⟨kr, hkr, hcr⟩ := hr.cel
      refine (l13Sort_any ak ad (some ⟨br, or, none⟩) ck cd cr ks.length ks ds rs kr br or W (hk.below hW) (hd.below hW) (fun _ => ⟨rfl, Nat.lt_of_lt_of_le lbr hW.size⟩) (fun x hx => (hW.cell (p := ⟨br, or + x, none⟩) lbr).trans (hcr x (by omega))) rfl e1.symm l4 (allK_true hal) (by omega)).mono ?_
      rintro e w' ⟨v, rfl, ho, hb⟩
      exact ⟨v, rfl, fin kr v w' (hkr.below hW) hb ho, hb⟩
  have LO : Hid (∀ W a c, RowA W a ((srtN ks ds).map (nthR rs)) → Calls Try.prog 50 #[.slice a ks.length c] W fun e w' => ∃ v, e = .returned v ∧ BldR w' W.heap.size w'.heap.size v ((srtN ks ds).map (nthR rs)) ∧ Below W.heap.size W w') := fun W a c hr2 => by
    have hsl : (srtN ks ds).length = ks.length := by rw [(srtN_spec ks ds).1.length_eq, List.length_range]
    have hlt : ∀ x ∈ srtN ks ds, x < rs.length := fun x hx => by have := List.mem_range.1 ((srtN_spec ks ds).1.mem_iff.1 hx); omega
    have := l13Own_any a c ((srtN ks ds).map (nthR rs)) W hr2 (by rw [List.length_map, hsl]; exact l4) (fun i hi => by
      rw [List.length_map] at hi
      rw [nthR_get (by rw [List.length_map]; exact hi), List.getElem_map]
      exact (small16 o2).2 _ (hlt _ (List.getElem_mem hi)))
    rw [List.length_map, hsl] at this
    exact this
  have HAG : Hid ((∀ i, i < ks.length → (nthR ks i).length = ds.length) → allK ks ds.length = true) := allK_good
  have HAB : Hid (∀ i, i < ks.length → (nthR ks i).length ≠ ds.length → soC ks ds rs = 12) := fun i hi h => by rw [HC0.out, allK_bad hi h]; simp
  have HCG : Hid (allK ks ds.length = true → soC ks ds rs = 0) := fun h => by rw [HC0.out, if_pos h]
  have HM : Hid (∀ i, i < ks.length → (nthR ks i).length ≤ 16) := (okRs_small o1).2
  rw [← e1] at A2 hne ⊢
  clear hk hr hd sk sr o1 o2 h1 HC0 e1
  obtain ⟨n, hn⟩ : ∃ n, ks.length = n := ⟨_, rfl⟩
  have HN : Hid (ks.length = n) := hn
  rw [hn] at A1 A2 LS LO HAG HAB HM g1 hne l4 ⊢
  clear hn
  generalize hm : ds.length = m at *
  go_enter Try.func16, Try.ntmps16
  go_wp2_with (first | (go_at_call 49; refine (A2 _ rf).mono ?_; rintro e w1 ⟨rfl, b1⟩; clear A2) | (go_at_call 49; refine (A1 _ b1).mono ?_; rintro e w2 ⟨rfl, b2⟩; clear A1; have B2 := below_step b1 (Nat.le_refl _) b2; clear b1 b2))
  go_loopw [8] (fun i wr => ∃ q : Nat, q ≤ n ∧ i = .int .i64 q ∧ Hid (∀ j, j < q → (nthR ks j).length = m) ∧ Below w.heap.size w wr) (fun i _ => n - (intOf i).toNat)
  case atStart => exact ⟨0, by omega, rfl, fun j hj => by omega, B2⟩
  case round =>
    obtain ⟨q, hq, rfl, HA, hbl⟩ := hrel
    by_cases hqn : q < n
    · have hqI : (q : Int) < (n : Int) := by omega
      obtain ⟨b, off, bi, oi, ci, rfl, lb, c1, _, _⟩ := (HKR.out.below hbl) q (by rw [HN.out]; exact hqn)
      have hx := HM.out q hqn
      by_cases he : (nthR ks q).length = m
      · have HA2 : Hid (∀ j, j < q + 1 → (nthR ks j).length = m) := allV_step' HA.out he
        rw [he] at c1
        clear HA he hx
        go_wp2
        go_roundw
        case rel => exact ⟨q + 1, by omega, by go_num, HA2, hbl⟩
        case measure => simp [intOf]; omega
      · have HC : Hid (soC ks ds rs = 12) := HAB.out q hqn he
        have hneq : (((nthR ks q).length : Int) != (m : Int)) = true := by simp; omega
        clear HA HAB he
        generalize (nthR ks q).length = x at *
        go_wp2
        go_ret2
        exact RetO.bad HC.out (by omega) (BldR.made (hi := 0) hbl.size) (below_step hbl (Nat.le_refl _) ((Below.refl _ _).alloc (Nat.le_refl _) _))
    · obtain rfl : q = n := by omega
      have hal : allK ks m = true := HAG.out HA.out
      have HC : Hid (soC ks ds rs = 0) := HCG.out hal
      have L1 := LS.out hal wr hbl
      clear HA hal LS HAG HAB HCG
      go_wp2_with fail
      refine L1.mono ?_
      rintro e w3 ⟨v3, rfl, ⟨a3, c3, rfl, r3⟩, b3⟩
      have B3 := below_step hbl (Nat.le_refl _) b3
      have L2 := LO.out w3 a3 c3 r3
      clear L1 LO r3 b3
      go_wp2_with fail
      refine L2.mono ?_
      rintro e w4 ⟨v4, rfl, O4, b4⟩
      have HE : Hid (BldR w4 w.heap.size w4.heap.size v4 ((srtN ks ds).map (nthR rs)) ∧ Below w.heap.size w w4) := ⟨O4.base B3.size, below_step B3 (Nat.le_refl _) b4⟩
      clear L2 O4 b4
      go_wp2
      go_ret2
      exact RetO.good HC.out HE.out.1 HE.out.2
theorem specSort_any (ak ad ar : Option Addr) (ck cd cr : Nat) (ks : Rs) (ds : List Bool) (rs : Rs) (w : World) (hk : RowA w ak ks) (hd : BoA w ad ds) (hr : RowA w ar rs) (sk : SmallR ks) (sr : SmallR rs) (sd : ds.length ≤ 1048576) :
    Calls Try.prog 16 #[.slice ak ks.length ck, .slice ad ds.length cd, .slice ar rs.length cr] w (RetO ks ds rs w) := by
  by_cases h : soC ks ds rs ≠ 0 ∧ soC ks ds rs ≠ 12
  · exact specSort_early ak ad ar ck cd cr ks ds rs w hk hr sk sr sd h
  · by_cases h1 : 4096 < ks.length ∨ 4096 < ds.length ∨ 4096 < rs.length
    · exfalso
      have : soC ks ds rs = 2 := if_pos h1
      rw [this] at h
      exact h ⟨by decide, by decide⟩
    · by_cases h2 : ks.length = rs.length ∧ okRs 16 ks = true ∧ okRs 16 rs = true ∧ ds.length ≤ 16
      · exact specSort_late ak ad ar ck cd cr ks ds rs w hk hd hr sk sr h1 h2
      · exfalso
        have : soC ks ds rs = 1 := by unfold soC; rw [if_neg h1, if_neg h2]
        rw [this] at h
        exact h ⟨by decide, by decide⟩
end Go.Proofs.Ytmcjgncpblbhpaa
