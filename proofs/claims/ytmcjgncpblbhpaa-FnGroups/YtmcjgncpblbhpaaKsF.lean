/- impl's SortRows: keys of another length, and where all is right (stage 13). -/
import Derived.Test.YtmcjgncpblbhpaaKsE
namespace Go.Proofs.Ytmcjgncpblbhpaa
open Go.RowKit

/-- Two rows of lists, and what came since. -/
theorem push_K {W wr : World} {k : Ce2} {v : Value} {q : Nat} (hO : OwnK wr W.heap.size v k (List.range q)) (hb : Below W.heap.size W wr) (hq : q < 4096) :
    ∃ v' w', (Builtin.append_ #[68, 68] 68 #[v, .slice (some ⟨wr.heap.size, 0, none⟩) 1 1]).run Try.prog (wr.alloc (.cells #[k.p q, k.q q] 70)).drew = .ok v' w' ∧ OwnK w' W.heap.size v' k (List.range (q + 1)) ∧ v' ≠ .slice none 0 0 ∧ Below W.heap.size W w' := by
  have b1 : Below wr.heap.size wr (wr.alloc (.cells #[k.p q, k.q q] 70)).drew := ((Below.refl _ _).alloc (Nat.le_refl _) _).drew
  have B1 := below_step hb (Nat.le_refl _) b1
  obtain ⟨v', w', h1, h2, h3, h4⟩ := app_K (b := wr.heap.size) (o := 0) (c := 1) (ys := [q]) (OwnK.below hO b1) B1.size (by simp; omega) (fun j hj => by
    have : j = 0 := by simpa using hj
    subst this
    refine ⟨?_, ?_⟩
    · show (wr.alloc (.cells #[k.p q, k.q q] 70)).cell? ⟨wr.heap.size, 0, none⟩ = _
      simp [nthN]
    · show (wr.alloc (.cells #[k.p q, k.q q] 70)).cell? ⟨wr.heap.size, 1, none⟩ = _
      simp [nthN])
  exact ⟨v', w', h1, by rw [List.range_succ]; exact h2, fun e => by have := (h3 e).2; simp at this, h4 W B1⟩
set_option maxRecDepth 100000 in
set_option maxHeartbeats 8000000 in
theorem implSort_late (ak ad ar : Option Addr) (ck cd cr : Nat) (ks : Rs) (ds : List Bool) (rs : Rs) (w : World) (hk : RowA w ak ks) (hd : BoA w ad ds) (hr : RowA w ar rs) (sk : SmallR ks) (sr : SmallR rs) (h1 : ¬ (4096 < ks.length ∨ 4096 < ds.length ∨ 4096 < rs.length)) (h2 : ks.length = rs.length ∧ okRs 16 ks = true ∧ okRs 16 rs = true ∧ ds.length ≤ 16) :
    Calls Try.prog 15 #[.slice ak ks.length ck, .slice ad ds.length cd, .slice ar rs.length cr] w (RetO ks ds rs w) := by
  obtain ⟨e1, o1, o2, l16⟩ := h2
  have l4 := (small16 o1).1
  have b0 : Below w.heap.size w (w.alloc (.cells #[.slice ad ds.length cd] 32)) := (Below.refl _ _).alloc (Nat.le_refl _) _
  have HC0 : soC ks ds rs = if allK ks ds.length = true then 0 else 12 := by unfold soC; rw [if_neg h1, if_pos ⟨e1, o1, o2, l16⟩]
  have g1 : ¬ (4096 : Int) < (ks.length : Int) := by omega
  have g2 : ¬ (4096 : Int) < (ds.length : Int) := by omega
  have hne : ((ks.length : Int) != (rs.length : Int)) = false := by simp; omega
  have h6 : ¬ (16 : Int) < (ds.length : Int) := by omega
  have A1 := fun W (hW : Below w.heap.size w W) => rowsOK_any 16 ks ak ck W (hk.row.below hW) sk
  have A2 := fun W (hW : Below w.heap.size w W) => rowsOK_any 16 rs ar cr W (hr.row.below hW) sr
  rw [o1] at A1
  rw [o2] at A2
  have HX : Hid (∀ W, Below (w.alloc (.cells #[.slice ad ds.length cd] 32)).heap.size (w.alloc (.cells #[.slice ad ds.length cd] 32)) W → W.cell? ⟨w.heap.size, 0, none⟩ = some (.slice ad ds.length cd)) := fun W hW => (hW.cell (p := ⟨w.heap.size, 0, none⟩) (by simp)).trans (by simp)
  have HB : Hid (∀ W, Below (w.alloc (.cells #[.slice ad ds.length cd] 32)).heap.size (w.alloc (.cells #[.slice ad ds.length cd] 32)) W → Below w.heap.size w W) := fun W hW => b0.trans (hW.mono b0.size)
  have A3 : Hid (∀ W, Below (w.alloc (.cells #[.slice ad ds.length cd] 32)).heap.size (w.alloc (.cells #[.slice ad ds.length cd] 32)) W → Calls Try.prog 45 #[.slice ak ks.length ck, .func (.func 46) #[] #[.pointer (some ⟨w.heap.size, 0, none⟩)]] W fun e w' => e = .returned (.bool (ks.any fun x => !decide (x.length = ds.length))) ∧ Below W.heap.size W w') := fun W hW =>
    containsFuncR_any ks _ 46 _ ak ck W (hk.row.below (HB.out W hW)) (small_max sk.1) ⟨ent46, fun W' hb vs a c _ _ => wrongLen_any vs ds.length a c ad cd w.heap.size W' (HX.out W' (below_step hW (Nat.le_refl _) hb))⟩
  have hal : (ks.any fun x => !decide (x.length = ds.length)) = !allK ks ds.length := by unfold allK; simp
  rw [hal] at A3
  clear hal
  cases ha : allK ks ds.length with
  | false =>
    have HC : Hid (soC ks ds rs = 12) := by show _ = _; rw [HC0, ha]; simp
    rw [ha] at A3
    clear HC0 ha hk hr hd sk sr o1 o2 h1
    rw [← e1] at A2 hne ⊢
    clear e1
    generalize ks.length = n at *
    generalize ds.length = m at *
    go_enter Try.func15, Try.ntmps15
    go_wp2_with (first | (go_at_call 39; refine (A1 _ b0).mono ?_; rintro e w1 ⟨rfl, b1⟩; clear A1; have b1' := HB.out _ b1) | (go_at_call 39; refine (A2 _ b1').mono ?_; rintro e w2 ⟨rfl, b2⟩; clear A2; have cx := HX.out w2 (below_step b1 (Nat.le_refl _) b2); have b2' := below_step b1' (Nat.le_refl _) b2) | (go_at_call 45; refine (A3.out _ (below_step b1 (Nat.le_refl _) b2)).mono ?_; rintro e w3 ⟨rfl, b3⟩))
    go_ret2
    exact RetO.bad HC.out (by omega) (BldR.nil _ _ 0) (below_step b2' (Nat.le_refl _) b3)
  | true =>
    have HC : Hid (soC ks ds rs = 0) := by show _ = _; rw [HC0, ha]; simp
    rw [ha] at A3
    by_cases h0 : ks.length = 0
    · have HS : Hid ((srtN ks ds).map (nthR rs) = []) := by
        have := (srtN_spec ks ds).1.length_eq
        rw [List.length_range, h0] at this
        rw [List.eq_nil_of_length_eq_zero this]
        rfl
      rw [← e1, h0] at A2 hne ⊢
      rw [h0] at A1 A3 g1
      clear HC0 ha hk hr hd sk sr o1 o2 h1 e1 h0 l4
      generalize ds.length = m at *
      have N1 : ∀ W, Calls Try.prog 48 #[.slice none 0 0, .slice ad m cd] W fun e w' => e = .returned (.slice none 0 0) ∧ Below W.heap.size W w' := fun W => rowsByKeys_nil ad m cd W
      go_enter Try.func15, Try.ntmps15
      go_wp2_with (first | (go_at_call 39; refine (A1 _ b0).mono ?_; rintro e w1 ⟨rfl, b1⟩; clear A1; have b1' := HB.out _ b1) | (go_at_call 39; refine (A2 _ b1').mono ?_; rintro e w2 ⟨rfl, b2⟩; clear A2; have cx := HX.out w2 (below_step b1 (Nat.le_refl _) b2); have b2' := below_step b1' (Nat.le_refl _) b2; have b2x := below_step b1 (Nat.le_refl _) b2) | (go_at_call 45; refine (A3.out _ b2x).mono ?_; rintro e w3 ⟨rfl, b3⟩; have cx3 := HX.out w3 (below_step b2x (Nat.le_refl _) b3); have b3' := below_step b2' (Nat.le_refl _) b3))
      go_loop [8, 51] (fun v i => v = .slice none 0 0 ∧ i = .int .i64 0) (fun _ _ => 0)
      case atStart => exact ⟨rfl, rfl⟩
      case round =>
        obtain ⟨rfl, rfl⟩ := hrel
        go_wp2_with fail
        refine (N1 _).mono ?_
        rintro e w4 ⟨rfl, b4⟩
        have b4' := below_step b3' (Nat.le_refl _) b4
        clear N1
        go_wp2_with fail
        refine (copyRows_nil _).mono ?_
        rintro e w5 ⟨rfl, hq⟩
        obtain rfl := hq.symm
        go_wp2
        go_ret2
        refine RetO.good HC.out (hi := 0) ?_ b4'
        rw [HS.out]
        exact BldR.nil _ _ _
    · have hrl : 0 < rs.length := by omega
      obtain ⟨bk, ok, rfl⟩ : ∃ b o, ak = some ⟨b, o, none⟩ := by obtain ⟨b, o, _, _, _, e, _⟩ := hk 0 (by omega); exact ⟨b, o, e⟩
      obtain ⟨br, or, rfl⟩ : ∃ b o, ar = some ⟨b, o, none⟩ := by obtain ⟨b, o, _, _, _, e, _⟩ := hr 0 hrl; exact ⟨b, o, e⟩
      have lbk : bk < w.heap.size := by obtain ⟨b, o, _, _, _, e, hl, _⟩ := hk 0 (by omega); cases e; exact hl
      have lbr : br < w.heap.size := by obtain ⟨b, o, _, _, _, e, hl, _⟩ := hr 0 hrl; cases e; exact hl
      obtain ⟨kk, hkk, hck⟩ := hk.cel
      obtain ⟨kr, hkr, hcr⟩ := hr.cel
      obtain ⟨k, hke⟩ : ∃ k : Ce2, k = ⟨kk.a, kk.l, kk.c, kr.a, kr.l, kr.c⟩ := ⟨_, rfl⟩
      have HK : Hid (∀ x, x < ks.length → ∀ W, Below w.heap.size w W → W.cell? ⟨bk, ok + x, none⟩ = some (k.p x) ∧ W.cell? ⟨br, or + x, none⟩ = some (k.q x)) := fun x hx W hW => by
        subst hke
        exact ⟨(hW.cell (p := ⟨bk, ok + x, none⟩) lbk).trans (hck x hx), (hW.cell (p := ⟨br, or + x, none⟩) lbr).trans (hcr x (by omega))⟩
      have HCK : Hid (CelR w k.keys ks ∧ CelR w k.rows rs) := by subst hke; exact ⟨hkk, hkr⟩
      have HAL : Hid (∀ i, i < ks.length → (nthR ks i).length = ds.length) := allK_true ha
      have H16 : Hid (∀ i, i < rs.length → (nthR rs i).length ≤ 4096) := (small16 o2).2
      have HBO : Hid (BoA w ad ds ∧ ds.length ≤ 4096) := ⟨hd, by omega⟩
      have HRL : Hid (ks.length = rs.length) := e1
      clear hk hr hd sk sr o1 o2 h1 HC0 ha hck hcr hkk hkr hke hrl
      rw [← e1] at A2 hne ⊢
      clear e1
      obtain ⟨n, hn⟩ : ∃ n, ks.length = n := ⟨_, rfl⟩
      have HN : Hid (ks.length = n) := hn
      rw [hn] at A1 A2 A3 hne g1 h0 l4 HK ⊢
      clear hn
      have RB : Hid (∀ W b0 cap M, Below w.heap.size w W → Da2 W b0 M k (List.range n) → Calls Try.prog 48 #[.slice (some ⟨b0, 0, none⟩) n cap, .slice ad ds.length cd] W fun e w' => ∃ g c zs, e = .returned (.slice (some ⟨g, 0, none⟩) n c) ∧ W.heap.size ≤ g ∧ zs = srtN ks ds ∧ Dat w' g c k.rows zs ∧ Below W.heap.size W w') := fun W b0 cap M hW hD => by
        refine (rowsByKeys_any b0 cap n M k ks ds ad cd W (by omega) (by omega) HN.out hD (HCK.out.1.below hW) (fun i hi => HAL.out i (by rw [HN.out]; exact hi)) HBO.out.2 (HBO.out.1.below hW)).mono ?_
        rintro e w' ⟨g, c, zs, rfl, hg, z1, z2, z3, b⟩
        exact ⟨g, c, zs, rfl, hg, srtN_eq (by rw [HN.out]; exact z1) z2, z3, b⟩
      have CR : Hid (∀ W g c cap, Below w.heap.size w W → Dat W g c k.rows (srtN ks ds) → Calls Try.prog 47 #[.slice (some ⟨g, 0, none⟩) n cap] W fun e w' => ∃ v, e = .returned v ∧ BldR w' W.heap.size w'.heap.size v ((srtN ks ds).map (nthR rs)) ∧ Below W.heap.size W w') := fun W g c cap hW hD => by
        have hp := (srtN_spec ks ds).1
        have hpl : (srtN ks ds).length = n := by rw [hp.length_eq, List.length_range, HN.out]
        have hlt : ∀ x ∈ srtN ks ds, x < rs.length := fun x hx => by have := List.mem_range.1 (hp.mem_iff.1 hx); have := HRL.out; omega
        have hml : ((srtN ks ds).map (nthR rs)).length = n := by rw [List.length_map]; exact hpl
        have := copyRows_any g 0 cap ((srtN ks ds).map (nthR rs)) _ W (zip_cel (HCK.out.2.below hW) hlt) (by rw [hml]; omega) (fun i hi => by
          rw [List.length_map] at hi
          rw [nthR_get (by rw [List.length_map]; exact hi), List.getElem_map]
          exact H16.out _ (hlt _ (List.getElem_mem hi))) (fun x hx => by
          rw [List.length_map] at hx
          rw [Nat.zero_add]
          exact hD.cell hx) hD.lt
        rw [hml] at this
        exact this
      clear HCK HAL H16 HBO HRL
      generalize ds.length = m at *
      go_enter Try.func15, Try.ntmps15
      go_wp2_with (first | (go_at_call 39; refine (A1 _ b0).mono ?_; rintro e w1 ⟨rfl, b1⟩; clear A1; have b1' := HB.out _ b1) | (go_at_call 39; refine (A2 _ b1').mono ?_; rintro e w2 ⟨rfl, b2⟩; clear A2; have cx := HX.out w2 (below_step b1 (Nat.le_refl _) b2); have b2' := below_step b1' (Nat.le_refl _) b2; have b2x := below_step b1 (Nat.le_refl _) b2) | (go_at_call 45; refine (A3.out _ b2x).mono ?_; rintro e w3 ⟨rfl, b3⟩; have b3x := below_step b2x (Nat.le_refl _) b3; have b3' := below_step b2' (Nat.le_refl _) b3; clear A3))
      have HB3 : Hid (Below (w.alloc (.cells #[.slice ad m cd] 32)).heap.size (w.alloc (.cells #[.slice ad m cd] 32)) w3) := b3x
      clear cx b1 b2 b3 b1' b2' b2x b3x b0
      go_loopw [8, 51] (fun v i wr => ∃ q : Nat, q ≤ n ∧ i = .int .i64 q ∧ Hid (OwnK wr w3.heap.size v k (List.range q) ∧ (0 < q → v ≠ .slice none 0 0)) ∧ Below w3.heap.size w3 wr) (fun _ i _ => n - (intOf i).toNat)
      case atStart => exact ⟨0, by omega, rfl, ⟨OwnK.nil _ _ _, fun h => absurd h (Nat.lt_irrefl 0)⟩, Below.refl _ _⟩
      case round =>
        obtain ⟨q, hq, rfl, HO, hbl⟩ := hrel
        have hBw : Below w.heap.size w wr := below_step b3' (Nat.le_refl _) hbl
        by_cases hqn : q < n
        · have hqI : (q : Int) < (n : Int) := by omega
          obtain ⟨c1, c2⟩ := HK.out q hqn wr hBw
          obtain ⟨v', w', hrun, hO2, hv2, hB2⟩ := push_K HO.out.1 hbl (by omega)
          have HO2 : Hid ((OwnK w' w3.heap.size v' k (List.range (q + 1)) ∧ (0 < q + 1 → v' ≠ .slice none 0 0)) ∧ Below w3.heap.size w3 w') := ⟨⟨hO2, fun _ => hv2⟩, hB2⟩
          have d1 : wr.drew.cell? ⟨bk, ok + q, none⟩ = some (k.p q) := c1
          have d2 : wr.drew.cell? ⟨br, or + q, none⟩ = some (k.q q) := c2
          clear hO2 hv2 hB2 HO c1 c2 hBw
          go_wp2_with fail
          go_region_law (first | (refine step_append_run (by rfl) _ _ _ _ (by rfl) _ _ (by rfl) (by rfl) _ _ hrun ?_))
          all_goals
            go_wp2
            go_roundw
            case rel => exact ⟨q + 1, by omega, by go_num, HO2.out.1, HO2.out.2⟩
            case measure => simp [intOf]; omega
        · obtain rfl : q = n := by omega
          obtain ⟨g4, c4, e4, hg4, hD4⟩ := HO.out.1.dat (HO.out.2 (by omega))
          rw [List.length_range] at e4
          subst e4
          have cx := HX.out wr (below_step HB3.out (Nat.le_refl _) hbl)
          have R5 := RB.out wr g4 c4 c4 hBw hD4
          clear HO hD4 hg4 RB
          go_wp2_with fail
          refine R5.mono ?_
          rintro e w5 ⟨g5, c5, zs, rfl, hg5, rfl, hD5, b5⟩
          have B5 := below_step hBw (Nat.le_refl _) b5
          have R6 := CR.out w5 g5 c5 c5 B5 hD5
          clear R5 CR hD5 hg5 cx
          go_wp2_with fail
          refine R6.mono ?_
          rintro e w6 ⟨v6, rfl, O6, b6⟩
          have HE : Hid (BldR w6 w.heap.size w6.heap.size v6 ((srtN ks ds).map (nthR rs)) ∧ Below w.heap.size w w6) := ⟨O6.base B5.size, below_step B5 (Nat.le_refl _) b6⟩
          clear R6 O6 b6 b5 B5
          go_wp2
          go_ret2
          exact RetO.good HC.out HE.out.1 HE.out.2
theorem implSort_any (ak ad ar : Option Addr) (ck cd cr : Nat) (ks : Rs) (ds : List Bool) (rs : Rs) (w : World) (hk : RowA w ak ks) (hd : BoA w ad ds) (hr : RowA w ar rs) (sk : SmallR ks) (sr : SmallR rs) (sd : ds.length ≤ 1048576) :
    Calls Try.prog 15 #[.slice ak ks.length ck, .slice ad ds.length cd, .slice ar rs.length cr] w (RetO ks ds rs w) := by
  by_cases h : soC ks ds rs ≠ 0 ∧ soC ks ds rs ≠ 12
  · exact implSort_early ak ad ar ck cd cr ks ds rs w hk hr sk sr sd h
  · by_cases h1 : 4096 < ks.length ∨ 4096 < ds.length ∨ 4096 < rs.length
    · exfalso
      have : soC ks ds rs = 2 := if_pos h1
      rw [this] at h
      exact h ⟨by decide, by decide⟩
    · by_cases h2 : ks.length = rs.length ∧ okRs 16 ks = true ∧ okRs 16 rs = true ∧ ds.length ≤ 16
      · exact implSort_late ak ad ar ck cd cr ks ds rs w hk hd hr sk sr h1 h2
      · exfalso
        have : soC ks ds rs = 1 := by unfold soC; rw [if_neg h1, if_neg h2]
        rw [this] at h
        exact h ⟨by decide, by decide⟩
end Go.Proofs.Ytmcjgncpblbhpaa
