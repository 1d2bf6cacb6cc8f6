/- spec's DataOK (stage 13). -/
import Derived.Test.YtepkdodicglilaaGreatDoC
namespace Go.Proofs.YtepkdodicglilaaGreat
open Go.RowKit

theorem l01Rows_take (a1 a2 : Option Addr) (c1 c2 k : Nat) (vs us : List V3) (w : World) (h1 : RowV w a1 vs) (h2 : RowV w a2 us) (hl1 : k ≤ vs.length) (hl2 : k ≤ us.length) (hk : k ≤ 4096) :
    Calls Tryz.prog 23 #[.slice a1 k c1, .slice a2 k c2] w fun e w' => e = .returned (.int .i64 (cmpRows (vs.take k) (us.take k))) ∧ Below w.heap.size w w' := by
  have e1 : (vs.take k).length = k := by rw [List.length_take]; omega
  have e2 : (us.take k).length = k := by rw [List.length_take]; omega
  have h := l01Rows_any a1 a2 c1 c2 (vs.take k) (us.take k) w (h1.take k) (h2.take k) (by omega) (by omega)
  rw [e1, e2] at h
  exact h

set_option maxRecDepth 100000 in
set_option maxHeartbeats 16000000 in
theorem specDataOK_any (a : Option Addr) (cap : Nat) (ss : List TT) (b : Option Addr) (dcap : Nat) (ds : List TD) (w : World) (h : RowT w a ss) (hd : RowD w b ds) (hl : ss.length ≤ 1048576) (hdl : ds.length ≤ 1048576) (hz : ∀ i, i < ss.length → SmallT (nthT ss i)) (hy : ∀ i, i < ds.length → SmallD (nthD ds i)) :
    Calls Tryz.prog 7 #[.slice a ss.length cap, .slice b ds.length dcap] w fun e w' => e = .returned (.bool (asB (DatP ss ds))) ∧ Below w.heap.size w w' := by
  have HC := specCatalogOK_any a cap ss w h hl hz
  have HR : Hid (RowT w a ss ∧ RowD w b ds) := ⟨h, hd⟩
  have HZ : Hid ((∀ i, i < ss.length → SmallT (nthT ss i)) ∧ ∀ i, i < ds.length → SmallD (nthD ds i)) := ⟨hz, hy⟩
  clear h hd hz hy
  obtain ⟨n, hn⟩ : ∃ n, ss.length = n := ⟨_, rfl⟩
  obtain ⟨m, hm⟩ : ∃ m, ds.length = m := ⟨_, rfl⟩
  have HN : Hid (ss.length = n ∧ ds.length = m) := ⟨hn, hm⟩
  have HP : Hid (DatP ss ds ↔ CatP ss ∧ m = n ∧ FitsUp ss ds n) := by rw [← hn, ← hm]; exact Iff.rfl
  rw [hn] at HC hl ⊢
  rw [hm] at hdl ⊢
  clear hn hm
  by_cases hb1 : (4096 : Int) < (n : Int)
  · have HX : Hid (¬ DatP ss ds) := fun h => by have := (HP.out.1 h).1.1; rw [HN.out.1] at this; omega
    clear HC
    go_enter Tryz.func7, Tryz.ntmps7
    go_wp2
    go_ret
    exact ⟨ret_bool' (asB_false HX.out), Below.refl _ _⟩
  by_cases hb2 : (4096 : Int) < (m : Int)
  · have HX : Hid (¬ DatP ss ds) := fun h => by have h1 := (HP.out.1 h).1.1; have h2 := (HP.out.1 h).2.1; rw [HN.out.1] at h1; omega
    clear HC
    go_enter Tryz.func7, Tryz.ntmps7
    go_wp2
    go_ret
    exact ⟨ret_bool' (asB_false HX.out), Below.refl _ _⟩
  cases hok : asB (CatP ss) with
  | false =>
    have HX : Hid (¬ DatP ss ds) := fun h => asB_not hok (HP.out.1 h).1
    rw [hok] at HC
    clear hok
    go_enter Tryz.func7, Tryz.ntmps7
    go_wp2_with fail
    refine HC.mono ?_
    rintro e w1 ⟨rfl, b1⟩
    clear HC
    go_wp2
    go_ret
    exact ⟨ret_bool' (asB_false HX.out), b1⟩
  | true =>
  have HK : Hid (CatP ss) := asB_is hok
  rw [hok] at HC
  clear hok
  by_cases hmn : ¬ m = n
  · have HX : Hid (¬ DatP ss ds) := fun h => hmn (HP.out.1 h).2.1
    have hmb : ((m : Int) != (n : Int)) = true := by simp; omega
    go_enter Tryz.func7, Tryz.ntmps7
    go_wp2_with fail
    refine HC.mono ?_
    rintro e w1 ⟨rfl, b1⟩
    clear HC
    go_wp2
    go_ret
    exact ⟨ret_bool' (asB_false HX.out), b1⟩
  obtain rfl : m = n := by omega
  have HQ : Hid (DatP ss ds ↔ FitsUp ss ds m) := by rw [HP.out]; exact ⟨fun h => h.2.2, fun h => ⟨HK.out, rfl, h⟩⟩
  clear HP
  go_enter Tryz.func7, Tryz.ntmps7
  go_wp2_with fail
  refine HC.mono ?_
  rintro e w0 ⟨rfl, B0⟩
  clear HC
  go_wp2
  go_loopw [5] (fun i wr => ∃ k : Nat, k ≤ m ∧ i = .int .i64 k ∧ Hid (FitsUp ss ds k) ∧ Below w.heap.size w wr) (fun i _ => m - (intOf i).toNat)
  case atStart => exact ⟨0, by omega, rfl, fun i hi => by omega, B0⟩
  case round =>
    rename World => wo
    obtain ⟨k, hk, rfl, HS, hbl⟩ := hrel
    by_cases hlt : ¬ k < m
    · obtain rfl : k = m := by omega
      have HT : Hid (DatP ss ds) := HQ.out.2 HS.out
      go_wp2
      go_ret
      exact ⟨ret_bool' (asB_true HT.out), hbl⟩
    replace hlt : k < m := by omega
    have hltI : (k : Int) < (m : Int) := by omega
    obtain ⟨tb, to, ca, cc, xa, xc, rfl, hlb, ⟨p0, p1, p2, p3⟩, hcs, hxs, hsn, lcs, lxs, kc, kx⟩ := (HR.out.1.below hbl) k (by rw [HN.out.1]; exact hlt)
    obtain ⟨db, dof, ra, rc, rfl, hlb2, ⟨r0, r1⟩, hrr, lrr, hdn, _⟩ := (HR.out.2.below hbl) k (by rw [HN.out.2]; exact hlt)
    have hsmT := HZ.out.1 k (by rw [HN.out.1]; exact hlt)
    have hsmD := HZ.out.2 k (by rw [HN.out.2]; exact hlt)
    have hQT := (HK.out.2 k (by rw [HN.out.1]; exact hlt)).1
    have HU : Hid (DatP ss ds → FitP (nthT ss k) (nthD ds k)) := fun h => HQ.out.1 h k hlt
    have HV : Hid (FitP (nthT ss k) (nthD ds k) → FitsUp ss ds (k + 1)) := fun h => HS.out.next h
    clear hxs hsn lcs lxs kc kx lrr hdn HS
    generalize nthT ss k = x at *
    generalize nthD ds k = d at *
    obtain ⟨nx, cs, ky, xs⟩ := x
    obtain ⟨dn, rs⟩ := d
    simp only at p0 p1 p2 p3 r0 r1 hcs hrr
    obtain ⟨k0, rfl, hk1, hk8⟩ : ∃ k0 : Nat, ky = (k0 : Int) ∧ k0 ≤ cs.length ∧ k0 ≤ 8 := ⟨ky.toNat, by have h1 : (1 : Int) ≤ ky := hQT.2.2.2.1; omega, by have h1 : (1 : Int) ≤ ky := hQT.2.2.2.1; have h2 : ky ≤ cs.length := hQT.2.2.2.2.1; omega, by have h1 : (1 : Int) ≤ ky := hQT.2.2.2.1; have h2 : ky ≤ cs.length := hQT.2.2.2.2.1; have h3 : cs.length ≤ 8 := hQT.2.1; omega⟩
    have HL : Hid (k0 ≤ cs.length ∧ cs.length ≤ 1048576) := ⟨hk1, hsmT.2.1.1⟩
    have HM : Hid (∀ i, i < rs.length → (nthR rs i).length ≤ 1048576) := hsmD.2.2
    have lr : rs.length ≤ 1048576 := hsmD.2.1
    have HCR : Hid (∀ W, Below wo.heap.size wo W → RowC W ca cs ∧ RowR W ra rs) := fun W b => ⟨hcs.below b, hrr.below b⟩
    clear hcs hrr hsmT hsmD hQT hk1
    obtain ⟨n, hn⟩ : ∃ m, rs.length = m := ⟨_, rfl⟩
    have HR2 : Hid (rs.length = n) := hn
    have HPF : Hid (FitP (nx, cs, (k0 : Int), xs) (dn, rs) ↔ (nx.toList == dn.toList) = true ∧ n ≤ 400 ∧ RowsUp cs k0 rs n) := by rw [← hn]; show _ ↔ _; unfold FitP; simp
    rw [hn] at lr r1
    clear hn
    have C0 : Hid (∀ {w1 : World}, Below wo.heap.size wo w1 → w1.cell? ⟨tb, to + k * 4, none⟩ = some (.string nx) ∧ w1.cell? ⟨tb, to + k * 4 + 1, none⟩ = some (.slice ca cs.length cc) ∧ w1.cell? ⟨tb, to + k * 4 + 2, none⟩ = some (.int .i64 (k0 : Int)) ∧ w1.cell? ⟨tb, to + k * 4 + 3, none⟩ = some (.slice xa xs.length xc) ∧ w1.cell? ⟨db, dof + k * 2, none⟩ = some (.string dn) ∧ w1.cell? ⟨db, dof + k * 2 + 1, none⟩ = some (.slice ra n rc)) := fun {w1} b => ⟨(b.cell (p := ⟨tb, to + k * 4, none⟩) hlb).trans p0, (b.cell (p := ⟨tb, to + k * 4 + 1, none⟩) hlb).trans p1, (b.cell (p := ⟨tb, to + k * 4 + 2, none⟩) hlb).trans p2, (b.cell (p := ⟨tb, to + k * 4 + 3, none⟩) hlb).trans p3, (b.cell (p := ⟨db, dof + k * 2, none⟩) hlb2).trans r0, (b.cell (p := ⟨db, dof + k * 2 + 1, none⟩) hlb2).trans r1⟩
    cases hnm : (dn.toList == nx.toList) with
    | false =>
      have HX : Hid (¬ DatP ss ds) := fun h => by
        have := (HPF.out.1 (HU.out h)).1
        have e1 : nx.toList = dn.toList := by simpa using this
        rw [e1] at hnm
        simp at hnm
      clear HPF HU HV HCR HM HL C0
      go_wp2_with fail
      go_quiet (fail)
      go_wp2
      go_ret
      exact ⟨ret_bool' (asB_false HX.out), below_drewN hbl _⟩
    | true =>
    by_cases h4 : (400 : Int) < (n : Int)
    · have HX : Hid (¬ DatP ss ds) := fun h => by have := (HPF.out.1 (HU.out h)).2.1; omega
      have h4b : decide ((400 : Int) < (n : Int)) = true := decide_eq_true h4
      clear HPF HU HV HCR HM HL C0
      go_wp2_with fail
      go_quiet (fail)
      go_wp2
      go_ret
      exact ⟨ret_bool' (asB_false HX.out), below_drewN hbl _⟩
    have h4b : decide ((400 : Int) < (n : Int)) = false := decide_eq_false h4
    have HQF : Hid (FitP (nx, cs, (k0 : Int), xs) (dn, rs) ↔ RowsUp cs k0 rs n) := by
      rw [HPF.out]
      have e1 : dn.toList = nx.toList := by simpa using hnm
      exact ⟨fun h => h.2.2, fun h => ⟨by rw [e1]; simp, by omega, h⟩⟩
    clear HPF
    go_wp2_with fail
    go_quiet (fail)
    rename_i nq
    have BQ : Below wo.heap.size wo (wo.drewN nq) := below_drewN (Below.refl _ _) _
    clear p0 p1 p2 p3 r0 r1 h4b hnm
    obtain ⟨p0, p1, p2, p3, r0, r1⟩ := C0.out BQ
    go_wp2
    go_loopw [6] (fun i wr => ∃ j : Nat, j ≤ n ∧ i = .int .i64 j ∧ Hid (RowsUp cs k0 rs j) ∧ Below wo.heap.size wo wr) (fun i _ => n - (intOf i).toNat)
    case atStart => exact ⟨0, by omega, rfl, fun i hi => by omega, BQ⟩
    case round =>
      obtain ⟨j, hj, rfl, HS, hb⟩ := hrel
      have BR := hbl.trans (hb.mono hbl.size)
      clear p0 p1 p2 p3 r0 r1
      obtain ⟨p0, p1, p2, p3, r0, r1⟩ := C0.out hb
      by_cases hjn : ¬ j < n
      · obtain rfl : j = n := by omega
        have HT : Hid (FitsUp ss ds (k + 1)) := HV.out (HQF.out.2 HS.out)
        go_wp2
        go_roundw
        case rel => exact ⟨k + 1, by omega, by go_num, HT, BR⟩
        case measure => simp [intOf]; omega
      replace hjn : j < n := by omega
      have hjnI : (j : Int) < (n : Int) := by omega
      obtain ⟨rb, ro, ai, ci, rfl, hlr, hci, hri, hmi, hkci⟩ := (HCR.out _ hb).2 j (by rw [HR2.out]; exact hjn)
      have lv := HM.out j (by rw [HR2.out]; exact hjn)
      have HUj : Hid (DatP ss ds → GoodR cs (nthR rs j) ∧ (0 < j → cmpRows ((nthR rs (j - 1)).take k0) ((nthR rs j).take k0) < 0)) := fun h => HQF.out.1 (HU.out h) j hjn
      have HVj : Hid (GoodR cs (nthR rs j) → (0 < j → cmpRows ((nthR rs (j - 1)).take k0) ((nthR rs j).take k0) < 0) → RowsUp cs k0 rs (j + 1)) := fun h1 h2 => HS.out.next h1 h2
      have HRI : Hid (RowV wr ai (nthR rs j)) := hri
      have HKC : Hid (k0 ≤ (nthR rs j).length → k0 ≤ ci) := fun h => by omega
      obtain ⟨lvn, hlvn⟩ : ∃ m, (nthR rs j).length = m := ⟨_, rfl⟩
      have HLV : Hid ((nthR rs j).length = lvn) := hlvn
      have hk01 := l01Row_any ai ci (nthR rs j) wr hri lv
      rw [hlvn] at hk01 hci
      clear hri hmi hkci lv hlvn
      cases hok : okRow (nthR rs j) with
      | false =>
        have HX : Hid (¬ DatP ss ds) := fun h => by have := (HUj.out h).1.1; rw [hok] at this; cases this
        rw [hok] at hk01
        clear hok
        go_wp2_with fail
        refine hk01.mono ?_
        rintro e w1 ⟨rfl, b1⟩
        have B1 := below_step BR (Nat.le_refl _) b1
        clear hk01
        go_wp2
        go_ret
        exact ⟨ret_bool' (asB_false HX.out), B1⟩
      | true =>
      have HOK : Hid (okRow (nthR rs j) = true) := hok
      rw [hok] at hk01
      clear hok
      go_wp2_with fail
      refine hk01.mono ?_
      rintro e w1 ⟨rfl, b1⟩
      have BR1 := below_step BR (Nat.le_refl _) b1
      have hb1 : Below wo.heap.size wo w1 := below_step hb (Nat.le_refl _) b1
      clear hk01 p0 p1 p2 p3 r0 r1
      obtain ⟨p0, p1, p2, p3, r0, r1⟩ := C0.out hb1
      have hk09 := l09Row_any nx ca cc cs (k0 : Int) (.slice xa xs.length xc) ai ci (nthR rs j) w1 (HCR.out _ hb1).1 (HRI.out.below b1) HL.out.2 (by have := okRow_le HOK.out; omega)
      rw [HLV.out] at hk09
      by_cases hz9 : ¬ (rowR cs (nthR rs j)).1 = 0
      · have HX : Hid (¬ DatP ss ds) := fun h => hz9 (HUj.out h).1.2
        have hzb : ((rowR cs (nthR rs j)).1 != 0) = true := by simpa using hz9
        clear hz9
        generalize (rowR cs (nthR rs j)).1 = z1 at *
        generalize (rowR cs (nthR rs j)).2 = z2 at *
        go_wp2_with fail
        refine hk09.mono ?_
        rintro e w2 ⟨rfl, b2⟩
        have B2 := below_step BR1 (Nat.le_refl _) b2
        clear hk09
        go_wp2
        go_ret
        exact ⟨ret_bool' (asB_false HX.out), B2⟩
      replace hz9 : (rowR cs (nthR rs j)).1 = 0 := Decidable.not_not.1 hz9
      have HG : Hid (GoodR cs (nthR rs j)) := ⟨HOK.out, hz9⟩
      rw [hz9] at hk09
      clear hz9
      generalize (rowR cs (nthR rs j)).2 = z2 at *
      go_wp2_with fail
      refine hk09.mono ?_
      rintro e w2 ⟨rfl, b2⟩
      have BR2 := below_step BR1 (Nat.le_refl _) b2
      have hb2 : Below wo.heap.size wo w2 := below_step hb1 (Nat.le_refl _) b2
      have hw12 : Below wr.heap.size wr w2 := below_step b1 (Nat.le_refl _) b2
      clear hk09 p0 p1 p2 p3 r0 r1
      obtain ⟨p0, p1, p2, p3, r0, r1⟩ := C0.out hb2
      by_cases hz : j = 0
      · subst hz
        have HF : Hid (RowsUp cs k0 rs (0 + 1)) := HVj.out HG.out fun h => by omega
        clear HUj HVj HG HS
        go_wp2_with fail
        go_quiet (fail)
        rename_i nq2
        go_wp2
        go_roundw
        case rel => exact ⟨1, by omega, by go_num, HF, below_drewN hb2 _⟩
        case measure => simp [intOf]; omega
      · obtain ⟨q, rfl⟩ : ∃ q, j = q + 1 := ⟨j - 1, by omega⟩
        simp only [Nat.add_sub_cancel] at HUj HVj
        have hgq := (HS.out q (by omega)).1
        obtain ⟨rb', ro', aj, cj, e', hlr', hcj, hrj, hmj, hkcj⟩ := (HCR.out _ hb2).2 q (by rw [HR2.out]; omega)
        cases e'
        have hklj : k0 ≤ (nthR rs q).length := by rw [hgq.len]; exact HL.out.1
        have hkli : k0 ≤ (nthR rs (q + 1)).length := by rw [HG.out.len]; exact HL.out.1
        have HO : Hid (∀ W, Below w2.heap.size w2 W → Calls Tryz.prog 23 #[.slice aj k0 cj, .slice ai k0 ci] W fun e w' => e = .returned (.int .i64 (cmpRows ((nthR rs q).take k0) ((nthR rs (q + 1)).take k0))) ∧ Below W.heap.size W w') := fun W b => l01Rows_take aj ai cj ci k0 (nthR rs q) (nthR rs (q + 1)) W (hrj.below b) ((HRI.out.below hw12).below b) hklj hkli (by omega)
        have hcci : k0 ≤ ci := HKC.out hkli
        have hccj : k0 ≤ cj := by omega
        have hsub : (q : Int) + 1 - 1 = (q : Int) := by omega
        have hqn : (q : Int) < (n : Int) := by omega
        have hpos : (0 : Int) < (q : Int) + 1 := by omega
        have hwq : IntKind.i64.wrap (q : Int) = (q : Int) := wrap_nat (by omega)
        have hgt : decide ((0 : Int) < (q : Int) + 1) = true := decide_eq_true hpos
        obtain ⟨lun, hlun⟩ : ∃ m, (nthR rs q).length = m := ⟨_, rfl⟩
        rw [hlun] at hcj
        have HP0 : Hid (Below w2.heap.size w2 w2.drew) := (Below.refl _ _).drew
        have CR : Hid (∀ {w3 : World}, Below w2.heap.size w2 w3 → w3.cell? ⟨db, dof + k * 2 + 1, none⟩ = some (.slice (some ⟨rb, ro, none⟩) n rc) ∧ w3.cell? ⟨rb, ro + q, none⟩ = some (.slice aj lun cj) ∧ w3.cell? ⟨tb, to + k * 4 + 2, none⟩ = some (.int .i64 (k0 : Int))) := fun {w3} b3 => ⟨(C0.out (below_step hb2 (Nat.le_refl _) b3)).2.2.2.2.2, (b3.cell (p := ⟨rb, ro + q, none⟩) hlr').trans hcj, (C0.out (below_step hb2 (Nat.le_refl _) b3)).2.2.1⟩
        clear hrj hmj hkcj hkli hklj hlun hgq
        by_cases hc : cmpRows ((nthR rs q).take k0) ((nthR rs (q + 1)).take k0) < 0
        · have HF : Hid (RowsUp cs k0 rs (q + 1 + 1)) := HVj.out HG.out fun _ => hc
          have hcb : decide (0 ≤ cmpRows ((nthR rs q).take k0) ((nthR rs (q + 1)).take k0)) = false := decide_eq_false (by omega)
          clear HUj HVj HG HS hc
          generalize cmpRows ((nthR rs q).take k0) ((nthR rs (q + 1)).take k0) = c at *
          go_wp2_with fail
          refine wp_region_class (C := fun w' => Below w2.heap.size w2 w') (by kernel_rfl) (by kernel_rfl) HP0.out ?_
          repeat (first | go_big_quiet_skip | (go_big_quiet_want; apply Exists.intro; refine ⟨?_, ?_⟩; (focus (intro w' hw'; first | (have m0 := (CR.out hw').1; have m1 := (CR.out hw').2.1; have m2 := (CR.out hw').2.2; go_simp; with_reducible rfl) | (go_simp; refine (HO.out w' hw').mono ?_; rintro e w'' ⟨rfl, hb⟩; exact ⟨rfl, below_step hw' (Nat.le_refl _) hb⟩))); (try simp only [Act.put, List.setIfInBounds_toArray, List.set_cons_zero, List.set_cons_succ]); go_big_quiet_on))
          refine wpQuiet_nil ?_
          intro w3 hw3
          have B3 := BR2.trans (hw3.mono BR2.size)
          clear HO HP0 CR
          go_wp2
          go_roundw
          case rel => exact ⟨q + 1 + 1, by omega, by go_num, HF, hb2.trans (hw3.mono hb2.size)⟩
          case measure => simp [intOf]; omega
        · have HX : Hid (¬ DatP ss ds) := fun h => hc ((HUj.out h).2 (by omega))
          have hcb : decide (0 ≤ cmpRows ((nthR rs q).take k0) ((nthR rs (q + 1)).take k0)) = true := decide_eq_true (by omega)
          clear HUj HVj HG HS hc
          generalize cmpRows ((nthR rs q).take k0) ((nthR rs (q + 1)).take k0) = c at *
          go_wp2_with fail
          refine wp_region_class (C := fun w' => Below w2.heap.size w2 w') (by kernel_rfl) (by kernel_rfl) HP0.out ?_
          repeat (first | go_big_quiet_skip | (go_big_quiet_want; apply Exists.intro; refine ⟨?_, ?_⟩; (focus (intro w' hw'; first | (have m0 := (CR.out hw').1; have m1 := (CR.out hw').2.1; have m2 := (CR.out hw').2.2; go_simp; with_reducible rfl) | (go_simp; refine (HO.out w' hw').mono ?_; rintro e w'' ⟨rfl, hb⟩; exact ⟨rfl, below_step hw' (Nat.le_refl _) hb⟩))); (try simp only [Act.put, List.setIfInBounds_toArray, List.set_cons_zero, List.set_cons_succ]); go_big_quiet_on))
          refine wpQuiet_nil ?_
          intro w3 hw3
          have B3 := BR2.trans (hw3.mono BR2.size)
          clear HO HP0 CR
          go_wp2
          go_ret
          exact ⟨ret_bool' (asB_false HX.out), B3⟩
end Go.Proofs.YtepkdodicglilaaGreat
