/- Data that fit a table, as impl looks at them (stage 13). -/
import Derived.Test.YtepkdodicglilaaGreatDoA
import Derived.Test.YtepkdodicglilaaGreatDtA
import Derived.Test.YtepkdodicglilaaGreatOrB
import Derived.Test.YtepkdodicglilaaGreatCkB
namespace Go.Proofs.YtepkdodicglilaaGreat
open Go.RowKit

theorem RowV.take {w : World} {a : Option Addr} {vs : List V3} (h : RowV w a vs) (k : Nat) : RowV w a (vs.take k) := fun i hi => by
  have hi' : i < k ∧ i < vs.length := by rw [List.length_take] at hi; omega
  obtain ⟨b, off, e, hb, hc⟩ := h i hi'.2
  refine ⟨b, off, e, hb, ?_⟩
  have : nthV (vs.take k) i = nthV vs i := by
    unfold nthV
    rw [List.getD_eq_getElem?_getD, List.getD_eq_getElem?_getD, List.getElem?_take_of_lt hi'.1]
  rw [this]; exact hc
/-- A row that fits a table's columns. -/
def GoodR (cs : List TC) (vs : List V3) : Prop := okRow vs = true ∧ (rowR cs vs).1 = 0
theorem GoodR.len {cs : List TC} {vs : List V3} (h : GoodR cs vs) : vs.length = cs.length := by
  have h2 := h.2
  unfold rowR at h2
  by_cases e : vs.length = cs.length
  · exact e
  · rw [if_pos e] at h2; cases h2
theorem okRow_le {vs : List V3} (h : okRow vs = true) : vs.length ≤ 8 := by
  rcases Nat.lt_or_ge 8 vs.length with h8 | h8
  · rw [okRow_long h8] at h; cases h
  · exact h8
theorem crowE_nil {cs : List TC} {vs : List V3} : crowE true cs vs = .nil ↔ GoodR cs vs := by
  unfold crowE GoodR
  by_cases h1 : 4096 < vs.length
  · rw [if_pos h1]
    exact ⟨fun h => (by cases h), fun h => (by have := okRow_le h.1; omega)⟩
  rw [if_neg h1]
  cases h2 : okRow vs with
  | false => simp
  | true =>
    simp only [Bool.and_self, if_true, true_and]
    unfold rowR
    by_cases h3 : vs.length ≠ cs.length
    · rw [if_pos h3, if_pos h3]
      exact ⟨fun h => (by cases h), fun h => (by cases h)⟩
    rw [if_neg h3, if_neg h3]
    by_cases h4 : (rowF cs vs 0).1 = 0
    · rw [if_pos h4]; exact ⟨fun _ => h4, fun _ => rfl⟩
    · rw [if_neg h4]; exact ⟨fun h => (by cases h), fun h => absurd h h4⟩
theorem erV_not {e : Er} (h : e ≠ .nil) : ∃ u x, erV e = .iface u x := by
  cases e with
  | nil => exact absurd rfl h
  | code n => exact ⟨_, _, rfl⟩
  | col i e => exact ⟨_, _, rfl⟩
/-- The rows fit and their keys rise, up to k. -/
def RowsUp (cs : List TC) (key : Nat) (rs : Rs) (k : Nat) : Prop := ∀ j, j < k → GoodR cs (nthR rs j) ∧ (0 < j → cmpRows ((nthR rs (j - 1)).take key) ((nthR rs j).take key) < 0)
theorem RowsUp.next {cs : List TC} {key : Nat} {rs : Rs} {k : Nat} (h : RowsUp cs key rs k) (h1 : GoodR cs (nthR rs k)) (h2 : 0 < k → cmpRows ((nthR rs (k - 1)).take key) ((nthR rs k).take key) < 0) : RowsUp cs key rs (k + 1) := fun j hj => by
  by_cases e : j = k
  · subst e; exact ⟨h1, h2⟩
  · exact h j (by omega)
/-- Data fit a table. -/
def FitP (x : TT) (d : TD) : Prop := (x.1.toList == d.1.toList) = true ∧ d.2.length ≤ 400 ∧ RowsUp x.2.1 x.2.2.1.toNat d.2 d.2.length

set_option maxRecDepth 100000 in
theorem rowOrder_any (a1 a2 : Option Addr) (c1 c2 : Nat) (vs us : List V3) (w : World) (h1 : RowV w a1 vs) (h2 : RowV w a2 us) (hl1 : vs.length ≤ 4096) (hl2 : us.length ≤ 4096) :
    Calls Tryz.prog 52 #[.slice a1 vs.length c1, .slice a2 us.length c2] w fun e w' => e = .returned (.int .i64 (cmpRows vs us)) ∧ Below w.heap.size w w' := by
  have hcl := compareFunc_any a1 a2 c1 c2 vs us w h1 h2 hl1 hl2
  clear h1 h2
  obtain ⟨c, hc⟩ : ∃ c, cmpRows vs us = c := ⟨_, rfl⟩
  rw [hc] at hcl ⊢
  clear hc
  go_enter Tryz.func52, Tryz.ntmps52
  go_wp2_with fail
  refine hcl.mono ?_
  rintro e w1 ⟨rfl, b1⟩
  clear hcl
  go_wp2
  go_ret
  exact ⟨rfl, b1⟩
theorem rowOrder_take (a1 a2 : Option Addr) (c1 c2 k : Nat) (vs us : List V3) (w : World) (h1 : RowV w a1 vs) (h2 : RowV w a2 us) (hl1 : k ≤ vs.length) (hl2 : k ≤ us.length) (hk : k ≤ 4096) :
    Calls Tryz.prog 52 #[.slice a1 k c1, .slice a2 k c2] w fun e w' => e = .returned (.int .i64 (cmpRows (vs.take k) (us.take k))) ∧ Below w.heap.size w w' := by
  have e1 : (vs.take k).length = k := by rw [List.length_take]; omega
  have e2 : (us.take k).length = k := by rw [List.length_take]; omega
  have h := rowOrder_any a1 a2 c1 c2 (vs.take k) (us.take k) w (h1.take k) (h2.take k) (by omega) (by omega)
  rw [e1, e2] at h
  exact h

set_option maxRecDepth 100000 in
set_option maxHeartbeats 8000000 in
theorem dataFits_any (nm : ByteArray) (ca xa : Option Addr) (cc xc : Nat) (cs : List TC) (key : Int) (xs : List TX) (dn : ByteArray) (ra : Option Addr) (rc : Nat) (rs : Rs) (w : World) (hC : RowC w ca cs) (hX : RowX w xa xs) (hR : RowR w ra rs) (hs : nm.size ≤ maxLen) (lc : cs.length ≤ 1048576) (lx : xs.length ≤ 1048576) (hz : ∀ i, i < xs.length → SmallX (nthX xs i)) (kc : cs.length ≤ cc) (kx : xs.length ≤ xc) (hsm : SmallR rs) (hT : TabQ (nm, cs, key, xs)) :
    Calls Tryz.prog 28 #[TbV nm (.slice ca cs.length cc) key (.slice xa xs.length xc), ValD dn (.slice ra rs.length rc)] w fun e w' => e = .returned (.bool (asB (FitP (nm, cs, key, xs) (dn, rs)))) ∧ Below w.heap.size w w' := by
  obtain ⟨k0, rfl, hk1, hk8⟩ : ∃ k0 : Nat, key = (k0 : Int) ∧ k0 ≤ cs.length ∧ k0 ≤ 8 := ⟨key.toNat, by have h1 := hT.2.2.2.1; have h1' : (1 : Int) ≤ key := h1; omega, by have h1 : (1 : Int) ≤ key := hT.2.2.2.1; have h2 : key ≤ cs.length := hT.2.2.2.2.1; omega, by have h1 : (1 : Int) ≤ key := hT.2.2.2.1; have h2 : key ≤ cs.length := hT.2.2.2.2.1; have h3 : cs.length ≤ 8 := hT.2.1; omega⟩
  have HT : Hid (∀ W, Below w.heap.size w W → TabAns 50 W (TbA4 nm (.slice ca cs.length cc) (k0 : Int) (.slice xa xs.length xc)) true) := fun W b w1 b1 => by
    have := implTableOK_any nm ca xa cc xc cs (k0 : Int) xs w1 (hC.below (b.trans (b1.mono b.size))) (hX.below (b.trans (b1.mono b.size))) hs lc lx hz kc kx
    have e : asB (TabP nm cs (k0 : Int) xs) = true := (asB_true hT).symm
    rw [e] at this
    exact this
  have HC : Hid (∀ W, Below w.heap.size w W → RowC W ca cs) := fun W b => hC.below b
  have HR : Hid (∀ W, Below w.heap.size w W → RowR W ra rs) := fun W b => hR.below b
  have HM : Hid (∀ i, i < rs.length → (nthR rs i).length ≤ 1048576) := hsm.2
  have lr := hsm.1
  have HL : Hid (k0 ≤ cs.length ∧ cs.length ≤ 1048576) := ⟨hk1, lc⟩
  clear hC hX hR hs lx hz kc kx hsm hT hk1
  obtain ⟨n, hn⟩ : ∃ m, rs.length = m := ⟨_, rfl⟩
  have HN : Hid (rs.length = n) := hn
  have HP : Hid (FitP (nm, cs, (k0 : Int), xs) (dn, rs) ↔ (nm.toList == dn.toList) = true ∧ n ≤ 400 ∧ RowsUp cs k0 rs n) := by rw [← hn]; show _ ↔ _; unfold FitP; simp
  rw [hn] at lr ⊢
  clear hn
  obtain ⟨W0, hW0⟩ : ∃ W0, (w.alloc (.cells #[.string nm, .slice ca cs.length cc, .int .i64 (k0 : Int), .slice xa xs.length xc] 61)).alloc (.cells #[.string dn, .slice ra n rc] 57) = W0 := ⟨_, rfl⟩
  have B0 : Below w.heap.size w W0 := hW0 ▸ ((Below.refl _ _).alloc (Nat.le_refl _) _).alloc (by simp) _
  have XA : Hid (W0.heap[w.heap.size]? = some (.cells #[.string nm, .slice ca cs.length cc, .int .i64 (k0 : Int), .slice xa xs.length xc] 61 (0, 0))) := (hW0 ▸ (heap_old _ _ _ (by simp)).trans (heap_new' _ _ _ rfl) : W0.heap[w.heap.size]? = _)
  have XB : Hid (W0.heap[w.heap.size + 1]? = some (.cells #[.string dn, .slice ra n rc] 57 (0, 0))) := (hW0 ▸ heap_new' _ _ _ (by simp) : W0.heap[w.heap.size + 1]? = _)
  have l0 : w.heap.size + 1 < W0.heap.size := by rw [← hW0]; simp
  have C0w : Hid (∀ {w1 : World}, Below W0.heap.size W0 w1 → w1.cell? ⟨w.heap.size, 0, none⟩ = some (.string nm) ∧ w1.cell? ⟨w.heap.size, 1, none⟩ = some (.slice ca cs.length cc) ∧ w1.cell? ⟨w.heap.size, 2, none⟩ = some (.int .i64 (k0 : Int)) ∧ w1.cell? ⟨w.heap.size, 3, none⟩ = some (.slice xa xs.length xc) ∧ w1.cell? ⟨w.heap.size + 1, 0, none⟩ = some (.string dn) ∧ w1.cell? ⟨w.heap.size + 1, 1, none⟩ = some (.slice ra n rc)) := fun {w1} b => by
    have e : w1.heap[w.heap.size]? = _ := (b.block _ (by omega)).trans XA.out
    have e' : w1.heap[w.heap.size + 1]? = _ := (b.block _ l0).trans XB.out
    exact ⟨slab_cell e, slab_cell e, slab_cell e, slab_cell e, slab_cell e', slab_cell e'⟩
  obtain ⟨q0, q1, q2, q3, q4, q5⟩ := C0w.out (Below.refl _ _)
  cases hnm : (nm.toList == dn.toList) with
  | false =>
    have HX : Hid (¬ FitP (nm, cs, (k0 : Int), xs) (dn, rs)) := fun h => by have := (HP.out.1 h).1; rw [hnm] at this; cases this
    go_enter Tryz.func28, Tryz.ntmps28
    go_wp2
    go_ret
    exact ⟨ret_bool' (asB_false HX.out), B0⟩
  | true =>
  by_cases h4 : (400 : Int) < (n : Int)
  · have HX : Hid (¬ FitP (nm, cs, (k0 : Int), xs) (dn, rs)) := fun h => by have := (HP.out.1 h).2.1; omega
    go_enter Tryz.func28, Tryz.ntmps28
    go_wp2
    go_ret
    exact ⟨ret_bool' (asB_false HX.out), B0⟩
  have HQ : Hid (FitP (nm, cs, (k0 : Int), xs) (dn, rs) ↔ RowsUp cs k0 rs n) := by rw [HP.out]; exact ⟨fun h => h.2.2, fun h => ⟨hnm, by omega, h⟩⟩
  clear HP
  go_enter Tryz.func28, Tryz.ntmps28
  go_wp2
  go_loopw [21] (fun i wr => ∃ k : Nat, k ≤ n ∧ i = .int .i64 k ∧ Hid (RowsUp cs k0 rs k) ∧ Below W0.heap.size W0 wr) (fun i _ => n - (intOf i).toNat)
  case atStart => exact ⟨0, by omega, rfl, fun i hi => by omega, Below.refl _ _⟩
  case round =>
    obtain ⟨k, hk, rfl, HS, hbl⟩ := hrel
    have BR := B0.trans (hbl.mono B0.size)
    have C0 : Hid (∀ {w1 : World}, Below wr.heap.size wr w1 → w1.cell? ⟨w.heap.size, 0, none⟩ = some (.string nm) ∧ w1.cell? ⟨w.heap.size, 1, none⟩ = some (.slice ca cs.length cc) ∧ w1.cell? ⟨w.heap.size, 2, none⟩ = some (.int .i64 (k0 : Int)) ∧ w1.cell? ⟨w.heap.size, 3, none⟩ = some (.slice xa xs.length xc) ∧ w1.cell? ⟨w.heap.size + 1, 0, none⟩ = some (.string dn) ∧ w1.cell? ⟨w.heap.size + 1, 1, none⟩ = some (.slice ra n rc)) := fun {w1} b => C0w.out (hbl.trans (b.mono hbl.size))
    clear q0 q1 q2 q3 q4 q5
    by_cases hlt : k < n
    · have hltI : (k : Int) < (n : Int) := by omega
      obtain ⟨rb, ro, ai, ci, rfl, hlb, hci, hri, hmi, hkci⟩ := (HR.out wr BR) k (by rw [HN.out]; exact hlt)
      have HP0 : Hid (Below wr.heap.size wr wr.drew) := (Below.refl _ _).drew
      have HU : Hid (FitP (nm, cs, (k0 : Int), xs) (dn, rs) → GoodR cs (nthR rs k) ∧ (0 < k → cmpRows ((nthR rs (k - 1)).take k0) ((nthR rs k).take k0) < 0)) := fun h => HQ.out.1 h k hlt
      have HV : Hid (GoodR cs (nthR rs k) → (0 < k → cmpRows ((nthR rs (k - 1)).take k0) ((nthR rs k).take k0) < 0) → RowsUp cs k0 rs (k + 1)) := fun h1 h2 => HS.out.next h1 h2
      have lv := HM.out k (by rw [HN.out]; exact hlt)
      have HK : Hid (∀ W, Below wr.heap.size wr W → Calls Tryz.prog 51 #[TbA4 nm (.slice ca cs.length cc) (k0 : Int) (.slice xa xs.length xc), .slice ai (nthR rs k).length ci] W fun e w' => e = .returned (erV (crowE true cs (nthR rs k))) ∧ Below W.heap.size W w') := fun W b => checkRow_any nm ca cc cs (k0 : Int) _ ai ci (nthR rs k) true W (HC.out W (BR.trans (b.mono BR.size))) (hri.below b) HL.out.2 lv (HT.out W (BR.trans (b.mono BR.size)))
      by_cases hg : GoodR cs (nthR rs k)
      · have HG : Hid (GoodR cs (nthR rs k)) := hg
        have hkl : k0 ≤ (nthR rs k).length := by rw [hg.len]; exact HL.out.1
        rw [crowE_nil.2 hg] at HK
        simp only [erV] at HK
        clear hg
        by_cases hz : k = 0
        · subst hz
          have HF : Hid (RowsUp cs k0 rs (0 + 1)) := HV.out HG.out fun h => by omega
          have HO : Hid True := trivial
          clear HU HV HG HS
          obtain ⟨lvn, hlvn⟩ : ∃ m, (nthR rs 0).length = m := ⟨_, rfl⟩
          rw [hlvn] at HK hci
          rw [Nat.add_zero] at hci
          clear hri hmi hkci lv hkl hlvn
          generalize nthR rs 0 = vs at *
          go_wp2_with fail
          refine wp_region_class (C := fun w' => Below wr.heap.size wr w') (by kernel_rfl) (by kernel_rfl) HP0.out ?_
          repeat (first | go_big_quiet_skip | (go_big_quiet_want; apply Exists.intro; refine ⟨?_, ?_⟩; (focus (intro w' hw'; first | (have m0 := (C0.out hw').1; have m1 := (C0.out hw').2.1; have m2 := (C0.out hw').2.2.1; have m3 := (C0.out hw').2.2.2.1; have m4 := (C0.out hw').2.2.2.2.1; have m5 := (C0.out hw').2.2.2.2.2; go_simp; with_reducible rfl) | (go_simp; refine (HK.out w' hw').mono ?_; rintro e w'' ⟨rfl, hb⟩; exact ⟨rfl, below_step hw' (Nat.le_refl _) hb⟩) | (go_simp; refine (HO.out w' hw').mono ?_; rintro e w'' ⟨rfl, hb⟩; exact ⟨rfl, below_step hw' (Nat.le_refl _) hb⟩))); (try simp only [Act.put, List.setIfInBounds_toArray, List.set_cons_zero, List.set_cons_succ]); go_big_quiet_on))
          refine wpQuiet_nil ?_
          intro w2 hw2
          have B2 := BR.trans (hw2.mono BR.size)
          clear HK HO HP0
          go_wp2
          go_roundw
          case rel => exact ⟨1, by omega, by go_num, HF, hbl.trans (hw2.mono hbl.size)⟩
          case measure => simp [intOf]; omega
        · obtain ⟨j, rfl⟩ : ∃ j, k = j + 1 := ⟨k - 1, by omega⟩
          simp only [Nat.add_sub_cancel] at HU HV
          have hgj := (HS.out j (by omega)).1
          obtain ⟨rb', ro', aj, cj, e', hlb', hcj, hrj, hmj, hkcj⟩ := (HR.out wr BR) j (by rw [HN.out]; omega)
          cases e'
          have hklj : k0 ≤ (nthR rs j).length := by rw [hgj.len]; exact HL.out.1
          have HO : Hid (∀ W, Below wr.heap.size wr W → Calls Tryz.prog 52 #[.slice aj k0 cj, .slice ai k0 ci] W fun e w' => e = .returned (.int .i64 (cmpRows ((nthR rs j).take k0) ((nthR rs (j + 1)).take k0))) ∧ Below W.heap.size W w') := fun W b => rowOrder_take aj ai cj ci k0 (nthR rs j) (nthR rs (j + 1)) W (hrj.below b) (hri.below b) hklj hkl (by omega)
          have hcci : k0 ≤ ci := by omega
          have hccj : k0 ≤ cj := by omega
          have hsub : (j : Int) + 1 - 1 = (j : Int) := by omega
          have hjn : (j : Int) < (n : Int) := by omega
          have hpos : (0 : Int) < (j : Int) + 1 := by omega
          have hwj : IntKind.i64.wrap (j : Int) = (j : Int) := wrap_nat (by omega)
          have hgt : decide ((0 : Int) < (j : Int) + 1) = true := decide_eq_true hpos
          by_cases hc : cmpRows ((nthR rs j).take k0) ((nthR rs (j + 1)).take k0) < 0
          · have HF : Hid (RowsUp cs k0 rs (j + 1 + 1)) := HV.out HG.out fun _ => hc
            have hcb : decide (0 ≤ cmpRows ((nthR rs j).take k0) ((nthR rs (j + 1)).take k0)) = false := decide_eq_false (by omega)
            clear HU HV HG HS
            obtain ⟨lvn, hlvn⟩ : ∃ m, (nthR rs (j + 1)).length = m := ⟨_, rfl⟩
            obtain ⟨lun, hlun⟩ : ∃ m, (nthR rs j).length = m := ⟨_, rfl⟩
            rw [hlvn] at HK hci
            rw [hlun] at hcj
            clear hri hrj hmi hmj hkci hkcj lv hkl hklj hlvn hlun hgj hc
            generalize cmpRows ((nthR rs j).take k0) ((nthR rs (j + 1)).take k0) = c at *
            go_wp2_with fail
            refine wp_region_class (C := fun w' => Below wr.heap.size wr w') (by kernel_rfl) (by kernel_rfl) HP0.out ?_
            repeat (first | go_big_quiet_skip | (go_big_quiet_want; apply Exists.intro; refine ⟨?_, ?_⟩; (focus (intro w' hw'; first | (have m0 := (C0.out hw').1; have m1 := (C0.out hw').2.1; have m2 := (C0.out hw').2.2.1; have m3 := (C0.out hw').2.2.2.1; have m4 := (C0.out hw').2.2.2.2.1; have m5 := (C0.out hw').2.2.2.2.2; have m6 := (hw'.cell (p := ⟨rb, ro + j, none⟩) hlb).trans hcj; go_simp; with_reducible rfl) | (go_simp; refine (HK.out w' hw').mono ?_; rintro e w'' ⟨rfl, hb⟩; exact ⟨rfl, below_step hw' (Nat.le_refl _) hb⟩) | (go_simp; refine (HO.out w' hw').mono ?_; rintro e w'' ⟨rfl, hb⟩; exact ⟨rfl, below_step hw' (Nat.le_refl _) hb⟩))); (try simp only [Act.put, List.setIfInBounds_toArray, List.set_cons_zero, List.set_cons_succ]); go_big_quiet_on))
            refine wpQuiet_nil ?_
            intro w2 hw2
            have B2 := BR.trans (hw2.mono BR.size)
            clear HK HO HP0
            go_wp2
            go_roundw
            case rel => exact ⟨j + 1 + 1, by omega, by go_num, HF, hbl.trans (hw2.mono hbl.size)⟩
            case measure => simp [intOf]; omega
          · have HX : Hid (¬ FitP (nm, cs, (k0 : Int), xs) (dn, rs)) := fun h => hc ((HU.out h).2 (by omega))
            have hcb : decide (0 ≤ cmpRows ((nthR rs j).take k0) ((nthR rs (j + 1)).take k0)) = true := decide_eq_true (by omega)
            clear HU HV HG HS
            obtain ⟨lvn, hlvn⟩ : ∃ m, (nthR rs (j + 1)).length = m := ⟨_, rfl⟩
            obtain ⟨lun, hlun⟩ : ∃ m, (nthR rs j).length = m := ⟨_, rfl⟩
            rw [hlvn] at HK hci
            rw [hlun] at hcj
            clear hri hrj hmi hmj hkci hkcj lv hkl hklj hlvn hlun hgj hc
            generalize cmpRows ((nthR rs j).take k0) ((nthR rs (j + 1)).take k0) = c at *
            go_wp2_with fail
            refine wp_region_class (C := fun w' => Below wr.heap.size wr w') (by kernel_rfl) (by kernel_rfl) HP0.out ?_
            repeat (first | go_big_quiet_skip | (go_big_quiet_want; apply Exists.intro; refine ⟨?_, ?_⟩; (focus (intro w' hw'; first | (have m0 := (C0.out hw').1; have m1 := (C0.out hw').2.1; have m2 := (C0.out hw').2.2.1; have m3 := (C0.out hw').2.2.2.1; have m4 := (C0.out hw').2.2.2.2.1; have m5 := (C0.out hw').2.2.2.2.2; have m6 := (hw'.cell (p := ⟨rb, ro + j, none⟩) hlb).trans hcj; go_simp; with_reducible rfl) | (go_simp; refine (HK.out w' hw').mono ?_; rintro e w'' ⟨rfl, hb⟩; exact ⟨rfl, below_step hw' (Nat.le_refl _) hb⟩) | (go_simp; refine (HO.out w' hw').mono ?_; rintro e w'' ⟨rfl, hb⟩; exact ⟨rfl, below_step hw' (Nat.le_refl _) hb⟩))); (try simp only [Act.put, List.setIfInBounds_toArray, List.set_cons_zero, List.set_cons_succ]); go_big_quiet_on))
            refine wpQuiet_nil ?_
            intro w2 hw2
            have B2 := BR.trans (hw2.mono BR.size)
            clear HK HO HP0
            go_wp2
            go_ret
            exact ⟨ret_bool' (asB_false HX.out), B2⟩
      · have HX : Hid (¬ FitP (nm, cs, (k0 : Int), xs) (dn, rs)) := fun h => hg (HU.out h).1
        obtain ⟨u, xv, hux⟩ := erV_not (fun h => hg (crowE_nil.1 h))
        rw [hux] at HK
        have HO : Hid True := trivial
        clear HU HV HS hux hg
        obtain ⟨lvn, hlvn⟩ : ∃ m, (nthR rs k).length = m := ⟨_, rfl⟩
        rw [hlvn] at HK hci
        clear hri hmi hkci lv hlvn
        go_wp2_with fail
        refine wp_region_class (C := fun w' => Below wr.heap.size wr w') (by kernel_rfl) (by kernel_rfl) HP0.out ?_
        repeat (first | go_big_quiet_skip | (go_big_quiet_want; apply Exists.intro; refine ⟨?_, ?_⟩; (focus (intro w' hw'; first | (have m0 := (C0.out hw').1; have m1 := (C0.out hw').2.1; have m2 := (C0.out hw').2.2.1; have m3 := (C0.out hw').2.2.2.1; have m4 := (C0.out hw').2.2.2.2.1; have m5 := (C0.out hw').2.2.2.2.2; go_simp; with_reducible rfl) | (go_simp; refine (HK.out w' hw').mono ?_; rintro e w'' ⟨rfl, hb⟩; exact ⟨rfl, below_step hw' (Nat.le_refl _) hb⟩) | (go_simp; refine (HO.out w' hw').mono ?_; rintro e w'' ⟨rfl, hb⟩; exact ⟨rfl, below_step hw' (Nat.le_refl _) hb⟩))); (try simp only [Act.put, List.setIfInBounds_toArray, List.set_cons_zero, List.set_cons_succ]); go_big_quiet_on))
        refine wpQuiet_nil ?_
        intro w2 hw2
        have B2 := BR.trans (hw2.mono BR.size)
        clear HK HO HP0
        go_wp2
        go_ret
        exact ⟨ret_bool' (asB_false HX.out), B2⟩
    · obtain rfl : k = n := by omega
      have HX : Hid (FitP (nm, cs, (k0 : Int), xs) (dn, rs)) := HQ.out.2 HS.out
      go_wp2
      go_ret
      exact ⟨ret_bool' (asB_true HX.out), BR⟩
end Go.Proofs.YtepkdodicglilaaGreat
