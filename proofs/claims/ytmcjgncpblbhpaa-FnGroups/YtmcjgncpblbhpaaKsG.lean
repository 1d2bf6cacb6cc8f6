/- The specification's order by keys, and its rows copied (stage 13). -/
import Derived.Test.YtmcjgncpblbhpaaKsF
namespace Go.Proofs.Ytmcjgncpblbhpaa
open Go.RowKit

/-- Two values in memory. -/
abbrev StW (W : World) (b1 o1 : Nat) (v1 : V3) (b2 o2 : Nat) (v2 : V3) (w' : World) : Prop := CellV w' b1 o1 v1 ∧ CellV w' b2 o2 v2 ∧ Below W.heap.size W w'
theorem StW.keep {W : World} {b1 o1 : Nat} {v1 : V3} {b2 o2 : Nat} {v2 : V3} {w1 w2 : World} (h : StW W b1 o1 v1 b2 o2 v2 w1) (l1 : b1 < W.heap.size) (l2 : b2 < W.heap.size) (hb : Below w1.heap.size w1 w2) : StW W b1 o1 v1 b2 o2 v2 w2 :=
  ⟨CellV.below h.1 (Nat.lt_of_lt_of_le l1 h.2.2.size) hb, CellV.below h.2.1 (Nat.lt_of_lt_of_le l2 h.2.2.size) hb, below_step h.2.2 (Nat.le_refl _) hb⟩
set_option maxRecDepth 100000 in
set_option maxHeartbeats 8000000 in
theorem l13Less_any (a1 a2 ad : Option Addr) (c1 c2 cd : Nat) (ds : List Bool) (xs ys : List V3) (w : World) (h1 : RowV w a1 xs) (h2 : RowV w a2 ys) (hx : xs.length = ds.length) (hy : ys.length = ds.length) (hl : ds.length ≤ 4096) (hd : BoA w ad ds) :
    Calls Try.prog 80 #[.slice a1 xs.length c1, .slice a2 ys.length c2, .slice ad ds.length cd] w fun e w' => e = .returned (.bool (decide (cmpK ds xs ys < 0))) ∧ Below w.heap.size w w' := by
  have HR : Hid (RowV w a1 xs ∧ RowV w a2 ys ∧ BoA w ad ds) := ⟨h1, h2, hd⟩
  have HZ : Hid (restK ds xs ys 0 = cmpK ds xs ys) := restK_zero ds xs ys
  rw [hx, hy]
  obtain ⟨n, hn⟩ : ∃ n, ds.length = n := ⟨_, rfl⟩
  have HN : Hid (ds.length = n ∧ xs.length = n ∧ ys.length = n) := ⟨hn, by omega, by omega⟩
  rw [hn] at hl ⊢
  clear h1 h2 hd hn hx hy
  go_enter Try.func80, Try.ntmps80
  go_wp2
  go_loopw [7] (fun i wr => ∃ k : Nat, k ≤ n ∧ i = .int .i64 k ∧ Hid (restK ds xs ys k = cmpK ds xs ys) ∧ Below w.heap.size w wr) (fun i _ => n - (intOf i).toNat)
  case atStart => exact ⟨0, by omega, rfl, HZ.out, Below.refl _ _⟩
  case round =>
    obtain ⟨k, hk, rfl, HA, hbl⟩ := hrel
    by_cases hlt : k < n
    · have hltI : (k : Int) < (n : Int) := by omega
      obtain ⟨b1, o1, rfl, lb1, v1, _⟩ := (HR.out.1.below hbl) k (by rw [HN.out.2.1]; exact hlt)
      obtain ⟨b2, o2, rfl, lb2, v2, _⟩ := (HR.out.2.1.below hbl) k (by rw [HN.out.2.2]; exact hlt)
      obtain ⟨bd, od, rfl, lbd, cbd⟩ := HR.out.2.2 k (by rw [HN.out.1]; exact hlt)
      have HLL : Hid (b1 < wr.heap.size ∧ b2 < wr.heap.size) := ⟨lb1, lb2⟩
      have hS : Hid (StW wr b1 (o1 + k * 3) (nthV xs k) b2 (o2 + k * 3) (nthV ys k) wr.drew) := ⟨v1, v2, (Below.refl _ _).drew⟩
      have HST : Hid (restK ds xs ys k = lexI (sgnK (nthB ds k) (cmp3 (nthV xs k) (nthV ys k))) (restK ds xs ys (k + 1))) := restK_step (by rw [HN.out.1]; exact hlt)
      have C1 : ∀ W, Calls Try.prog 53 #[VV (nthV xs k).1 (nthV xs k).2.1 (nthV xs k).2.2, VV (nthV ys k).1 (nthV ys k).2.1 (nthV ys k).2.2] W fun e w' => e = .returned (.int .i64 (cmp3 (nthV xs k) (nthV ys k))) ∧ Below W.heap.size W w' := fun W => l01Compare_any _ _ _ _ _ _ W
      clear v1 v2 lb1 lb2
      generalize nthV xs k = x at *
      generalize nthV ys k = y at *
      generalize cmp3 x y = cc at *
      go_wp2_with fail
      refine wp_region_class (C := StW wr b1 (o1 + k * 3) x b2 (o2 + k * 3) y) (by kernel_rfl) (by kernel_rfl) hS.out ?_
      repeat (first | go_big_quiet_skip | (go_big_quiet_want; apply Exists.intro; refine ⟨?_, ?_⟩; (focus (intro w' hw'; first | (obtain ⟨⟨m0, m1, m2⟩, ⟨p0, p1, p2⟩, q2⟩ := hw'; go_simp; with_reducible rfl) | (go_simp; refine (C1 w').mono ?_; rintro e w'' ⟨rfl, hb⟩; exact ⟨rfl, hw'.keep HLL.out.1 HLL.out.2 hb⟩))); (try simp only [Act.put, List.setIfInBounds_toArray, List.set_cons_zero, List.set_cons_succ]); go_big_quiet_on))
      refine wpQuiet_nil ?_
      intro w2 hw2
      have hb2 := below_step hbl (Nat.le_refl _) hw2.2.2
      have cb2 : w2.cell? ⟨bd, od + k, none⟩ = some (.bool (nthB ds k)) := (hb2.cell (p := ⟨bd, od + k, none⟩) lbd).trans cbd
      clear hS C1 hw2 HLL hbl cbd
      by_cases h0 : cc = 0
      · subst h0
        have HA2 : Hid (restK ds xs ys (k + 1) = cmpK ds xs ys) := by
          show _ = _
          rw [← HA.out, HST.out, (sgn_zero _ _).2 rfl]
          simp [lexI]
        clear HA HST
        go_wp2
        go_roundw
        case rel => exact ⟨k + 1, by omega, by go_num, HA2, hb2⟩
        case measure => simp [intOf]; omega
      · have hne : (cc == 0) = false := by simp [h0]
        have HA2 : Hid (cmpK ds xs ys = sgnK (nthB ds k) cc) := by
          show _ = _
          rw [← HA.out, HST.out]
          unfold lexI
          rw [if_pos (fun h => h0 ((sgn_zero _ _).1 h))]
        clear HA HST
        cases hd : nthB ds k with
        | true =>
          rw [hd] at cb2 HA2
          have HA3 : Hid (cmpK ds xs ys = -cc) := HA2.out
          clear HA2 hd
          go_wp2
          go_ret
          refine ⟨ret_bool' ?_, hb2⟩
          rw [HA3.out, Bool.eq_iff_iff]
          simp
          omega
        | false =>
          rw [hd] at cb2 HA2
          have HA3 : Hid (cmpK ds xs ys = cc) := HA2.out
          clear HA2 hd
          go_wp2
          go_ret
          refine ⟨ret_bool' ?_, hb2⟩
          rw [HA3.out, Bool.eq_iff_iff]
    · have HA2 : Hid (cmpK ds xs ys = 0) := by
        show _ = _
        rw [← HA.out]
        exact restK_end (by have := HN.out.1; omega)
      clear HA
      go_wp2
      go_ret
      refine ⟨ret_bool' ?_, hbl⟩
      rw [HA2.out]
      rfl
set_option maxRecDepth 100000 in
set_option maxHeartbeats 8000000 in
theorem l13Own_any (a : Option Addr) (cap : Nat) (rs : Rs) (w : World) (h : RowA w a rs) (hN : rs.length ≤ 400) (hl : ∀ i, i < rs.length → (nthR rs i).length ≤ 4096) :
    Calls Try.prog 50 #[.slice a rs.length cap] w fun e w' => ∃ v, e = .returned v ∧ BldR w' w.heap.size w'.heap.size v rs ∧ Below w.heap.size w w' := by
  have HR : Hid (RowA w a rs ∧ ∀ i, i < rs.length → (nthR rs i).length ≤ 4096) := ⟨h, hl⟩
  obtain ⟨n, hn⟩ : ∃ n, rs.length = n := ⟨_, rfl⟩
  have HN : Hid (rs.length = n) := hn
  rw [hn] at hN ⊢
  clear h hl hn
  have B0 : Below w.heap.size w (w.alloc (.cells #[] 28)) := (Below.refl _ _).alloc (Nat.le_refl _) _
  have O0 : Hid (BldR (w.alloc (.cells #[] 28)) w.heap.size (w.alloc (.cells #[] 28)).heap.size (.slice (some ⟨w.heap.size, 0, none⟩) 0 0) (rs.take 0)) := BldR.made (Nat.le_refl _)
  go_enter Try.func50, Try.ntmps50
  go_wp2
  go_loopw [3, 4] (fun v i wr => ∃ q : Nat, q ≤ n ∧ i = .int .i64 q ∧ Hid (BldR wr w.heap.size wr.heap.size v (rs.take q)) ∧ Below w.heap.size w wr) (fun _ i _ => n - (intOf i).toNat)
  case atStart => exact ⟨0, by omega, rfl, O0.out, B0⟩
  case round =>
    clear O0 B0
    obtain ⟨q, hq, rfl, HO, hbl⟩ := hrel
    by_cases hqn : q < n
    · have hqI : (q : Int) < (n : Int) := by omega
      have hql : q < rs.length := by rw [HN.out]; exact hqn
      obtain ⟨b, off, bi, oi, ci, rfl, lb, c1, r1, _⟩ := (HR.out.1.below hbl) q hql
      have A0 : Below wr.heap.size wr (wr.alloc (.cells #[] 39)) := (Below.refl _ _).alloc (Nat.le_refl _) _
      have V0 : OwnV (wr.alloc (.cells #[] 39)) wr.heap.size (.slice (some ⟨wr.heap.size, 0, none⟩) 0 0) [] := OwnV.empty (Nat.le_refl _)
      obtain ⟨x1, w1, run1, V1, g1⟩ := app_V _ [] (nthR rs q) _ wr.heap.size bi oi ci V0 (by have := HR.out.2 q hql; simp; omega) (r1.below A0) A0.size
      have A1 := own_grown A0 A0.size V0 g1
      rw [List.nil_append] at V1
      obtain ⟨ua, un, uc, rfl⟩ := OwnV.shape V1
      have b2 : Below w1.heap.size w1 (w1.alloc (.cells #[.slice ua un uc] 28)) := (Below.refl _ _).alloc (Nat.le_refl _) _
      have hB1 : Below w.heap.size w (w1.alloc (.cells #[.slice ua un uc] 28)) := below_step (hbl.trans (A1.mono hbl.size)) (Nat.le_refl _) b2
      have hO2 := (HO.out.below A1).below b2
      obtain ⟨x2, w2, run2, T2, g2⟩ := app_R (c := 1) hO2 hB1.size (by rw [List.length_take]; omega) (World.cell?_alloc_at _ _ _ _ rfl) (OwnV.below V1 b2) (Nat.le_refl _) hbl.size
      have B2 := BldR.grown hB1 hB1.size hO2 g2
      have c1' : wr.drew.cell? ⟨b, off + q, none⟩ = some (.slice (some ⟨bi, oi, none⟩) (nthR rs q).length ci) := c1
      have HO2 : Hid (BldR w2 w.heap.size w2.heap.size x2 (rs.take (q + 1)) ∧ Below w.heap.size w w2) := ⟨by rw [taken hql]; exact T2, B2⟩
      clear HO r1 A0 V0 V1 A1 g1 g2 b2 hB1 hO2 T2 B2 hbl
      generalize (nthR rs q).length = m at *
      have run1' : Sem.run Try.prog (Builtin.append_ #[28, 28] 28 #[.slice (some ⟨wr.heap.size, 0, none⟩) 0 0, .slice (some ⟨bi, oi, none⟩) m ci]) (wr.alloc (.cells #[] 39)) = .ok (.slice ua un uc) w1 := run1
      clear run1 c1'
      go_wp2_with (first
        | (at_builtin; refine Lib.wpList_append_run _ rfl _ _ _ _ rfl _ _ rfl rfl _ _ run1' ?_)
        | (at_builtin; refine Lib.wpList_append_run _ rfl _ _ _ _ rfl _ _ rfl rfl _ _ run2 ?_))
      go_roundw
      case rel => exact ⟨q + 1, by omega, by go_num, HO2.out.1, HO2.out.2⟩
      case measure => simp [intOf]; omega
    · obtain rfl : q = n := by omega
      have HE : Hid (BldR wr w.heap.size wr.heap.size u3 rs) := by
        have := HO.out
        rw [List.take_of_length_le (by rw [HN.out]; omega)] at this
        exact this
      clear HO
      go_wp2
      go_ret
      exact ⟨_, rfl, HE.out, hbl⟩
end Go.Proofs.Ytmcjgncpblbhpaa
