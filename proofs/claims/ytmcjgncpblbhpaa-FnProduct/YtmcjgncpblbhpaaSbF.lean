/- The specification's l13Same, walked (stage 13). -/
import Derived.Test.YtmcjgncpblbhpaaSbE
namespace Go.Proofs.Ytmcjgncpblbhpaa
open Go.RowKit

/-- Two cells of two blocks. -/
abbrev StD (W : World) (g i h j : Nat) (u v : Value) (w' : World) : Prop := w'.cell? ⟨g, i, none⟩ = some u ∧ w'.cell? ⟨h, j, none⟩ = some v ∧ Below W.heap.size W w'
theorem StD.keep {W : World} {g i h j : Nat} {u v : Value} {w1 w2 : World} (hs : StD W g i h j u v w1) (hg : g < W.heap.size) (hh : h < W.heap.size) (hb : Below w1.heap.size w1 w2) : StD W g i h j u v w2 :=
  ⟨(hb.cell (p := ⟨g, i, none⟩) (Nat.lt_of_lt_of_le hg hs.2.2.size)).trans hs.1, (hb.cell (p := ⟨h, j, none⟩) (Nat.lt_of_lt_of_le hh hs.2.2.size)).trans hs.2.1, below_step hs.2.2 (Nat.le_refl _) hb⟩
/-- What l13Same answers. -/
def RetL (aa bb : Rs) (w : World) (e : Ending) (w' : World) : Prop := ∃ x : Bool, e = .returned (.bool x) ∧ (x = true ↔ aa.Perm bb) ∧ Below w.heap.size w w'
set_option maxRecDepth 100000 in
set_option maxHeartbeats 16000000 in
theorem l13Same_any (g1 g2 ca cb : Nat) (aa bb : Rs) (w : World) (ha : RowA w (some ⟨g1, 0, none⟩) aa) (hb : RowA w (some ⟨g2, 0, none⟩) bb) (la : aa.length ≤ 400) (lb : bb.length ≤ 400) (ra : ∀ i, i < aa.length → (nthR aa i).length ≤ 4096) (rb : ∀ i, i < bb.length → (nthR bb i).length ≤ 4096) (l2 : g2 < w.heap.size) :
    Calls Try.prog 66 #[.slice (some ⟨g1, 0, none⟩) aa.length ca, .slice (some ⟨g2, 0, none⟩) bb.length cb] w (RetL aa bb w) := by
  obtain ⟨k, hk, hc⟩ := hb.cel
  have HK : Hid (CelR w k bb) := hk
  have HA : Hid (RowA w (some ⟨g1, 0, none⟩) aa) := ha
  have HR : Hid ((∀ i, i < aa.length → (nthR aa i).length ≤ 4096) ∧ ∀ i, i < bb.length → (nthR bb i).length ≤ 4096) := ⟨ra, rb⟩
  have B0 : Below w.heap.size w (w.alloc (.cells #[] 28)) := (Below.refl _ _).alloc (Nat.le_refl _) _
  obtain ⟨v1, w1, r1, O1, hB1⟩ := app_D (c := cb) (b := g2) (o := 0) (ys := List.range bb.length) (OwnD.empty (w := w) (k := k) (Nat.le_refl _)) B0.size (by simp; omega) (fun j hj => by
    rw [List.length_range] at hj
    rw [B0.cell (p := ⟨g2, 0 + j, none⟩) l2, nthN_get (by simpa using hj), List.getElem_range]
    exact hc j hj)
  have B1 := hB1 w B0
  rw [List.length_range] at r1
  have D1 : Hid (OwnD w1 w.heap.size v1 k (List.range bb.length) ∧ SamS aa bb 0 (List.range bb.length)) := ⟨O1, SamS.start aa bb⟩
  obtain ⟨n, hn⟩ : ∃ n, aa.length = n := ⟨_, rfl⟩
  obtain ⟨m, hm⟩ : ∃ m, bb.length = m := ⟨_, rfl⟩
  have HN : Hid (aa.length = n ∧ bb.length = m ∧ n ≤ 400 ∧ m ≤ 400) := ⟨hn, hm, by omega, by omega⟩
  rw [hm] at r1
  rw [hn, hm]
  clear ha hb hk hc ra rb O1 hB1 B0
  have hn4 : n ≤ 400 := by omega
  clear la lb hn hm
  go_enter Try.func66, Try.ntmps66
  go_wp2_with (at_builtin; refine Lib.wpList_append_run _ rfl _ _ _ _ rfl _ _ rfl rfl _ _ r1 ?_)
  go_loopw [5, 6] (fun v i wr => ∃ q : Nat, q ≤ n ∧ i = .int .i64 q ∧ Hid (∃ zs, OwnD wr w.heap.size v k zs ∧ SamS aa bb q zs) ∧ Below w.heap.size w wr) (fun _ i _ => n - (intOf i).toNat)
  case atStart => exact ⟨0, by omega, rfl, ⟨_, D1.out⟩, B1⟩
  case round =>
    clear D1 r1 B1
    obtain ⟨q, hq, rfl, HW, hbl⟩ := hrel
    obtain ⟨zs, hO, hS⟩ := HW.out
    obtain ⟨g, c, rfl, hg, hc, hD⟩ := hO.dat
    have hzm : zs.length ≤ 400 := by have := hS.2.1; have := HN.out; omega
    obtain ⟨l, hl⟩ : ∃ l, zs.length = l := ⟨_, rfl⟩
    by_cases hlt : q < n
    · have hltI : (q : Int) < (n : Int) := by omega
      have hqa : q < aa.length := by rw [HN.out.1]; exact hlt
      have HZ : Hid (Dat wr g c k zs ∧ SamS aa bb q zs ∧ zs.length = l ∧ w.heap.size ≤ g) := ⟨hD, hS, hl, hg⟩
      rw [hl] at hc hzm ⊢
      clear HW hO hD hS hl hg
      go_wp2
      go_loopw [7, 8] (fun fv i wq => ∃ (p : Nat) (f : Int), p ≤ l ∧ fv = .int .i64 f ∧ i = .int .i64 p ∧ Hid (Below w.heap.size w wq ∧ Dat wq g c k zs ∧ ((f = -1 ∧ ∀ j, j < p → nthR aa q ≠ nthR bb (nthN zs j)) ∨ ∃ f0 : Nat, f = f0 ∧ p = f0 + 1 ∧ nthR aa q = nthR bb (nthN zs f0)))) (fun _ i _ => l - (intOf i).toNat)
      case atStart => exact ⟨0, -1, by omega, rfl, rfl, hbl, HZ.out.1, .inl ⟨rfl, fun j hj => by omega⟩⟩
      case round =>
        clear hbl
        obtain ⟨p, f, hp, rfl, rfl, HQ⟩ := hrel
        by_cases hnf : f = -1 ∧ p < l
        · obtain ⟨rfl, hpl⟩ := hnf
          have hplI : (p : Int) < (l : Int) := by omega
          have hpz : p < zs.length := by rw [HZ.out.2.2.1]; exact hpl
          have hzb : nthN zs p < bb.length := HZ.out.2.1.1 _ (by rw [nthN_get hpz]; exact List.getElem_mem _)
          have hno : Hid (∀ j, j < p → nthR aa q ≠ nthR bb (nthN zs j)) := by
            rcases HQ.out.2.2 with ⟨_, h⟩ | ⟨f0, h, _⟩
            · exact h
            · omega
          obtain ⟨b1, o1, p1, q1, d1, e1, lb1, x0, r1, _⟩ := (HA.out.below HQ.out.1) q hqa
          cases e1
          obtain ⟨e2, p2, q2, f2, r2⟩ := (HK.out.below HQ.out.1) _ hzb
          have y0 := HQ.out.2.1.cell hpz
          rw [Nat.zero_add] at x0
          have hC : Hid (StD wr g1 q g p (.slice (some ⟨p1, q1, none⟩) (nthR aa q).length d1) (k.v (nthN zs p)) wr.drew) := ⟨x0, y0, (Below.refl _ _).drew⟩
          have hG : Hid (g1 < wr.heap.size ∧ g < wr.heap.size) := ⟨lb1, HQ.out.2.1.lt⟩
          have HC : Hid (∀ W, StD wr g1 q g p (.slice (some ⟨p1, q1, none⟩) (nthR aa q).length d1) (k.v (nthN zs p)) W → Calls Try.prog 86 #[.slice (some ⟨p1, q1, none⟩) (nthR aa q).length d1, k.v (nthN zs p)] W fun e w' => e = .returned (.int .i64 (cmpRows (nthR aa q) (nthR bb (nthN zs p)))) ∧ Below W.heap.size W w') := fun W hW => by
            have := l01Rows_any (some ⟨p1, q1, none⟩) (some ⟨p2, q2, none⟩) d1 (k.c (nthN zs p)) (nthR aa q) (nthR bb (nthN zs p)) W (r1.below hW.2.2) (r2.below hW.2.2) (HR.out.1 _ hqa) (HR.out.2 _ hzb)
            rw [← f2, ← e2] at this
            exact this
          have HNx : Hid (∀ W, StD wr g1 q g p (.slice (some ⟨p1, q1, none⟩) (nthR aa q).length d1) (k.v (nthN zs p)) W → Below w.heap.size w W ∧ Dat W g c k zs) := fun W hW => ⟨below_step HQ.out.1 (Nat.le_refl _) hW.2.2, HQ.out.2.1.below hW.2.2⟩
          have HZr : Hid (cmpRows (nthR aa q) (nthR bb (nthN zs p)) = 0 ↔ nthR aa q = nthR bb (nthN zs p)) := cmpRows_zero _ _
          clear HQ r1 r2 x0 y0 f2 e2
          generalize (nthR aa q).length = n1 at *
          generalize hvz : nthN zs p = z at *
          have HVZ : Hid (nthN zs p = z) := hvz
          clear hvz
          generalize cmpRows (nthR aa q) (nthR bb z) = cc at *
          by_cases hcc : cc = 0
          · have hccB : (cc == 0) = true := by simp [hcc]
            have HX : Hid (nthR aa q = nthR bb (nthN zs p)) := by show _ = _; rw [HVZ.out]; exact HZr.out.1 hcc
            clear hcc HZr hno
            go_wp2_with fail
            refine wp_region_class (C := StD wr g1 q g p (.slice (some ⟨p1, q1, none⟩) n1 d1) (k.v z)) (by kernel_rfl) (by kernel_rfl) hC.out ?_
            repeat (first | go_big_quiet_skip | (go_big_quiet_want; apply Exists.intro; refine ⟨?_, ?_⟩; (focus (intro w' hw'; first | (obtain ⟨m0, m1, m2⟩ := hw'; go_simp; with_reducible rfl) | (go_simp; refine (HC.out w' hw').mono ?_; rintro e w'' ⟨rfl, hb⟩; exact ⟨rfl, hw'.keep hG.out.1 hG.out.2 hb⟩))); (try simp only [Act.put, List.setIfInBounds_toArray, List.set_cons_zero, List.set_cons_succ]); go_big_quiet_on))
            refine wpQuiet_nil ?_
            intro w2 hw2
            have HN2 : Hid (Below w.heap.size w w2 ∧ Dat w2 g c k zs) := HNx.out w2 hw2
            clear hw2 hC HC HNx hccB
            go_wp2
            go_roundw
            case rel => exact ⟨p + 1, p, by omega, rfl, by go_num, HN2.out.1, HN2.out.2, .inr ⟨p, rfl, rfl, HX.out⟩⟩
            case measure => simp [intOf]; omega
          · have hccB : (cc == 0) = false := by simp [hcc]
            have HX : Hid (∀ j, j < p + 1 → nthR aa q ≠ nthR bb (nthN zs j)) := allV_step' hno.out (by rw [HVZ.out]; exact fun h => hcc (HZr.out.2 h))
            clear hcc HZr hno
            go_wp2_with fail
            refine wp_region_class (C := StD wr g1 q g p (.slice (some ⟨p1, q1, none⟩) n1 d1) (k.v z)) (by kernel_rfl) (by kernel_rfl) hC.out ?_
            repeat (first | go_big_quiet_skip | (go_big_quiet_want; apply Exists.intro; refine ⟨?_, ?_⟩; (focus (intro w' hw'; first | (obtain ⟨m0, m1, m2⟩ := hw'; go_simp; with_reducible rfl) | (go_simp; refine (HC.out w' hw').mono ?_; rintro e w'' ⟨rfl, hb⟩; exact ⟨rfl, hw'.keep hG.out.1 hG.out.2 hb⟩))); (try simp only [Act.put, List.setIfInBounds_toArray, List.set_cons_zero, List.set_cons_succ]); go_big_quiet_on))
            refine wpQuiet_nil ?_
            intro w2 hw2
            have HN2 : Hid (Below w.heap.size w w2 ∧ Dat w2 g c k zs) := HNx.out w2 hw2
            clear hw2 hC HC HNx hccB
            go_wp2
            go_roundw
            case rel => exact ⟨p + 1, -1, by omega, rfl, by go_num, HN2.out.1, HN2.out.2, .inl ⟨rfl, HX.out⟩⟩
            case measure => simp [intOf]; omega
        · obtain ⟨hB, hD, hF⟩ := HQ.out
          rcases hF with ⟨rfl, hno⟩ | ⟨f0, rfl, rfl, hx⟩
          · obtain rfl : p = l := by omega
            have HF : Hid (¬ aa.Perm bb) := HZ.out.2.1.miss hqa (fun j hj => hno j (by have := HZ.out.2.2.1; omega))
            have hplI : ¬ (p : Int) < (p : Int) := by omega
            clear HQ hD hno hnf
            go_wp2
            go_ret
            exact ⟨false, rfl, ⟨fun h => (by cases h), fun h => absurd h HF.out⟩, hB⟩
          · have hfz : f0 < zs.length := by have := HZ.out.2.2.1; omega
            obtain ⟨f1, hf1⟩ : ∃ f1, f0 + 1 = f1 := ⟨_, rfl⟩
            have hf1I : (f0 : Int) + 1 = (f1 : Int) := by omega
            have hf0 : ¬ (f0 : Int) < 0 := by omega
            have eZ : zs = zs.take f0 ++ (nthN zs f0 :: zs.drop f1) := by rw [nthN_get hfz, ← hf1, List.getElem_cons_drop, List.take_append_drop]
            have lL : (zs.take f0).length = f0 := by rw [List.length_take]; omega
            have lR : (zs.drop f1).length = l - f1 := by rw [List.length_drop]; have := HZ.out.2.2.1; omega
            have B0 : Below wr.drew.heap.size wr.drew (wr.drew.alloc (.cells #[] 28)) := (Below.refl _ _).alloc (Nat.le_refl _) _
            have hDd := hD
            obtain ⟨v3, w3, r3, O3, hB3⟩ := app_D (B := wr.drew.heap.size) (c := c) (b := g) (o := 0) (ys := zs.take f0) (OwnD.empty (w := wr.drew) (k := k) (Nat.le_refl _)) B0.size (by simp; omega) (fun j hj => by
              rw [lL] at hj
              rw [B0.cell (p := ⟨g, 0 + j, none⟩) hD.lt, Nat.zero_add]
              have h1 := hD.cell (i := j) (by omega)
              have e : nthN (zs.take f0) j = nthN zs j := by rw [nthN_get (by rw [lL]; exact hj), List.getElem_take, nthN_get (by omega)]
              rw [e]; exact h1)
            have B3 := hB3 wr.drew B0
            obtain ⟨v4, w4, r4, O4, hB4⟩ := app_D (c := c - f1) (b := g) (o := if c = f1 then 0 else f1) (ys := zs.drop f1) O3 B3.size (by rw [List.length_append, lL, lR]; simp; omega) (fun j hj => by
              rw [lR] at hj
              rw [if_neg (show ¬ c = f1 by omega), B3.cell (p := ⟨g, f1 + j, none⟩) hD.lt]
              have h1 := hD.cell (i := f1 + j) (by have := HZ.out.2.2.1; omega)
              have e : nthN (zs.drop f1) j = nthN zs (f1 + j) := by rw [nthN_get (by rw [lR]; exact hj), List.getElem_drop, nthN_get (by have := HZ.out.2.2.1; omega)]
              rw [e]; exact h1)
            have B4 := hB4 wr.drew B3
            have HN4 : Hid ((∃ zs, OwnD w4 w.heap.size v4 k zs ∧ SamS aa bb (q + 1) zs) ∧ Below w.heap.size w w4) := by
              refine ⟨⟨zs.take f0 ++ zs.drop f1, ?_, ?_⟩, (hB.drew).trans (B4.mono hB.size)⟩
              · have h9 : OwnD w4 wr.drew.heap.size v4 k (zs.take f0 ++ zs.drop f1) := by simpa using O4
                obtain ⟨⟨u1, u2⟩, hne⟩ := h9
                refine ⟨⟨u1, ?_⟩, hne⟩
                rcases u2 with h | ⟨g', cap, cur, e, hg, r⟩
                · exact .inl h
                · exact .inr ⟨g', cap, cur, e, Nat.le_trans hB.size hg, r⟩
              · have h9 := HZ.out.2.1
                rw [eZ] at h9
                exact h9.hit hqa hx
            rw [lL] at r3
            rw [lR] at r4
            have r3' : Sem.run Try.prog (Builtin.append_ #[23, 23] 23 #[.slice (some ⟨wr.heap.size, 0, none⟩) 0 0, .slice (some ⟨g, 0, none⟩) f0 c]) (wr.alloc (.cells #[] 28)).drew = .ok v3 w3 := r3
            have r4' : Sem.run Try.prog (Builtin.append_ #[23, 23] 23 #[v3, .slice (if c = f1 then some ⟨g, 0, none⟩ else some ⟨g, f1, none⟩) (l - f1) (c - f1)]) w3 = .ok v4 w4 := by
              have e9 : (if c = f1 then some (⟨g, 0, none⟩ : Addr) else some ⟨g, f1, none⟩) = some ⟨g, if c = f1 then 0 else f1, none⟩ := by split <;> rfl
              rw [e9]; exact r4
            have hf0l : f0 ≤ l := by omega
            have hf1l : f1 ≤ l := by omega
            have hlc : l ≤ c := hc
            have hf0c : f0 ≤ c := by omega
            have hf1c : f1 ≤ c := by omega
            have hwf : IntKind.i64.wrap (f1 : Int) = (f1 : Int) := wrap_nat (by omega)
            clear HQ hD hDd O3 O4 hB3 hB4 B3 B4 B0 eZ lL lR r3 r4 hx hfz hnf hf1 hB
            by_cases hpl : f1 < l
            · have hplI : (f1 : Int) < (l : Int) := by omega
              go_wp2_with fail
              go_region_law (first | (refine step_append_run (by rfl) _ _ _ _ (by rfl) _ _ (by rfl) (by rfl) _ _ r3' ?_) | (refine step_append_run (by rfl) _ _ _ _ (by rfl) _ _ (by rfl) (by rfl) _ _ r4' ?_))
              all_goals
                clear r3' r4' hwf
                go_wp2
                go_roundw
                case rel => exact ⟨q + 1, by omega, by go_num, HN4.out.1, HN4.out.2⟩
                case measure => simp [intOf]; omega
            · have hplI : ¬ (f1 : Int) < (l : Int) := by omega
              go_wp2_with fail
              go_region_law (first | (refine step_append_run (by rfl) _ _ _ _ (by rfl) _ _ (by rfl) (by rfl) _ _ r3' ?_) | (refine step_append_run (by rfl) _ _ _ _ (by rfl) _ _ (by rfl) (by rfl) _ _ r4' ?_))
              all_goals
                clear r3' r4' hwf
                go_wp2
                go_roundw
                case rel => exact ⟨q + 1, by omega, by go_num, HN4.out.1, HN4.out.2⟩
                case measure => simp [intOf]; omega
    · obtain rfl : q = n := by omega
      have HE : Hid (decide (l = 0) = true ↔ aa.Perm bb) := by
        have h9 := hS
        rw [← HN.out.1] at h9
        have h10 := h9.done
        rw [hl] at h10
        exact h10
      rw [hl]
      have h0 : ((l : Int) == 0) = decide (l = 0) := by rw [Bool.eq_iff_iff]; simp
      clear HW hO hD hS hl hg hc hzm
      generalize decide (l = 0) = x at *
      go_wp2
      go_ret
      exact ⟨x, rfl, HE.out, hbl⟩
end Go.Proofs.Ytmcjgncpblbhpaa
