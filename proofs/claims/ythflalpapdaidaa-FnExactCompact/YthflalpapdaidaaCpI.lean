/- impl's compactNodes, walked (stage 5). -/
import Derived.Test.YthflalpapdaidaaCpH
namespace Go.Proofs.Ythflalpapdaidaa
open Go.RowKit

set_option maxRecDepth 100000 in
set_option maxHeartbeats 8000000 in
theorem compactNodes_any (a ra : Option Addr) (cap rc : Nat) (ns : List Nd) (rs : List Int) (w : World) (hrow : RowN w a ns) (hr : RowI w ra rs) (hk : KidsLt ns) (hg : RgP ns rs) (hlen : ns.length ≤ 1048576) (hsm : ∀ i, i < ns.length → SmallN (nthN ns i)) (hrl : rs.length ≤ 1048576) :
    Calls Try.prog 69 #[.slice a ns.length cap, .slice ra rs.length rc] w fun e w' => ∃ g h m, e = .returned (.tuple #[.slice (some ⟨g, 0, none⟩) m m, .slice (some ⟨h, 0, none⟩) rs.length rs.length]) ∧ m = (cmpL ns (fR ns rs) ns.length).length ∧ RowN w' (some ⟨g, 0, none⟩) (cmpL ns (fR ns rs) ns.length) ∧ OwnL 3 w' w.heap.size w'.heap.size (.slice (some ⟨h, 0, none⟩) rs.length rs.length) (vI (rs.map (mv (fR ns rs)))) ∧ Below w.heap.size w w' := by
  have hcl := reachedNodes_any a ra cap rc ns rs w hrow hr hk hg hlen hsm hrl
  have HR : Hid (RowN w a ns ∧ RowI w ra rs) := ⟨hrow, hr⟩
  have HM : Hid (∀ i, i < ns.length → SmallN (nthN ns i)) := hsm
  have HK : Hid (∀ m k, m < ns.length → fR ns rs m = true → rk (fR ns rs) m = k → (nthN ns m).2.2.2.map (pm (pk (fR ns rs) (k + 1))) = (nthN ns m).2.2.2.map (mv (fR ns rs))) := fun m k h1 h2 h3 => kids_pm hk h1 h2 h3
  have HKL : Hid (KidsLt ns) := hk
  have HRT : Hid (rs.map (pm (pk (fR ns rs) (rk (fR ns rs) ns.length))) = rs.map (mv (fR ns rs))) := roots_pm hg
  have HGR : Hid (∀ j, j < rs.length → nthI rs j < (ns.length : Int)) := fun j hj => (hg j hj).2
  have HUP : Hid (∀ i, i < (rchL ns rs).length → ∃ j, j < ns.length ∧ fR ns rs j = true ∧ nthI (rchL ns rs) i = (j : Int) ∧ rk (fR ns rs) j = i) := fun i hi => upL_at hi
  have HRL : Hid ((rchL ns rs).length = rk (fR ns rs) ns.length ∧ (rchL ns rs).length ≤ ns.length) := ⟨rfl, upL_len _ _⟩
  clear hrow hr hk hg hsm
  have HCL : Hid ((cmpL ns (fR ns rs) ns.length).length = rk (fR ns rs) ns.length) := cmpL_len _ _ _
  obtain ⟨n, hn⟩ : ∃ n, ns.length = n := ⟨_, rfl⟩
  have HN : Hid (ns.length = n) := hn
  rw [hn] at hlen hcl
  have HXX : Hid (ns.length = n) := hn
  rw [hn]
  clear hn
  obtain ⟨m, hm⟩ : ∃ m, (rchL ns rs).length = m := ⟨_, rfl⟩
  have HMM : Hid ((rchL ns rs).length = m) := hm
  have hmn : m ≤ n := by have := HRL.out.2; rw [HN.out] at this; omega
  clear hm
  obtain ⟨i3, hi3, hz0, hz1, hz2⟩ := info_parts info3
  obtain ⟨i9, hi9, hy0, hy1, hy2⟩ := info_parts info93
  go_enter Try.func69, Try.ntmps69
  go_wp2_with fail
  refine hcl.mono ?_
  rintro e w1 ⟨v, rfl, hO, b1⟩
  obtain ⟨al, cl, hv, hrw, _⟩ := hO.row
  rw [HMM.out] at hv
  subst hv
  have HL1 : Hid (RowI w1 al (rchL ns rs)) := hrw
  clear hcl hO hrw
  go_wp2_with (at_make; refine wpList_make_full _ rfl _ _ 47 rfl w1.heap.size 3 i3 _ 1 Try.underlying47 hi3 hz0 hz1 .i64 .i64 _ _ n rfl rfl rfl rfl ?m1 ?m2 (Nat.le_refl _) ?_)
  case m1 => rw [hz2]; omega
  case m2 => unfold maxLen; omega
  intro w2 hown2 hgr2
  have hB2 : Below w1.heap.size w1 w2 := (Below.refl _ _).grown hgr2 (Nat.le_refl _) (fun k hk => by cases hk)
  have hP2 : PlB w2 w1.heap.size n (pk (fR ns rs) 0) := by
    rw [toList_madeCells_one] at hown2
    rcases hown2.2 with ⟨h, _⟩ | ⟨g', c, cur, h, _, hh, _, _, hcs, hcl⟩
    · cases h
    · cases h
      rw [Nat.mul_one] at hcs hcl
      refine ⟨cur, hh, hcs, fun j hj => ?_⟩
      have := congrArg (fun q => q[j]?) hcl
      rw [List.getElem?_take_of_lt hj, Array.getElem?_toList] at this
      rw [this, List.getElem?_replicate, if_pos hj]
      have e : pk (fR ns rs) 0 j = 0 := by unfold pk; rw [if_neg (by omega)]
      rw [e]
      rfl
  have s2 : w1.heap.size < w2.heap.size := hP2.lt
  clear hown2 hgr2
  go_wp2_with (at_make; refine wpList_make_full _ rfl _ _ 23 rfl w2.heap.size 93 i9 _ 4 Try.underlying23 hi9 hy0 hy1 .i64 .i64 _ _ m rfl rfl rfl rfl ?m1 ?m2 (Nat.le_refl _) ?_)
  case m1 => rw [hy2]; omega
  case m2 => unfold maxLen; omega
  intro w3 hown3 hgr3
  have hB3 : Below w2.heap.size w2 w3 := (Below.refl _ _).grown hgr3 (Nat.le_refl _) (fun k hk => by cases hk)
  have hM3 : MadeN w w2.heap.size m ns (fR ns rs) 0 w3 := by
    rcases hown3.2 with ⟨h, _⟩ | ⟨g', c, cur, h, _, hh, _, _, hcs, _⟩
    · cases h
    · cases h
      exact ⟨cur, hh, hcs, fun q hq => by omega⟩
  have HB3 : Hid (Below w1.heap.size w1 w3 ∧ Below w.heap.size w w1 ∧ w1.heap.size < w2.heap.size ∧ w2.heap.size < w3.heap.size) := ⟨hB2.trans (hB3.mono hB2.size), b1, s2, hM3.lt⟩
  have HI0 : Hid (PlB w3 w1.heap.size n (pk (fR ns rs) 0) ∧ MadeN w w2.heap.size m ns (fR ns rs) 0 w3 ∧ Below w1.heap.size w1 w3) := ⟨hP2.below hB3, hM3, hB2.trans (hB3.mono hB2.size)⟩
  clear hown3 hgr3 hi3 hz0 hz1 hz2 hi9 hy0 hy1 hy2 hB2 hB3 hP2 hM3 b1 s2
  go_wp2
  go_loopw [22] (fun i wr => ∃ k : Nat, k ≤ m ∧ i = .int .i64 k ∧ Hid (PlB wr w1.heap.size n (pk (fR ns rs) k) ∧ MadeN w w2.heap.size m ns (fR ns rs) k wr ∧ Below w1.heap.size w1 wr)) (fun i _ => m - (intOf i).toNat)
  case atStart => exact ⟨0, by omega, rfl, HI0⟩
  case round =>
    clear HI0
    obtain ⟨k, hkm, rfl, HS⟩ := hrel
    by_cases hlt : k < m
    · have hltI : (k : Int) < (m : Int) := by omega
      obtain ⟨j0, hj0, hf0, hat, hrk⟩ := HUP.out k (by rw [HMM.out]; exact hlt)
      obtain ⟨bl, ol, rfl, hbl, hcl⟩ := (HL1.out.below HS.out.2.2) k (by rw [HMM.out]; exact hlt)
      rw [hat] at hcl
      have hBw : Below w.heap.size w wr := HB3.out.2.1.trans (HS.out.2.2.mono HB3.out.2.1.size)
      obtain ⟨b, off, rfl, hlb, ka, kc, va, vc, ia, ic, c0, c1, c2, c3, hnr⟩ := HR.out.1 j0 hj0
      have hj0n : j0 < n := by rw [← HN.out]; exact hj0
      have hj0I : (j0 : Int) < (n : Int) := by omega
      have hgm : w1.heap.size < w2.heap.size := HB3.out.2.2.1
      have hww : w.heap.size ≤ w1.heap.size := HB3.out.2.1.size
      obtain ⟨nd, hnd⟩ : ∃ nd, nthN ns j0 = nd := ⟨_, rfl⟩
      have hsmk := HM.out j0 hj0
      have HKM := HK.out j0 k hj0 hf0 hrk
      have HJ : Hid (j0 < ns.length ∧ fR ns rs j0 = true ∧ rk (fR ns rs) j0 = k ∧ nthN ns j0 = nd) := ⟨hj0, hf0, hrk, hnd⟩
      have hkl0 := HKL.out j0 hj0
      rw [hnd] at c0 c1 c2 c3 hnr hsmk HKM hkl0
      obtain ⟨lf, keys, vals, kids⟩ := nd
      simp only at c0 c1 c2 c3 hsmk HKM hkl0
      obtain ⟨n1, n2, n3, _⟩ := hnr
      simp only at n1 n2 n3
      have HNR : Hid (RowS w ka keys ∧ RowS w va vals ∧ RowI w ia kids ∧ kids.length ≤ 1048576 ∧ kids.map (pm (pk (fR ns rs) (k + 1))) = kids.map (mv (fR ns rs)) ∧ ∀ j, j < kids.length → nthI kids j < (n : Int)) := ⟨n1, n2, n3, hsmk.2.2, HKM, fun j hj => by have := hkl0 j hj; omega⟩
      have HCC : Hid (∀ W, Below w.heap.size w W → Cell4 W b (off + j0 * 4) (.bool lf) (.slice ka keys.length kc) (.slice va vals.length vc) (.slice ia kids.length ic)) := fun W hW => ⟨(hW.cell (p := ⟨b, off + j0 * 4, none⟩) hlb).trans c0, (hW.cell (p := ⟨b, off + j0 * 4 + 1, none⟩) hlb).trans c1, (hW.cell (p := ⟨b, off + j0 * 4 + 2, none⟩) hlb).trans c2, (hW.cell (p := ⟨b, off + j0 * 4 + 3, none⟩) hlb).trans c3⟩
      have p0 := HS.out.1.cell hj0n
      obtain ⟨pcur, hpc, hps, hpv⟩ := HS.out.1
      have pf : ∀ o, wr.frozen? ⟨w1.heap.size, o, none⟩ = false := fun o => slab_free hpc
      obtain ⟨A1, hA1⟩ : ∃ A1, wr.setCell ⟨w1.heap.size, j0, none⟩ (.int .i64 k) = A1 := ⟨_, rfl⟩
      have P1 : PlB A1 w1.heap.size n (pk (fR ns rs) (k + 1)) := by
        rw [← pk_step hf0 hrk, ← hA1]
        exact PlB.set ⟨pcur, hpc, hps, hpv⟩ hj0n
      have M1 : MadeN w w2.heap.size m ns (fR ns rs) k A1 := hA1 ▸ HS.out.2.1.set _ hgm
      have Bw1 : Below w1.heap.size w1 A1 := hA1 ▸ HS.out.2.2.setCell (p := ⟨w1.heap.size, j0, none⟩) (Nat.le_refl _) _
      have BA1 : Below w.heap.size w A1 := HB3.out.2.1.trans (Bw1.mono hww)
      obtain ⟨d0, d1, d2, d3⟩ := HCC.out A1 BA1
      obtain ⟨t0, ht0⟩ := M1.there (o := k * 4) (by omega)
      obtain ⟨t1, ht1⟩ := M1.there (o := k * 4 + 1) (by omega)
      obtain ⟨t2, ht2⟩ := M1.there (o := k * 4 + 2) (by omega)
      obtain ⟨t3, ht3⟩ := M1.there (o := k * 4 + 3) (by omega)
      have mf := M1.free
      obtain ⟨A2, hA2⟩ : ∃ A2, set4 A1 w2.heap.size (k * 4) (.bool lf) (.slice ka keys.length kc) (.slice va vals.length vc) (.slice ia kids.length ic) = A2 := ⟨_, rfl⟩
      have M2 : MadeN w w2.heap.size m ns (fR ns rs) k A2 := hA2 ▸ (((M1.over _ (by omega)).over _ (by omega)).over _ (by omega)).over _ (by omega)
      have P2 : PlB A2 w1.heap.size n (pk (fR ns rs) (k + 1)) := by
        obtain ⟨cu, h1, h2⟩ := P1
        refine ⟨cu, hA2 ▸ ?_, h2⟩
        show (set4 _ _ _ _ _ _ _).heap[_]? = _
        exact (set_other _ (by show w2.heap.size ≠ w1.heap.size; omega)).trans ((set_other _ (by show w2.heap.size ≠ w1.heap.size; omega)).trans ((set_other _ (by show w2.heap.size ≠ w1.heap.size; omega)).trans ((set_other _ (by show w2.heap.size ≠ w1.heap.size; omega)).trans h1)))
      have Bw2 : Below w1.heap.size w1 A2 := hA2 ▸ (((Bw1.setCell (p := ⟨w2.heap.size, k * 4, none⟩) (by show w1.heap.size ≤ w2.heap.size; omega) _).setCell (p := ⟨w2.heap.size, k * 4 + 1, none⟩) (by show w1.heap.size ≤ w2.heap.size; omega) _).setCell (p := ⟨w2.heap.size, k * 4 + 2, none⟩) (by show w1.heap.size ≤ w2.heap.size; omega) _).setCell (p := ⟨w2.heap.size, k * 4 + 3, none⟩) (by show w1.heap.size ≤ w2.heap.size; omega) _
      have BA2 : Below w.heap.size w A2 := HB3.out.2.1.trans (Bw2.mono hww)
      obtain ⟨mc, mh, ms1, _⟩ := M1
      have hA2c : A2.heap[w2.heap.size]? = some (.cells ((((mc.setIfInBounds (k * 4) (.bool lf)).setIfInBounds (k * 4 + 1) (.slice ka keys.length kc)).setIfInBounds (k * 4 + 2) (.slice va vals.length vc)).setIfInBounds (k * 4 + 3) (.slice ia kids.length ic)) 93 (0, 0)) := hA2 ▸ slab_set (slab_set (slab_set (slab_set mh _) _) _) _
      obtain ⟨_, _, _, e3⟩ := HCC.out A2 BA2
      have hpl := placesOf_any ia ic kids w1.heap.size n (pk (fR ns rs) (k + 1)) A2 (HNR.out.2.2.1.below BA2) P2 HNR.out.2.2.2.2.2 HNR.out.2.2.2.1
      rw [HNR.out.2.2.2.2.1] at hpl
      have HA2 : Hid (MadeN w w2.heap.size m ns (fR ns rs) k A2 ∧ PlB A2 w1.heap.size n (pk (fR ns rs) (k + 1)) ∧ Below w1.heap.size w1 A2 ∧ A2.heap[w2.heap.size]? = some (.cells ((((mc.setIfInBounds (k * 4) (.bool lf)).setIfInBounds (k * 4 + 1) (.slice ka keys.length kc)).setIfInBounds (k * 4 + 2) (.slice va vals.length vc)).setIfInBounds (k * 4 + 3) (.slice ia kids.length ic)) 93 (0, 0)) ∧ mc.size = m * 4) := ⟨M2, P2, Bw2, hA2c, ms1⟩
      clear hat hnd hsmk HKM hkl0 n1 n2 n3 c0 c1 c2 c3 hpc hps hpv P1 Bw1 BA1 M2 P2 Bw2 BA2 hA2c mh ms1 hj0 hf0 hrk hBw HS
      go_wp2_with fail
      refine hpl.mono ?_
      rintro e w4 ⟨h, rfl, o4, b4⟩
      have M4 := HA2.out.1.below b4
      have hc4 := (b4.block _ HA2.out.1.lt).trans HA2.out.2.2.2.1
      obtain ⟨t4, ht4⟩ := M4.there (o := k * 4 + 3) (by omega)
      have mf4 := M4.free
      have HN4 : Hid (PlB (w4.setCell ⟨w2.heap.size, k * 4 + 3, none⟩ (.slice (some ⟨h, 0, none⟩) kids.length kids.length)) w1.heap.size n (pk (fR ns rs) (k + 1)) ∧ MadeN w w2.heap.size m ns (fR ns rs) (k + 1) (w4.setCell ⟨w2.heap.size, k * 4 + 3, none⟩ (.slice (some ⟨h, 0, none⟩) kids.length kids.length)) ∧ Below w1.heap.size w1 (w4.setCell ⟨w2.heap.size, k * 4 + 3, none⟩ (.slice (some ⟨h, 0, none⟩) kids.length kids.length))) := by
        have sz : (w4.setCell ⟨w2.heap.size, k * 4 + 3, none⟩ (.slice (some ⟨h, 0, none⟩) kids.length kids.length)).heap.size = w4.heap.size := by simp [World.setCell]
        have hgl := HA2.out.1.lt
        have sA := HA2.out.2.2.1.size
        refine ⟨?_, ?_, ?_⟩
        · obtain ⟨cu, q1, q2⟩ := HA2.out.2.1.below b4
          exact ⟨cu, (set_other _ (by show w2.heap.size ≠ w1.heap.size; omega)).trans q1, q2⟩
        · refine MadeN.next (kc := kc) (vc := vc) (M4.over _ (by omega)) HJ.out.1 HJ.out.2.1 HJ.out.2.2.1 (by rw [HJ.out.2.2.2]; exact HNR.out.1) (by rw [HJ.out.2.2.2]; exact HNR.out.2.1) (by rw [HJ.out.2.2.2, sz]; exact (o4.mono (by omega) (Nat.le_refl _)).same fun x x1 _ _ => set_other _ (by show w2.heap.size ≠ x; omega)) ?_
          rw [HJ.out.2.2.2]
          have h4 := slab_set hc4 (o := k * 4 + 3) (.slice (some ⟨h, 0, none⟩) kids.length kids.length)
          have ms := HA2.out.2.2.2.2
          refine ⟨?_, ?_, ?_, ?_⟩
          · rw [slab_cell h4, Array.getElem?_setIfInBounds_ne (by omega), Array.getElem?_setIfInBounds_ne (by omega), Array.getElem?_setIfInBounds_ne (by omega), Array.getElem?_setIfInBounds_ne (by omega), Array.getElem?_setIfInBounds_self_of_lt (by omega)]
          · rw [slab_cell h4, Array.getElem?_setIfInBounds_ne (by omega), Array.getElem?_setIfInBounds_ne (by omega), Array.getElem?_setIfInBounds_ne (by omega), Array.getElem?_setIfInBounds_self_of_lt (by simp; omega)]
          · rw [slab_cell h4, Array.getElem?_setIfInBounds_ne (by omega), Array.getElem?_setIfInBounds_ne (by omega), Array.getElem?_setIfInBounds_self_of_lt (by simp; omega)]
          · rw [slab_cell h4, Array.getElem?_setIfInBounds_self_of_lt (by simp; omega)]
        · exact (HA2.out.2.2.1.trans (b4.mono sA)).setCell (p := ⟨w2.heap.size, k * 4 + 3, none⟩) (by show w1.heap.size ≤ w2.heap.size; omega) _
      clear hpl o4 b4 M4 hc4 HA2 e3 hA1 hA2 p0 pf ht0 ht1 ht2 ht3 mf d0 d1 d2 d3
      go_wp2
      go_roundw
      case rel => exact ⟨k + 1, by omega, by go_num, HN4⟩
      case measure => simp [intOf]; omega
    · obtain rfl : k = m := by omega
      have hrt : k = rk (fR ns rs) ns.length := by rw [← HMM.out]; exact HRL.out.1
      have hpl := placesOf_any ra rc rs w1.heap.size n (pk (fR ns rs) k) wr (HR.out.2.below (HB3.out.2.1.trans (HS.out.2.2.mono HB3.out.2.1.size))) HS.out.1 (fun j hj => by have := HGR.out j hj; rw [HN.out] at this; exact this) hrl
      rw [hrt, HRT.out] at hpl
      have HBW : Hid (Below w.heap.size w wr) := HB3.out.2.1.trans (HS.out.2.2.mono HB3.out.2.1.size)
      have HRW : Hid (RowN wr (some ⟨w2.heap.size, 0, none⟩) (cmpL ns (fR ns rs) ns.length)) := MadeN.row (by rw [← hrt]; exact HS.out.2.1) HBW.out HM.out
      have HKM : Hid (k = (cmpL ns (fR ns rs) ns.length).length) := by show _ = _; rw [HCL.out]; exact hrt
      clear hrt HS
      go_wp2_with fail
      refine hpl.mono ?_
      rintro e w9 ⟨h, rfl, o9, b9⟩
      have HD : Hid (RowN w9 (some ⟨w2.heap.size, 0, none⟩) (cmpL ns (fR ns rs) ns.length) ∧ OwnL 3 w9 w.heap.size w9.heap.size (.slice (some ⟨h, 0, none⟩) rs.length rs.length) (vI (rs.map (mv (fR ns rs)))) ∧ Below w.heap.size w w9) := ⟨HRW.out.below b9, o9.mono HBW.out.size (Nat.le_refl _), below_step HBW.out (Nat.le_refl _) b9⟩
      clear hpl o9 b9
      go_wp2
      go_ret2
      exact ⟨_, _, _, rfl, by rw [← HN.out]; exact HKM.out, by rw [← HN.out]; exact HD.out.1, HD.out.2.1, HD.out.2.2⟩
end Go.Proofs.Ythflalpapdaidaa
