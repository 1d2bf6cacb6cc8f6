/- The law on sorts (stage 13). -/
import Derived.Test.YtmcjgncpblbhpaaFsA
import Derived.Test.YtmcjgncpblbhpaaKsJ
import Derived.Test.YtmcjgncpblbhpaaPdA
namespace Go.Proofs.Ytmcjgncpblbhpaa
open Go.RowKit

theorem infoF : (Try.prog.info? 4).map (fun i => (i.zero, i.size, i.bytes)) = some (some (.bool false), 1, 1) := by kernel_rfl
/-- A list of flags of the call's own. -/
abbrev OwnF (w : World) (B : Nat) (v : Value) (ds : List Bool) : Prop := w.ownsRow B 4 1 v ds.length (ds.map Value.bool)
theorem OwnF.empty {w : World} {B : Nat} (hB : B ≤ w.heap.size) : OwnF (w.alloc (.cells #[] 4)) B (.slice (some ⟨w.heap.size, 0, none⟩) 0 0) [] :=
  ⟨rfl, .inr ⟨w.heap.size, 0, #[], rfl, hB, heap_alloc_new w _, by simp, by simp, by simp, by simp⟩⟩
theorem OwnF.below {w w' : World} {B : Nat} {v : Value} {ds : List Bool} (h : OwnF w B v ds) (hb : Below w.heap.size w w') : OwnF w' B v ds := by
  obtain ⟨h1, h2⟩ := h
  refine ⟨h1, ?_⟩
  rcases h2 with h | ⟨g, cap, cur, e, hg, hh, r⟩
  · exact .inl h
  · exact .inr ⟨g, cap, cur, e, hg, (hb.block g (slab_lt hh)).trans hh, r⟩
theorem OwnF.boA {w : World} {B : Nat} {v : Value} {ds : List Bool} (h : OwnF w B v ds) : ∃ a c, v = .slice a ds.length c ∧ BoA w a ds := by
  obtain ⟨q1, q2⟩ := h
  rcases q2 with ⟨e, e0⟩ | ⟨g, c, cur, e, hg, hh, hcap, _, hs, ht⟩
  · exact ⟨none, 0, by rw [e, e0], fun i hi => by omega⟩
  · refine ⟨_, c, e, fun i hi => ⟨g, 0, rfl, slab_lt hh, ?_⟩⟩
    have h9 : (ds.map Value.bool)[i]? = some (.bool (nthB ds i)) := by rw [List.getElem?_map, List.getElem?_eq_getElem hi, nthB_get hi]; rfl
    rw [← ht, List.getElem?_take] at h9
    rw [Nat.zero_add, slab_cell hh]
    split at h9
    · rw [← Array.getElem?_toList]; exact h9
    · cases h9
set_option maxRecDepth 100000 in
theorem app_F {w : World} {B b c : Nat} {v : Value} {ds : List Bool} {x : Bool} (h : OwnF w B v ds) (hB : B ≤ w.heap.size) (hl : ds.length < 4096) (hc : w.cell? ⟨b, 0, none⟩ = some (.bool x)) :
    ∃ v' w', (Builtin.append_ #[32, 32] 32 #[v, .slice (some ⟨b, 0, none⟩) 1 c]).run Try.prog w = .ok v' w' ∧ OwnF w' B v' (ds ++ [x]) ∧ ∀ w0, Below B w0 w → Below B w0 w' := by
  obtain ⟨i0, hi1, hz0, hz1, hz2⟩ := info_parts infoF
  obtain ⟨v', w', h1, h2, h3, _⟩ := run_append_own (P := Try.prog) w B 32 32 4 i0 _ 1 1 Try.underlying32 hi1 hz0 hz1 hz2 rfl (by decide) v ds.length (ds.map Value.bool) h ⟨b, 0, none⟩ 1 c [.bool x] rfl (fun j u hj => by
    match j, hj with
    | 0, hj => simp at hj; subst hj; rw [add_plain]; exact hc) (by intro u hu; simp at hu; subst hu; rfl) (by unfold maxLen; omega) (by omega) hB
  refine ⟨v', w', h1, by rw [OwnF, List.length_append, List.map_append]; exact h2, fun w0 hb => hb.grown h3 hB fun j e => ?_⟩
  obtain ⟨_, q2⟩ := h
  rcases q2 with ⟨rfl, _⟩ | ⟨g, cap, cur, rfl, hg', _⟩
  · simp [Value.ownBlock] at e
  · simp [Value.ownBlock] at e
    omega
/-- The rows sorted by themselves. -/
noncomputable def outS (ks : Rs) (ds : List Bool) : Rs := (srtN ks ds).map (nthR ks)
theorem outS_len (ks : Rs) (ds : List Bool) : (outS ks ds).length = ks.length := by unfold outS; rw [List.length_map, (srtN_spec ks ds).1.length_eq, List.length_range]
theorem range_map (ks : Rs) : (List.range ks.length).map (nthR ks) = ks := by
  apply List.ext_getElem
  · simp
  · intro i h1 h2
    rw [List.getElem_map, List.getElem_range, nthR_get h2]
theorem outS_perm (ks : Rs) (ds : List Bool) : (outS ks ds).Perm ks := by
  have := ((srtN_spec ks ds).1).map (nthR ks)
  rw [range_map] at this
  exact this
theorem outS_le {ks : Rs} {ds : List Bool} {i j : Nat} (hij : i < j) (hj : j < (outS ks ds).length) : cmpK ds (nthR (outS ks ds) i) (nthR (outS ks ds) j) ≤ 0 := by
  have hj' : j < (srtN ks ds).length := by unfold outS at hj; simpa using hj
  have p := List.pairwise_iff_getElem.1 (srtN_spec ks ds).2 i j (by omega) hj' hij
  have e : ∀ q, q < (srtN ks ds).length → nthR (outS ks ds) q = nthR ks (nthN (srtN ks ds) q) := fun q hq => by
    unfold outS
    rw [nthR_get (by simpa using hq), List.getElem_map, nthN_get hq]
  rw [e i (by omega), e j hj', nthN_get hj', nthN_get (show i < (srtN ks ds).length by omega)]
  have := p.1
  unfold ltK ltF at this
  simp only [decide_eq_false_iff_not] at this
  have n1 := cmpF_neg ds (nthV (nthR ks (srtN ks ds)[i])) (nthV (nthR ks (srtN ks ds)[j]))
  unfold cmpK at this ⊢
  omega
/-- Sorted twice they stay. -/
theorem outS_again (ks : Rs) (ds : List Bool) : outS (outS ks ds) ds = outS ks ds := by
  have : List.range (outS ks ds).length = srtN (outS ks ds) ds := by
    refine srtN_eq (List.Perm.refl _) ?_
    rw [List.pairwise_iff_getElem]
    intro i j hi hj hij
    rw [List.getElem_range, List.getElem_range]
    rw [List.length_range] at hj
    refine ⟨?_, fun _ => hij⟩
    have h1 := outS_le (ks := ks) (ds := ds) hij hj
    have n1 := cmpF_neg ds (nthV (nthR (outS ks ds) i)) (nthV (nthR (outS ks ds) j))
    unfold ltK ltF
    simp only [decide_eq_false_iff_not]
    unfold cmpK at h1 ⊢
    omega
  have e : outS (outS ks ds) ds = (srtN (outS ks ds) ds).map (nthR (outS ks ds)) := rfl
  rw [e, ← this, range_map]
theorem so_good {nw : Nat} {ks : Rs} {ds : List Bool} (h : GoodR nw ks) (hl : ks.length ≤ 7) (hn : nw ≤ 3) (hd : ds.length = nw) : soC ks ds ks = 0 := by
  unfold soC
  rw [if_neg (by omega), if_pos ⟨rfl, h.ok (by omega) (by omega), h.ok (by omega) (by omega), by omega⟩, if_pos (allK_good fun i hi => by rw [h.len hi, hd])]
/-- What a sort of drawn rows answers. -/
theorem RetO.out {ks : Rs} {ds : List Bool} {w : World} {r : Ending} {w' : World} (hc : soC ks ds ks = 0) (h : RetO ks ds ks w r w') : ∃ v hi, r = .returned (.tuple #[v, .int .i64 0]) ∧ BldR w' w.heap.size hi v (outS ks ds) ∧ Below w.heap.size w w' := by
  obtain ⟨v, hi, e, h1, h2⟩ := h
  have : soR ks ds ks = outS ks ds := if_pos hc
  rw [this] at h1
  exact ⟨v, hi, by rw [e, hc], h1, h2⟩
/-- Two rows of one list, and a value of each. -/
abbrev StG (W : World) (b1 o1 : Nat) (s1 : Value) (o2 : Nat) (s2 : Value) (p1 q1 : Nat) (x : V3) (p2 q2 : Nat) (y : V3) (w' : World) : Prop :=
  w'.cell? ⟨b1, o1, none⟩ = some s1 ∧ w'.cell? ⟨b1, o2, none⟩ = some s2 ∧ CellV w' p1 q1 x ∧ CellV w' p2 q2 y ∧ Below W.heap.size W w'
theorem StG.keep {W : World} {b1 o1 : Nat} {s1 : Value} {o2 : Nat} {s2 : Value} {p1 q1 : Nat} {x : V3} {p2 q2 : Nat} {y : V3} {w1 w2 : World} (h : StG W b1 o1 s1 o2 s2 p1 q1 x p2 q2 y w1) (l1 : b1 < W.heap.size) (l2 : p1 < W.heap.size) (l3 : p2 < W.heap.size) (hb : Below w1.heap.size w1 w2) : StG W b1 o1 s1 o2 s2 p1 q1 x p2 q2 y w2 :=
  ⟨(hb.cell (p := ⟨b1, o1, none⟩) (Nat.lt_of_lt_of_le l1 h.2.2.2.2.size)).trans h.1, (hb.cell (p := ⟨b1, o2, none⟩) (Nat.lt_of_lt_of_le l1 h.2.2.2.2.size)).trans h.2.1, CellV.below h.2.2.1 (Nat.lt_of_lt_of_le l2 h.2.2.2.2.size) hb, CellV.below h.2.2.2.1 (Nat.lt_of_lt_of_le l3 h.2.2.2.2.size) hb, below_step h.2.2.2.2 (Nat.le_refl _) hb⟩
set_option maxRecDepth 100000 in
set_option maxHeartbeats 8000000 in
theorem lawSorts_small (a0 : Option Addr) (len0 cap0 : Nat) (a1 : Option Addr) (len1 cap1 : Nat) (w : World) (c0 : Code w a0 len0) (c1 : Code w a1 len1) (hl0 : len0 ≤ 1048576) (hl1 : len1 ≤ 1048576) :
    Calls Try.prog 4 #[.slice a0 len0 cap0, .slice a1 len1 cap1] w fun e w' => e = .returned (.bool true) ∧ Below w.heap.size w w' := by
  have R1 := rowsOf_any (cap := cap0) c0 (by omega)
  have HC1 : Hid (Code w a1 len1) := c1
  clear c0 c1
  go_enter Try.func4, Try.ntmps4
  go_wp2_with fail
  refine R1.mono ?_
  rintro e w1 ⟨v1, ks, nw, rfl, O1, lk, hnw, gk, b1⟩
  have sk := gk.small (by omega) (by omega)
  have L1 := O1.lst (fun i hi => by rw [gk.len hi]; omega) gk.text sk
  obtain ⟨ak, ck, rfl, rk⟩ := L1.row
  have HK : Hid (LstA w1 (.slice ak ks.length ck) ks ∧ RowA w1 ak ks ∧ GoodR nw ks ∧ SmallR ks) := ⟨L1, rk, gk, sk⟩
  clear R1 O1 L1 rk sk gk
  obtain ⟨n, hn⟩ : ∃ n, ks.length = n := ⟨_, rfl⟩
  have HN : Hid (ks.length = n) := hn
  rw [hn] at lk ⊢
  clear hn
  by_cases h0 : n = 0
  · subst h0
    go_wp2
    go_ret
    exact ⟨rfl, b1⟩
  have h0I : ((n : Int) == 0) = false := by simp; omega
  obtain ⟨bk, ok, p0, s0, d0, rfl, lbk, ck0, _, _⟩ := HK.out.2.1 0 (by rw [HN.out]; omega)
  rw [Nat.add_zero, HK.out.2.2.1.len (by rw [HN.out]; omega)] at ck0
  have HCK : Hid (∀ W, Below w1.heap.size w1 W → W.cell? ⟨bk, ok, none⟩ = some (.slice (some ⟨p0, s0, none⟩) nw d0)) := fun W hW => (hW.cell (p := ⟨bk, ok, none⟩) lbk).trans ck0
  clear ck0 lbk
  have Bz : Below w1.heap.size w1 (w1.alloc (.cells #[] 4)) := (Below.refl _ _).alloc (Nat.le_refl _) _
  have Oz : Hid (OwnF (w1.alloc (.cells #[] 4)) w1.heap.size (.slice (some ⟨w1.heap.size, 0, none⟩) 0 0) []) := OwnF.empty (Nat.le_refl _)
  go_wp2
  go_loopw [6, 7] (fun v i wr => ∃ (q : Nat) (ds : List Bool), q ≤ nw ∧ i = .int .i64 q ∧ ds.length = q ∧ Hid (OwnF wr w1.heap.size v ds) ∧ Below w1.heap.size w1 wr) (fun _ i _ => nw - (intOf i).toNat)
  case atStart => exact ⟨0, [], by omega, rfl, rfl, Oz.out, Bz⟩
  case round =>
    clear Oz Bz
    obtain ⟨q, ds, hq, rfl, hdq, HO, hbl⟩ := hrel
    have ckq := HCK.out wr hbl
    by_cases hqn : q < nw
    · have hqI : (q : Int) < (nw : Int) := by omega
      have AT := at_any (cap := cap1) (HC1.out.kept (b1.trans (hbl.mono b1.size))) hl1 q 2 (by omega) (by omega) (by omega)
      go_wp2_with fail
      refine AT.mono ?_
      rintro e w2 ⟨r, rfl, r0, r2, b2⟩
      have hbA : Below wr.heap.size wr (w2.alloc (.cells #[.bool (r == 1)] 4)) := b2.alloc b2.size _
      have B3A := below_step hbl (Nat.le_refl _) hbA
      obtain ⟨v', w', hr, hO2, hB2⟩ := app_F (b := w2.heap.size) (c := 1) (x := r == 1) (OwnF.below HO.out hbA) B3A.size (by omega) (by simp)
      have HO2 : Hid (OwnF w' w1.heap.size v' (ds ++ [r == 1]) ∧ Below w1.heap.size w1 w') := ⟨hO2, hB2 w1 B3A⟩
      clear AT hO2 hB2 hbA B3A HO ckq b2
      go_wp2_with (at_builtin; refine Lib.wpList_append_run _ rfl _ _ _ _ rfl _ _ rfl rfl _ _ hr ?_)
      go_roundw
      case rel => exact ⟨q + 1, ds ++ [r == 1], by omega, by go_num, by simp; omega, HO2.out.1, HO2.out.2⟩
      case measure => simp [intOf]; omega
    · obtain rfl : q = nw := by omega
      obtain ⟨ad, cd, rfl, bd⟩ := HO.out.boA
      have hB1 : Below w.heap.size w wr := b1.trans (hbl.mono b1.size)
      have gk := HK.out.2.2.1
      have zk := so_good gk (by rw [HN.out]; exact lk) hnw.2 hdq
      have go : GoodR q (outS ks ds) := gk.perm (outS_perm ks ds)
      have lo : (outS ks ds).length = n := by rw [outS_len, HN.out]
      have zo := so_good go (by omega) hnw.2 hdq
      have so := go.small (by omega) (by omega)
      have C1 := implSort_any (some ⟨bk, ok, none⟩) ad (some ⟨bk, ok, none⟩) ck cd ck ks ds ks wr (HK.out.2.1.below hbl) bd (HK.out.2.1.below hbl) HK.out.2.2.2 HK.out.2.2.2 (by omega)
      have C2 := fun W (hW : Below wr.heap.size wr W) => specSort_any (some ⟨bk, ok, none⟩) ad (some ⟨bk, ok, none⟩) ck cd ck ks ds ks W ((HK.out.2.1.below hbl).below hW) (bd.below hW) ((HK.out.2.1.below hbl).below hW) HK.out.2.2.2 HK.out.2.2.2 (by omega)
      rw [HN.out, hdq] at C1 C2
      have C2' : Hid (∀ W, Below wr.heap.size wr W → Calls Try.prog 16 #[.slice (some ⟨bk, ok, none⟩) n ck, .slice ad q cd, .slice (some ⟨bk, ok, none⟩) n ck] W (RetO ks ds ks W)) := C2
      have C3' : Hid (∀ W a c, Below wr.heap.size wr W → RowA W a (outS ks ds) → Calls Try.prog 15 #[.slice a n c, .slice ad q cd, .slice a n c] W fun r w' => ∃ v hi, r = .returned (.tuple #[v, .int .i64 0]) ∧ BldR w' W.heap.size hi v (outS ks ds) ∧ Below W.heap.size W w') := fun W a c hW hr => by
        have := implSort_any a ad a c cd c (outS ks ds) ds (outS ks ds) W hr (bd.below hW) hr so so (by omega)
        rw [lo, hdq] at this
        refine this.mono fun e w' h => ?_
        obtain ⟨v, hi, e1, e2, e3⟩ := RetO.out zo h
        rw [outS_again] at e2
        exact ⟨v, hi, e1, e2, e3⟩
      have HZ : Hid (soC ks ds ks = 0) := zk
      have HG : Hid (GoodR q (outS ks ds) ∧ (outS ks ds).length = n ∧ SmallR (outS ks ds) ∧ ds.length = q ∧ 1 ≤ q ∧ q ≤ 3) := ⟨go, lo, so, hdq, hnw.1, hnw.2⟩
      have HLK : Hid (LstA wr (.slice (some ⟨bk, ok, none⟩) n ck) ks ∧ GoodR q ks ∧ SmallR ks ∧ BoA wr ad ds ∧ ks.length = n) := ⟨by have := HK.out.1.below hbl; rw [HN.out] at this; exact this, gk, HK.out.2.2.2, bd, HN.out⟩
      rw [hdq]
      clear gk zk go lo zo so C2 HK HCK HO bd hnw
      go_wp2_with fail
      refine C1.mono ?_
      intro e w2 hR1
      obtain ⟨v8, hi8, rfl, O8, b2⟩ := RetO.out HZ.out hR1
      have L8 : LstA w2 v8 (outS ks ds) := O8.lst (fun i hi => by rw [HG.out.1.len hi]; have := HG.out; omega) HG.out.1.text HG.out.2.2.1
      obtain ⟨ao, co, rfl, ro⟩ := L8.row
      have H8 : Hid (LstA w2 (.slice ao (outS ks ds).length co) (outS ks ds) ∧ RowA w2 ao (outS ks ds)) := ⟨L8, ro⟩
      rw [HG.out.2.1]
      have c2 := C2'.out w2 b2
      clear C1 hR1 O8 L8 ro C2'
      go_wp2_with fail
      refine c2.mono ?_
      intro e w3 hR2
      obtain ⟨v10, hi10, rfl, O10, b3⟩ := RetO.out HZ.out hR2
      have L10 : LstA w3 v10 (outS ks ds) := O10.lst (fun i hi => by rw [HG.out.1.len hi]; have := HG.out; omega) HG.out.1.text HG.out.2.2.1
      obtain ⟨aw, cw, rfl, rw10⟩ := L10.row
      have H10 : Hid (RowA w3 aw (outS ks ds)) := rw10
      rw [HG.out.2.1]
      have B3 := below_step b2 (Nat.le_refl _) b3
      have c3 := C3'.out w3 ao co B3 (H8.out.2.below b3)
      clear c2 hR2 O10 L10 rw10 C3' b2
      go_wp2_with fail
      refine c3.mono ?_
      rintro e w4 ⟨v12, hi12, rfl, O12, b4⟩
      have L12 : LstA w4 v12 (outS ks ds) := O12.lst (fun i hi => by rw [HG.out.1.len hi]; have := HG.out; omega) HG.out.1.text HG.out.2.2.1
      obtain ⟨ag, cg, rfl, rg⟩ := L12.row
      have H12 : Hid (RowA w4 ag (outS ks ds)) := rg
      rw [HG.out.2.1]
      have B4 := below_step B3 (Nat.le_refl _) b4
      have C4 := implSame_lst (.slice ao (outS ks ds).length co) (.slice (some ⟨bk, ok, none⟩) n ck) (outS ks ds) ks w4 ((H8.out.1.below b3).below b4) (HLK.out.1.below B4) HG.out.2.2.1 HLK.out.2.2.1 (HG.out.1.ok (by have := HG.out; omega) (by have := HG.out; omega)) (HLK.out.2.1.ok (by have := HLK.out; omega) (by have := HG.out; omega))
      have z0 : sbC (outS ks ds) ks = 0 := by
        unfold sbC
        have h1 := HG.out
        have h2 := HLK.out.2.2.2.2
        rw [if_neg (by omega), if_pos ⟨HG.out.1.ok (by omega) (by omega), HLK.out.2.1.ok (by omega) (by omega)⟩]
      have z1 : sbR (outS ks ds) ks = true := by
        unfold sbR
        rw [z0]
        simp [outS_perm ks ds]
      unfold RetB at C4
      rw [z0, z1, HG.out.2.1] at C4
      clear c3 O12 L12 rg z0 z1
      go_wp2_with fail
      refine C4.mono ?_
      rintro e w5 ⟨rfl, b5⟩
      have B5 := below_step B4 (Nat.le_refl _) b5
      have HR5 : Hid (RowA w5 ao (outS ks ds) ∧ RowA w5 aw (outS ks ds) ∧ RowA w5 ag (outS ks ds) ∧ BoA w5 ad ds ∧ Below w.heap.size w w5) := ⟨((H8.out.2.below b3).below b4).below b5, (H10.out.below b4).below b5, H12.out.below b5, HLK.out.2.2.2.1.below B5, below_step hB1 (Nat.le_refl _) B5⟩
      have S1 : Calls Try.prog 17 #[.slice ao n co, .slice aw n cw] w5 fun e w' => e = .returned (.bool true) ∧ Below w5.heap.size w5 w' := by
        have := sameRows_same ao aw co cw (outS ks ds) w5 HR5.out.1.row HR5.out.2.1.row HG.out.2.2.1
        rw [HG.out.2.1] at this
        exact this
      have S2 : Hid (∀ W, Below w5.heap.size w5 W → Calls Try.prog 17 #[.slice ag n cg, .slice ao n co] W fun e w' => e = .returned (.bool true) ∧ Below W.heap.size W w') := fun W hW => by
        have := sameRows_same ag ao cg co (outS ks ds) W (HR5.out.2.2.1.below hW).row (HR5.out.1.below hW).row HG.out.2.2.1
        rw [HG.out.2.1] at this
        exact this
      clear C4 b3 b4 b5 B3 B4 B5 H8 H10 H12 HLK hB1
      go_wp2_with fail
      refine S1.mono ?_
      rintro e w6 ⟨rfl, b6⟩
      have s2 := S2.out w6 b6
      clear S1 S2
      go_wp2_with fail
      refine s2.mono ?_
      rintro e w7 ⟨rfl, b7⟩
      have B7 := below_step b6 (Nat.le_refl _) b7
      have HR7 : Hid (RowA w7 ao (outS ks ds) ∧ BoA w7 ad ds ∧ Below w.heap.size w w7) := ⟨HR5.out.1.below B7, HR5.out.2.2.2.1.below B7, below_step HR5.out.2.2.2.2 (Nat.le_refl _) B7⟩
      have HLE : Hid (∀ i j, i < j → j < n → cmpK ds (nthR (outS ks ds) i) (nthR (outS ks ds) j) ≤ 0) := fun i j h1 h2 => outS_le h1 (by rw [HG.out.2.1]; exact h2)
      have hq3 : q ≤ 3 := HG.out.2.2.2.2.2
      clear s2 b6 b7 B7 HR5 hbl
      generalize outS ks ds = out at *
      go_wp2
      go_loopw [16] (fun i wr => ∃ z : Nat, 1 ≤ z ∧ z ≤ n ∧ i = .int .i64 z ∧ Below w7.heap.size w7 wr) (fun i _ => n - (intOf i).toNat)
      case atStart => exact ⟨1, by omega, by omega, rfl, Below.refl _ _⟩
      case round =>
        rename World => wo
        obtain ⟨z, z1, zn, rfl, hbo⟩ := hrel
        by_cases hzn : z < n
        · have hzI : (z : Int) < (n : Int) := by omega
          obtain ⟨j, hj⟩ : ∃ j, j + 1 = z := ⟨z - 1, by omega⟩
          obtain ⟨bo, oo, p1, s1, d1, rfl, lb1, e1, r1, _⟩ := (HR7.out.1.below hbo) j (by rw [HG.out.2.1]; omega)
          obtain ⟨bo', oo', p2, s2, d2, e', lb2, e2, r2, _⟩ := (HR7.out.1.below hbo) z (by rw [HG.out.2.1]; exact hzn)
          cases e'
          rw [HG.out.1.len (by rw [HG.out.2.1]; omega)] at e1
          rw [HG.out.1.len (by rw [HG.out.2.1]; omega)] at e2
          have HXY : Hid (RowV wo (some ⟨p1, s1, none⟩) (nthR out j) ∧ RowV wo (some ⟨p2, s2, none⟩) (nthR out z) ∧ (nthR out j).length = q ∧ (nthR out z).length = q ∧ cmpK ds (nthR out j) (nthR out z) ≤ 0 ∧ GoodV (nthR out j) ∧ GoodV (nthR out z)) := ⟨r1, r2, HG.out.1.len (by rw [HG.out.2.1]; omega), HG.out.1.len (by rw [HG.out.2.1]; omega), HLE.out j z (by omega) hzn, (HG.out.1 _ (by rw [nthR_get (show j < out.length by rw [HG.out.2.1]; omega)]; exact List.getElem_mem _)).2, (HG.out.1 _ (by rw [nthR_get (show z < out.length by rw [HG.out.2.1]; omega)]; exact List.getElem_mem _)).2⟩
          have HE : Hid (∀ W, Below wo.heap.size wo W → W.cell? ⟨bo, oo + j, none⟩ = some (.slice (some ⟨p1, s1, none⟩) q d1) ∧ W.cell? ⟨bo, oo + z, none⟩ = some (.slice (some ⟨p2, s2, none⟩) q d2)) := fun W hW => ⟨(hW.cell (p := ⟨bo, oo + j, none⟩) lb1).trans e1, (hW.cell (p := ⟨bo, oo + z, none⟩) lb1).trans e2⟩
          have HLB : Hid (bo < wo.heap.size) := lb1
          have hjI : (z : Int) - 1 = (j : Int) := by omega
          have hwj : IntKind.i64.wrap (j : Int) = (j : Int) := wrap_nat (by omega)
          have hjn : j < n := by omega
          have HJ : Hid (j + 1 = z) := hj
          clear hj r1 r2 e1 e2 lb1 lb2
          generalize nthR out j = xs at *
          generalize nthR out z = ys at *
          go_wp2
          go_loopw [17] (fun i wr => ∃ k : Nat, k ≤ q ∧ i = .int .i64 k ∧ Hid (restK ds xs ys k = cmpK ds xs ys) ∧ Below wo.heap.size wo wr) (fun i _ => q - (intOf i).toNat)
          case atStart => exact ⟨0, by omega, rfl, restK_zero ds xs ys, Below.refl _ _⟩
          case round =>
            obtain ⟨k, hk, rfl, HA, hbk⟩ := hrel
            have hB7 : Below w7.heap.size w7 wr := below_step hbo (Nat.le_refl _) hbk
            by_cases hkq : k < q
            · have hkI : (k : Int) < (q : Int) := by omega
              obtain ⟨f1, f2⟩ := HE.out wr hbk
              obtain ⟨_, _, g1, l1, v1, _⟩ := (HXY.out.1.below hbk) k (by rw [HXY.out.2.2.1]; exact hkq)
              cases g1
              obtain ⟨_, _, g2, l2, v2, _⟩ := (HXY.out.2.1.below hbk) k (by rw [HXY.out.2.2.2.1]; exact hkq)
              cases g2
              obtain ⟨bd, od, rfl, lbd, cbd⟩ := HR7.out.2.1 k (by rw [HG.out.2.2.2.1]; exact hkq)
              have C5 : ∀ W, Calls Try.prog 18 #[VV (nthV xs k).1 (nthV xs k).2.1 (nthV xs k).2.2, VV (nthV ys k).1 (nthV ys k).2.1 (nthV ys k).2.2] W fun e w' => e = .returned (.tuple #[.int .i64 (cmp3 (nthV xs k) (nthV ys k)), .int .i64 0]) ∧ Below W.heap.size W w' := fun W => specCompare_ok (nthV xs k) (nthV ys k) W (HXY.out.2.2.2.2.2.1 _ (by rw [nthV_get (by rw [HXY.out.2.2.1]; exact hkq)]; exact List.getElem_mem _)).1 (HXY.out.2.2.2.2.2.2 _ (by rw [nthV_get (by rw [HXY.out.2.2.2.1]; exact hkq)]; exact List.getElem_mem _)).1
              have hS : Hid (StG wr bo (oo + j) (.slice (some ⟨p1, s1, none⟩) q d1) (oo + z) (.slice (some ⟨p2, s2, none⟩) q d2) p1 (s1 + k * 3) (nthV xs k) p2 (s2 + k * 3) (nthV ys k) wr.drew) := ⟨f1, f2, v1, v2, (Below.refl _ _).drew⟩
              have HLL : Hid (bo < wr.heap.size ∧ p1 < wr.heap.size ∧ p2 < wr.heap.size) := ⟨Nat.lt_of_lt_of_le HLB.out hbk.size, l1, l2⟩
              have HST : Hid (restK ds xs ys k = lexI (sgnK (nthB ds k) (cmp3 (nthV xs k) (nthV ys k))) (restK ds xs ys (k + 1))) := restK_step (by rw [HG.out.2.2.2.1]; exact hkq)
              clear f1 f2 v1 v2 l1 l2
              generalize nthV xs k = x at *
              generalize nthV ys k = y at *
              generalize cmp3 x y = cc at *
              go_wp2_with fail
              refine wp_region_class (C := StG wr bo (oo + j) (.slice (some ⟨p1, s1, none⟩) q d1) (oo + z) (.slice (some ⟨p2, s2, none⟩) q d2) p1 (s1 + k * 3) x p2 (s2 + k * 3) y) (by kernel_rfl) (by kernel_rfl) hS.out ?_
              repeat (first | go_big_quiet_skip | (go_big_quiet_want; apply Exists.intro; refine ⟨?_, ?_⟩; (focus (intro w' hw'; first | (obtain ⟨t0, t1, ⟨m0, m1, m2⟩, ⟨n0, n1, n2⟩, t3⟩ := hw'; go_simp; with_reducible rfl) | (go_simp; refine (C5 w').mono ?_; rintro e w'' ⟨rfl, hb⟩; exact ⟨rfl, hw'.keep HLL.out.1 HLL.out.2.1 HLL.out.2.2 hb⟩))); (try simp only [Act.put, List.setIfInBounds_toArray, List.set_cons_zero, List.set_cons_succ]); go_big_quiet_on))
              refine wpQuiet_nil ?_
              intro wx hwx
              have hbx := below_step hbk (Nat.le_refl _) hwx.2.2.2.2
              have hB7x := below_step hbo (Nat.le_refl _) hbx
              have cb2 : wx.cell? ⟨bd, od + k, none⟩ = some (.bool (nthB ds k)) := (hB7x.cell (p := ⟨bd, od + k, none⟩) lbd).trans cbd
              clear hS C5 hwx HLL cbd hbk hB7 hwj hjI
              by_cases h0 : cc = 0
              · subst h0
                have HA2 : Hid (restK ds xs ys (k + 1) = cmpK ds xs ys) := by
                  show _ = _
                  rw [← HA.out, HST.out, (sgn_zero _ _).2 rfl]
                  simp [lexI]
                clear HA HST
                go_wp2
                go_roundw
                case rel => exact ⟨k + 1, by omega, by go_num, HA2, hbx⟩
                case measure => simp [intOf]; omega
              · have hne : (cc == 0) = false := by simp [h0]
                have hsg : sgnK (nthB ds k) cc < 0 := by
                  have h1 := HXY.out.2.2.2.2.1
                  rw [← HA.out, HST.out] at h1
                  unfold lexI at h1
                  have h2 : sgnK (nthB ds k) cc ≠ 0 := fun h => h0 ((sgn_zero _ _).1 h)
                  rw [if_pos h2] at h1
                  omega
                clear HA HST
                cases hd : nthB ds k with
                | true =>
                  rw [hd] at cb2 hsg
                  have hcc : ¬ cc < 0 := by unfold sgnK at hsg; simp at hsg; omega
                  clear hsg hd
                  go_wp2
                  go_roundw
                  case rel => exact ⟨z + 1, by omega, by omega, by go_num, hB7x⟩
                  case measure => simp [intOf]; omega
                | false =>
                  rw [hd] at cb2 hsg
                  have hcc : cc < 0 := by unfold sgnK at hsg; simp at hsg; exact hsg
                  clear hsg hd
                  go_wp2
                  go_roundw
                  case rel => exact ⟨z + 1, by omega, by omega, by go_num, hB7x⟩
                  case measure => simp [intOf]; omega
            · clear HA
              go_wp2
              go_roundw
              case rel => exact ⟨z + 1, by omega, by omega, by go_num, hB7⟩
              case measure => simp [intOf]; omega
        · have hE := below_step HR7.out.2.2 (Nat.le_refl _) hbo
          go_wp2
          go_ret
          exact ⟨rfl, hE⟩
end Go.Proofs.Ytmcjgncpblbhpaa
