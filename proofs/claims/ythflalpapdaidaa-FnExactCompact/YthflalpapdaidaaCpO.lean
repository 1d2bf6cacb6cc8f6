/- spec's l05Compact (stage 5). -/
import Derived.Test.YthflalpapdaidaaCpK
namespace Go.Proofs.Ythflalpapdaidaa
open Go.RowKit

/-- The places of the first q nodes. -/
def plL (f : Nat → Bool) (q : Nat) : List Int := (List.range q).map fun j => ((rk f j : Nat) : Int)
theorem plL_len (f : Nat → Bool) (q : Nat) : (plL f q).length = q := by unfold plL; simp
theorem plL_succ (f : Nat → Bool) (q : Nat) : plL f (q + 1) = plL f q ++ [((rk f q : Nat) : Int)] := by unfold plL; rw [List.range_succ]; simp
theorem plL_at (f : Nat → Bool) {q j : Nat} (h : j < q) : nthI (plL f q) j = ((rk f j : Nat) : Int) := by
  unfold plL nthI
  rw [List.getD_eq_getElem?_getD, List.getElem?_map, List.getElem?_range h]
  rfl
theorem mvTake_succ (g : Int → Int) (l : List Int) {k : Nat} (h : k < l.length) : (l.take (k + 1)).map g = (l.take k).map g ++ [g (nthI l k)] := by
  rw [List.take_add_one, List.map_append, List.getElem?_eq_getElem h, nthI_get h]
  rfl
theorem nod_at {w : World} {a : Option Addr} {ns : List Nd} {t : Nat} (h : RowZ w a ns) (ht : t < ns.length) : ∃ b off ka kc va vc ia ic, a = some ⟨b, off, none⟩ ∧ b < w.heap.size ∧ Cell4 w b (off + t * 4) (.bool (nthN ns t).1) (.slice (some ka) (nthN ns t).2.1.length kc) (.slice (some va) (nthN ns t).2.2.1.length vc) (.slice (some ia) (nthN ns t).2.2.2.length ic) ∧ NodeR w (some ka) (some va) (some ia) (nthN ns t) := by
  obtain ⟨b, off, e, hl, ka, kc, va, vc, ia, ic, hc, hr⟩ := h t ht
  exact ⟨b, off, ka, kc, va, vc, ia, ic, e, hl, hc, hr⟩
theorem OwnI.someB {w : World} {B : Nat} {v : Value} {l : List Int} (h : OwnI w B v l) (hl : 0 < l.length) : ∃ g c, v = .slice (some ⟨g, 0, none⟩) l.length c ∧ B ≤ g ∧ g < w.heap.size := by
  rcases h.2 with ⟨_, h0⟩ | ⟨g, cap, cur, e, hg, hh, _⟩
  · omega
  · exact ⟨g, cap, e, hg, slab_lt hh⟩
theorem CkI.new {w0 w1 : World} : CkI w0 w1 (w1.heap.size + 1) (.slice (some ⟨w1.heap.size + 2, 0, none⟩) 0 0) (.slice (some ⟨w1.heap.size, 0, none⟩) 0 0) [] [] [] (((w1.alloc (.cells #[] 93)).alloc (.cells #[.slice (some ⟨w1.heap.size, 0, none⟩) 0 0] 25)).alloc (.cells #[] 3)) := by
  refine ⟨(((Below.refl _ _).alloc (Nat.le_refl _) _).alloc (by simp) _).alloc (by simp; omega) _, Nat.le_succ _, (heap_old _ _ _ (by simp)).trans (heap_new' _ _ _ (by simp)), ⟨rfl, .inr ⟨w1.heap.size + 2, 0, #[], rfl, by omega, heap_new' _ _ _ (by simp), by simp, by simp, by simp, by simp⟩⟩, ⟨rfl, .inr ⟨w1.heap.size, 0, #[], rfl, Nat.le_refl _, (heap_old _ _ _ (by simp; omega)).trans ((heap_old _ _ _ (by simp)).trans (heap_new' _ _ _ rfl)), by simp, by simp, by simp, by simp [cellsN]⟩⟩, fun e => by simp [Value.ownBlock] at e, fun e => by simp [Value.ownBlock] at e, fun g e1 e2 => by simp [Value.ownBlock] at e1 e2; omega, rfl, fun i hi => by simp at hi⟩
def RetC5 (f : Nat → Bool) (ns : List Nd) (rs : List Int) (w : World) (e : Ending) (w' : World) : Prop := ∃ a c ra rc, e = .returned (.tuple #[.agg #[.slice a (cmpL ns f ns.length).length c], .slice ra rs.length rc]) ∧ RowZ w' a (cmpL ns f ns.length) ∧ (∀ wf, w'.heap.size ≤ wf.heap.size → (∀ b, w.heap.size ≤ b → b < w'.heap.size → wf.heap[b]? = w'.heap[b]?) → RowI wf ra (rs.map (mv f))) ∧ Below w.heap.size w w'
set_option maxRecDepth 100000 in
set_option maxHeartbeats 8000000 in
theorem l05Compact_any (a ra : Option Addr) (cap rc : Nat) (ns : List Nd) (rs : List Int) (w : World) (hrow : RowZ w a ns) (hr : RowI w ra rs) (hk : KidsLt ns) (hg : RgP ns rs) (hlen : ns.length ≤ 1048576) (hsm : ∀ i, i < ns.length → SmallN (nthN ns i)) (hrl : rs.length ≤ 1048576) :
    Calls Try.prog 75 #[FV (.slice a ns.length cap), .slice ra rs.length rc] w (RetC5 (fR ns rs) ns rs w) := by
  obtain ⟨W0, hW0⟩ : ∃ W0, (w.alloc (.cells #[.slice a ns.length cap] 25)).alloc (.cells #[.slice none 0 0] 25) = W0 := ⟨_, rfl⟩
  have B0 : Below w.heap.size w W0 := hW0 ▸ ((Below.refl _ _).alloc (Nat.le_refl _) _).alloc (by simp) _
  have sz0 : W0.heap.size = w.heap.size + 2 := by rw [← hW0]; simp
  have X0 : Hid (W0.heap[w.heap.size]? = some (.cells #[.slice a ns.length cap] 25 (0, 0)) ∧ W0.heap[w.heap.size + 1]? = some (.cells #[.slice none 0 0] 25 (0, 0))) := ⟨hW0 ▸ (heap_old _ _ _ (by simp)).trans (heap_new' _ _ _ rfl), hW0 ▸ heap_new' _ _ _ (by simp)⟩
  have y0' : W0.cell? ⟨w.heap.size, 0, none⟩ = some (.slice a ns.length cap) := slab_cell X0.out.1
  have hc := l05Marks_any a ra cap rc ns rs W0 (hrow.below B0).row (hr.below B0) hk hg (by omega) hsm hrl
  have HR : Hid (RowZ w a ns ∧ RowI w ra rs ∧ KidsLt ns ∧ RgP ns rs ∧ ∀ i, i < ns.length → SmallN (nthN ns i)) := ⟨hrow, hr, hk, hg, hsm⟩
  clear hrow hr hk hg hsm
  have HF0 : Hid (∀ j, fR ns rs j = asB (Rch ns rs j)) := fun j => rfl
  have HFR : Hid ((∀ {m j : Nat}, fR ns rs m = true → m < ns.length → KidOf ns m j → fR ns rs j = true) ∧ ∀ {j : Nat}, RootOf rs j → fR ns rs j = true) := ⟨fun h h1 h2 => fR_kid h h1 h2, fun h => fR_root h⟩
  generalize fR ns rs = f at *
  unfold RetC5
  go_enter Try.func75, Try.ntmps75
  go_wp2_with fail
  refine hc.mono ?_
  rintro e w1 ⟨f0, rfl, hF, hA, b1⟩
  obtain ⟨n, hn⟩ : ∃ n, ns.length = n := ⟨_, rfl⟩
  have HN : Hid (ns.length = n) := hn
  rw [hn] at hF hA hlen y0' X0 ⊢
  have HF : Hid (FlB w1 (w.heap.size + 3) n f) := by
    obtain ⟨cur, q1, q2, q3⟩ := hF
    rw [sz0] at q1
    exact ⟨cur, q1, q2, fun j hj => by rw [q3 j hj, hA j hj, HF0.out j]⟩
  have B1 := B0.trans (b1.mono B0.size)
  have X1 : Hid (w1.heap[w.heap.size]? = some (.cells #[.slice a n cap] 25 (0, 0)) ∧ w1.heap[w.heap.size + 1]? = some (.cells #[.slice none 0 0] 25 (0, 0)) ∧ w.heap.size + 3 < w1.heap.size) := ⟨(b1.block _ (by omega)).trans X0.out.1, (b1.block _ (by omega)).trans X0.out.2, HF.out.lt⟩
  have e3 : W0.heap.size + 1 = w.heap.size + 3 := by omega
  rw [e3]
  clear hc b1 B0 X0 y0' hW0 sz0 hF hA hn e3 HF0
  have HC0 : Hid (CkI w w1 _ _ _ [] [] [] _) := CkI.new (w0 := w) (w1 := w1)
  go_wp2
  go_loopw [8, 9] (fun p i wr => ∃ (q : Nat) (v : Value) (es : List NE), q ≤ n ∧ i = .int .i64 q ∧ Hid (CkI w w1 (w1.heap.size + 1) p v (plL f q) es (cmpL ns f q) wr)) (fun _ i _ => n - (intOf i).toNat)
  case atStart => exact ⟨0, _, [], by omega, rfl, HC0⟩
  case round =>
    clear HC0
    obtain ⟨q, v, es, hqn, rfl, HS⟩ := hrel
    obtain ⟨va, vc, hv⟩ := HS.out.slice
    obtain ⟨m, hm⟩ : ∃ m, (cmpL ns f q).length = m := ⟨_, rfl⟩
    have HM : Hid ((cmpL ns f q).length = m ∧ m ≤ q ∧ m = rk f q) := ⟨hm, by rw [← hm, cmpL_len]; exact rk_le _ _, by rw [← hm, cmpL_len]⟩
    rw [hm] at hv
    subst hv
    have z0 : wr.cell? ⟨w1.heap.size + 1, 0, none⟩ = some (.slice va m vc) := slab_cell HS.out.box
    clear hm
    by_cases hlt : q < n
    · obtain ⟨p', w2, hrun, hS2⟩ := HS.out.place (m : Int) (by rw [plL_len]; omega)
      have e1 : plL f q ++ [(m : Int)] = plL f (q + 1) := by rw [plL_succ, HM.out.2.2]
      rw [e1] at hS2
      obtain ⟨pa, pc, hp', hprow, _⟩ := hS2.own.row
      rw [plL_len] at hp'
      subst hp'
      have HS2 : Hid (CkI w w1 (w1.heap.size + 1) (.slice pa (q + 1) pc) (.slice va m vc) (plL f (q + 1)) es (cmpL ns f q) w2 ∧ RowI w2 pa (plL f (q + 1))) := ⟨hS2, hprow⟩
      have z2 : w2.cell? ⟨w1.heap.size + 1, 0, none⟩ = some (.slice va m vc) := slab_cell hS2.box
      have z3 : w2.cell? ⟨w.heap.size, 0, none⟩ = some (.slice a n cap) := slab_cell ((hS2.bel.block _ (by have := X1.out.2.2; omega)).trans X1.out.1)
      have m0 := (HF.out.below hS2.bel).cell hlt
      have hltI : (q : Int) < (n : Int) := by omega
      clear e1 hS2 hprow HS
      cases hfq : f q with
      | false =>
        have HS3 : Hid (CkI w w1 (w1.heap.size + 1) (.slice pa (q + 1) pc) (.slice va m vc) (plL f (q + 1)) es (cmpL ns f (q + 1)) w2) := by
          show CkI _ _ _ _ _ _ _ _ _
          rw [cmpL_succ, if_neg (by rw [hfq]; simp)]
          exact HS2.out.1
        rw [hfq] at m0
        clear hfq HS2
        go_wp2_with (at_builtin; refine Lib.wpList_append_run _ rfl _ _ _ _ rfl _ _ rfl rfl _ _ hrun ?_)
        go_wp2
        exact ⟨⟨q + 1, _, _, by omega, by go_num, HS3⟩, by simp [intOf]; omega⟩
      | true =>
        have hqn' : q < ns.length := by rw [HN.out]; exact hlt
        obtain ⟨b, off, ka, kc, xa, xc, ia, ic, rfl, hlb, hc4, hnr⟩ := nod_at HR.out.1 hqn'
        have B2 : Below w.heap.size w w2 := B1.trans (HS2.out.1.bel.mono B1.size)
        obtain ⟨c0, c1, c2, c3⟩ := hc4.below hlb B2
        have HNR : Hid (NodeR w (some ka) (some xa) (some ia) (nthN ns q) ∧ Below w.heap.size w w2 ∧ f q = true ∧ q < ns.length) := ⟨hnr, B2, hfq, hqn'⟩
        have HSM : Hid (SmallN (nthN ns q)) := HR.out.2.2.2.2 q hqn'
        have HKL : Hid (∀ i, i < (nthN ns q).2.2.2.length → 0 ≤ nthI (nthN ns q).2.2.2 i ∧ nthI (nthN ns q).2.2.2 i < (q : Int)) := HR.out.2.2.1 q hqn'
        obtain ⟨x, hx⟩ : ∃ x, nthN ns q = x := ⟨_, rfl⟩
        have HX : Hid (nthN ns q = x) := hx
        rw [hx] at HNR HSM HKL c0 c1 c2 c3
        obtain ⟨lf, keys, vals, kids⟩ := x
        simp only at c0 c1 c2 c3
        obtain ⟨kn, hkn⟩ : ∃ kn, keys.length = kn := ⟨_, rfl⟩
        obtain ⟨xn, hxn⟩ : ∃ xn, vals.length = xn := ⟨_, rfl⟩
        obtain ⟨l, hl⟩ : ∃ l, kids.length = l := ⟨_, rfl⟩
        have HLN : Hid (keys.length = kn ∧ vals.length = xn ∧ kids.length = l) := ⟨hkn, hxn, hl⟩
        have hll : l ≤ 1048576 := by rw [← hl]; exact HSM.out.2.2
        rw [hkn] at c1
        rw [hxn] at c2
        rw [hl] at c3
        rw [hfq] at m0
        clear hfq hc4 hnr B2 hx hkn hxn hl hqn'
        go_wp2_with (at_builtin; refine Lib.wpList_append_run _ rfl _ _ _ _ rfl _ _ rfl rfl _ _ hrun ?_)
        have HQ0 : Hid (OwnI ((w2.alloc (.cells #[.bool lf, .slice (some ka) kn kc, .slice (some xa) xn xc, .slice (some ia) l ic] 93)).alloc (.cells #[] 3)) (w2.heap.size + 1) (.slice (some ⟨w2.heap.size + 1, 0, none⟩) 0 0) ((kids.take 0).map (mv f)) ∧
          ((w2.alloc (.cells #[.bool lf, .slice (some ka) kn kc, .slice (some xa) xn xc, .slice (some ia) l ic] 93)).alloc (.cells #[] 3)).heap[w2.heap.size]? = some (.cells #[.bool lf, .slice (some ka) kn kc, .slice (some xa) xn xc, .slice (some ia) l ic] 93 (0, 0)) ∧ Below w2.heap.size w2 ((w2.alloc (.cells #[.bool lf, .slice (some ka) kn kc, .slice (some xa) xn xc, .slice (some ia) l ic] 93)).alloc (.cells #[] 3)) ∧ w2.heap.size + 1 < ((w2.alloc (.cells #[.bool lf, .slice (some ka) kn kc, .slice (some xa) xn xc, .slice (some ia) l ic] 93)).alloc (.cells #[] 3)).heap.size) := by
          refine ⟨⟨by simp, .inr ⟨w2.heap.size + 1, 0, #[], rfl, Nat.le_refl _, heap_new' _ _ _ (by simp), by simp, by simp, by simp, by simp⟩⟩, (heap_old _ _ _ (by simp)).trans (heap_new' _ _ _ rfl), ((Below.refl _ _).alloc (Nat.le_refl _) _).alloc (by simp) _, by simp⟩
        go_wp2
        go_loopw [11, 12] (fun kv k wi => ∃ (kk h c : Nat), kk ≤ l ∧ k = .int .i64 kk ∧ kv = .slice (some ⟨h, 0, none⟩) kk c ∧ w2.heap.size < h ∧ h < wi.heap.size ∧ Hid (OwnI wi (w2.heap.size + 1) (.slice (some ⟨h, 0, none⟩) kk c) ((kids.take kk).map (mv f)) ∧
          wi.heap[w2.heap.size]? = some (.cells #[.bool lf, .slice (some ka) kn kc, .slice (some xa) xn xc, .slice (some ia) l ic] 93 (0, 0)) ∧ Below w2.heap.size w2 wi ∧ w2.heap.size + 1 < wi.heap.size)) (fun _ k _ => l - (intOf k).toNat)
        case atStart => exact ⟨0, w2.heap.size + 1, 0, by omega, rfl, rfl, Nat.lt_succ_self _, by simp, HQ0⟩
        case round =>
          clear HQ0 c0 c1 c2 c3 m0 hrun
          obtain ⟨kk, h, c, hkl, rfl, rfl, hh1, hh2, HQ⟩ := hrel
          have c3 : wr.cell? ⟨w2.heap.size, 3, none⟩ = some (.slice (some ia) l ic) := slab_cell HQ.out.2.1
          by_cases hlt2 : kk < l
          · have hkk : kk < kids.length := by rw [HLN.out.2.2]; exact hlt2
            obtain ⟨b2, o2, he2, hlb2, hc2⟩ := HNR.out.1.2.2.1 kk hkk
            have hB : Below w.heap.size w wr := below_step HNR.out.2.1 (Nat.le_refl _) HQ.out.2.2.1
            have hc2' : wr.cell? ⟨b2, o2 + kk, none⟩ = some (.int .i64 (nthI kids kk)) := (hB.cell (p := ⟨b2, o2 + kk, none⟩) hlb2).trans hc2
            have hq2 := HKL.out kk hkk
            obtain ⟨d, hd⟩ : ∃ d : Nat, nthI kids kk = (d : Int) := ⟨(nthI kids kk).toNat, by have := hq2.1; omega⟩
            have HT : Hid ((kids.take (kk + 1)).map (mv f) = (kids.take kk).map (mv f) ++ [((rk f d : Nat) : Int)]) := by
              show _ = _
              rw [mvTake_succ _ _ hkk, hd, mv_nat]
            have hd2 : d < q + 1 := by have := hq2.2; omega
            have hdI : (d : Int) < ((q : Int) + 1) := by omega
            obtain ⟨b3, o3, he3, hlb3, hc3⟩ := (HS2.out.2.below HQ.out.2.2.1) d (by rw [plL_len]; exact hd2)
            rw [plL_at f hd2] at hc3
            cases he2
            subst he3
            rw [hd] at hc2'
            obtain ⟨g, hg⟩ : ∃ g : Nat, rk f d = g := ⟨_, rfl⟩
            rw [hg] at hc3 HT
            have hlT : ((kids.take kk).map (mv f)).length = kk := by rw [List.length_map, List.length_take]; omega
            obtain ⟨v', w4, hrun, o4, gr, _⟩ := app_I6 (.slice (some ⟨h, 0, none⟩) kk c) ((kids.take kk).map (mv f)) (g : Int) (wr.alloc (.cells #[.int .i64 g] 3)) (w2.heap.size + 1) 1 (HQ.out.1.alloc _) (by rw [hlT]; omega) ⟨wr.heap.size, 0, none⟩ (slab_cell (heap_new' _ _ _ rfl)) (by have := HQ.out.2.2.2; simp; omega)
            rw [← HT.out] at o4
            obtain ⟨h', c', hv', p1, p2⟩ := o4.someB (by rw [List.length_map, List.length_take]; omega)
            have hlT2 : ((kids.take (kk + 1)).map (mv f)).length = kk + 1 := by rw [List.length_map, List.length_take]; omega
            rw [hlT2] at hv'
            subst hv'
            have hbel : Below (w2.heap.size + 1) (wr.alloc (.cells #[.int .i64 g] 3)) w4 := own_below (Below.refl _ _) (by have := HQ.out.2.2.2; simp; omega) (HQ.out.1.alloc _) gr
            have hsw := HQ.out.2.2.2
            have HQ2 : Hid (OwnI w4 (w2.heap.size + 1) (.slice (some ⟨h', 0, none⟩) (kk + 1) c') ((kids.take (kk + 1)).map (mv f)) ∧ w4.heap[w2.heap.size]? = some (.cells #[.bool lf, .slice (some ka) kn kc, .slice (some xa) xn xc, .slice (some ⟨b2, o2, none⟩) l ic] 93 (0, 0)) ∧ Below w2.heap.size w2 w4 ∧ w2.heap.size + 1 < w4.heap.size) :=
              ⟨o4, (hbel.block _ (Nat.lt_succ_self _)).trans ((heap_old _ _ _ (by omega)).trans HQ.out.2.1), (HQ.out.2.2.1.alloc (by omega) _).trans (hbel.mono (by omega)), by have := hbel.size; simp at this; omega⟩
            clear o4 gr hlT hlT2 HT hc2 hq2 hB hbel hg hd hkk
            go_wp2_with (at_builtin; refine Lib.wpList_append_run _ rfl _ _ _ _ rfl _ _ rfl rfl _ _ hrun ?_)
            go_wp2
            go_roundw
            case rel => exact ⟨kk + 1, h', c', by omega, by go_num, rfl, by omega, p2, HQ2⟩
            case measure => simp [intOf]; omega
          · obtain rfl : kk = l := by omega
            have hyl := slab_lt HS2.out.1.box
            have hel : es.length = m := by rw [HS2.out.1.len, HM.out.1]
            have hB5 : Below w2.heap.size w2 (wr.setCell ⟨w2.heap.size, 3, none⟩ (.slice (some ⟨h, 0, none⟩) kk c)) := HQ.out.2.2.1.setCell (p := ⟨w2.heap.size, 3, none⟩) (Nat.le_refl _) _
            have ssz : (wr.setCell ⟨w2.heap.size, 3, none⟩ (.slice (some ⟨h, 0, none⟩) kk c)).heap.size = wr.heap.size := by simp [World.setCell]
            have hri : RowI wr (some ⟨h, 0, none⟩) (kids.map (mv f)) := by
              obtain ⟨a', c', e, r, _⟩ := HQ.out.1.row
              rw [List.take_of_length_le (by rw [HLN.out.2.2]; exact Nat.le_refl _)] at r
              simp only [Value.slice.injEq] at e
              rw [← e.1] at r
              exact r
            have hpush := (HS2.out.1.below hB5).push (lf, keys, vals, kids.map (mv f)) ka xa kc xc h c (by rw [hel]; have := HM.out.2.1; omega) HNR.out.1.1 HNR.out.1.2.1 ⟨HSM.out.1, HSM.out.2.1, by show (List.map _ _).length ≤ _; rw [List.length_map]; exact HSM.out.2.2⟩
              (rowI_blk hri (by rw [ssz]; exact Nat.le_refl _) (set_other _ (by show w2.heap.size ≠ h; omega))) (by have := HS2.out.1.bel.size; omega) (by rw [ssz]; exact hh2) (fun e => by omega) (fun e => by have := (HS2.out.1.own.blk e).2; omega) (fun e => by have := (HS2.out.1.nod.lt e).2; omega)
            simp only [List.length_map, HLN.out.1, HLN.out.2.1, HLN.out.2.2] at hpush
            obtain ⟨v', es', w5, hrun, hbx, hS5⟩ := hpush
            have eos : cmpL ns f q ++ [(lf, keys, vals, kids.map (mv f))] = cmpL ns f (q + 1) := by rw [cmpL_succ, if_pos HNR.out.2.2.1, HX.out]; rfl
            rw [eos] at hS5
            rw [ssz] at hrun
            obtain ⟨va', vc', hv'⟩ := hS5.slice
            obtain ⟨m', hm'⟩ : ∃ m', (cmpL ns f (q + 1)).length = m' := ⟨_, rfl⟩
            rw [hm'] at hv'
            subst hv'
            have HS5 : Hid (CkI w w1 (w1.heap.size + 1) (.slice pa (q + 1) pc) (.slice va' m' vc') (plL f (q + 1)) es' (cmpL ns f (q + 1)) (w5.setCell ⟨w1.heap.size + 1, 0, none⟩ (.slice va' m' vc'))) := hS5
            have d0 : wr.cell? ⟨w2.heap.size, 0, none⟩ = some (.bool lf) := slab_cell HQ.out.2.1
            have d1 : wr.cell? ⟨w2.heap.size, 1, none⟩ = some (.slice (some ka) kn kc) := slab_cell HQ.out.2.1
            have d2 : wr.cell? ⟨w2.heap.size, 2, none⟩ = some (.slice (some xa) xn xc) := slab_cell HQ.out.2.1
            have df : ∀ o, wr.frozen? ⟨w2.heap.size, o, none⟩ = false := fun o => slab_free HQ.out.2.1
            have dz : wr.cell? ⟨w1.heap.size + 1, 0, none⟩ = some (.slice va m vc) := slab_cell ((HQ.out.2.2.1.block _ hyl).trans HS2.out.1.box)
            have dn : ¬ w1.heap.size + 1 = w2.heap.size := by omega
            have dm : ¬ w2.heap.size = w1.heap.size + 1 := by omega
            have dlt : w2.heap.size < wr.heap.size := by omega
            have dl1 : w1.heap.size + 1 < wr.heap.size := by omega
            have x5 : w5.cell? ⟨w1.heap.size + 1, 0, none⟩ = some (.slice va m vc) := slab_cell hbx
            have xf : ∀ o, w5.frozen? ⟨w1.heap.size + 1, o, none⟩ = false := fun o => slab_free hbx
            clear hS5 hbx eos hri hB5 ssz hel hm' z2 z3 z0
            go_wp2_with (at_builtin; refine Lib.wpList_append_run _ rfl _ _ _ _ rfl _ _ rfl rfl _ _ hrun ?_)
            go_wp2
            exact ⟨⟨q + 1, _, _, by omega, by go_num, HS5⟩, by simp [intOf]; omega⟩
    · obtain rfl : q = n := by omega
      obtain ⟨we, hwe⟩ : ∃ we, we = wr := ⟨_, rfl⟩
      subst hwe
      obtain ⟨pa, pc, hp', hprow, _⟩ := HS.out.own.row
      rw [plL_len] at hp'
      subst hp'
      have HS2 : Hid (CkI w w1 (w1.heap.size + 1) (.slice pa q pc) (.slice va m vc) (plL f q) es (cmpL ns f q) we ∧ RowI we pa (plL f q)) := ⟨HS.out, hprow⟩
      have B2 : Below w.heap.size w we := B1.trans (HS.out.bel.mono B1.size)
      have x2 : we.heap[w.heap.size + 1]? = some (.cells #[.slice none 0 0] 25 (0, 0)) := (HS.out.bel.block _ (by have := X1.out.2.2; omega)).trans X1.out.2.1
      have hwl : w1.heap.size + 1 < we.heap.size := slab_lt HS.out.box
      have hw3 := X1.out.2.2
      have HX2 : Hid (Below w.heap.size w we ∧ we.heap[w.heap.size + 1]? = some (.cells #[.slice none 0 0] 25 (0, 0)) ∧ we.heap[w1.heap.size + 1]? = some (.cells #[.slice va m vc] 25 (0, 0))) := ⟨B2, x2, HS.out.box⟩
      have HQ0 : Hid (OwnI (we.alloc (.cells #[] 3)) we.heap.size (.slice (some ⟨we.heap.size, 0, none⟩) 0 0) ((rs.take 0).map (mv f)) ∧ Below we.heap.size we (we.alloc (.cells #[] 3))) := ⟨by
        have := OwnI.made we we.heap.size (Nat.le_refl _)
        simpa using this, (Below.refl _ _).alloc (Nat.le_refl _) _⟩
      clear hprow HS B2 x2 z0 hlt
      go_wp2
      go_loopw [13, 14] (fun iv i wi => ∃ (k h c : Nat), k ≤ rs.length ∧ i = .int .i64 k ∧ iv = .slice (some ⟨h, 0, none⟩) k c ∧ we.heap.size ≤ h ∧ h < wi.heap.size ∧ Hid (OwnI wi we.heap.size (.slice (some ⟨h, 0, none⟩) k c) ((rs.take k).map (mv f)) ∧ Below we.heap.size we wi)) (fun _ i _ => rs.length - (intOf i).toNat)
      case atStart => exact ⟨0, _, 0, by omega, rfl, rfl, Nat.le_refl _, by simp, HQ0⟩
      case round =>
        clear HQ0
        obtain ⟨k, h, c, hkl, rfl, rfl, hh1, hh2, HQ⟩ := hrel
        have hB3 : Below w.heap.size w wr := below_step HX2.out.1 (Nat.le_refl _) HQ.out.2
        by_cases hlt : k < rs.length
        · obtain ⟨b, off, rfl, hlb, hc0⟩ := HR.out.2.1 k hlt
          have hc : wr.cell? ⟨b, off + k, none⟩ = some (.int .i64 (nthI rs k)) := (hB3.cell (p := ⟨b, off + k, none⟩) hlb).trans hc0
          have hq := HR.out.2.2.2.1 k hlt
          have hltI : (k : Int) < (rs.length : Int) := by omega
          have hlT : ((rs.take k).map (mv f)).length = k := by rw [List.length_map, List.length_take]; omega
          have hlT2 : ((rs.take (k + 1)).map (mv f)).length = k + 1 := by rw [List.length_map, List.length_take]; omega
          have HA : Hid (∀ x : Int, mv f (nthI rs k) = x → ∃ h' c' w4, (Builtin.append_ #[47, 47] 47 #[.slice (some ⟨h, 0, none⟩) k c, .slice (some ⟨wr.heap.size, 0, none⟩) 1 1]).run Try.prog (wr.alloc (.cells #[.int .i64 x] 3)) = .ok (.slice (some ⟨h', 0, none⟩) (k + 1) c') w4 ∧ we.heap.size ≤ h' ∧ h' < w4.heap.size ∧
              OwnI w4 we.heap.size (.slice (some ⟨h', 0, none⟩) (k + 1) c') ((rs.take (k + 1)).map (mv f)) ∧ Below we.heap.size we w4) := fun x hx => by
            obtain ⟨v', w4, hrun, o4, gr, _⟩ := app_I6 (.slice (some ⟨h, 0, none⟩) k c) ((rs.take k).map (mv f)) x (wr.alloc (.cells #[.int .i64 x] 3)) we.heap.size 1 (HQ.out.1.alloc _) (by rw [hlT]; omega) ⟨wr.heap.size, 0, none⟩ (slab_cell (heap_new' _ _ _ rfl)) (by have := HQ.out.2.size; simp; omega)
            have hBA : Below we.heap.size we (wr.alloc (.cells #[.int .i64 x] 3)) := HQ.out.2.alloc HQ.out.2.size _
            have hbel := own_below hBA hBA.size (HQ.out.1.alloc _) gr
            rw [← hx, ← mvTake_succ _ _ hlt] at o4
            obtain ⟨h', c', hv', p1, p2⟩ := o4.someB (by rw [hlT2]; omega)
            rw [hlT2] at hv'
            subst hv'
            exact ⟨h', c', w4, hrun, p1, p2, o4, hbel⟩
          by_cases hneg : nthI rs k < 0
          · have e1 : nthI rs k = -1 := by omega
            obtain ⟨h', c', w4, hrun, p1, p2, o4, b4⟩ := HA.out (-1) (by rw [e1]; exact mv_neg (by omega))
            have HQ2 : Hid (OwnI w4 we.heap.size (.slice (some ⟨h', 0, none⟩) (k + 1) c') ((rs.take (k + 1)).map (mv f)) ∧ Below we.heap.size we w4) := ⟨o4, b4⟩
            rw [e1] at hc
            clear o4 b4 HA hneg e1 hq hlT hlT2 hc0 HQ
            go_wp2_with (at_builtin; refine Lib.wpList_append_run _ rfl _ _ _ _ rfl _ _ rfl rfl _ _ hrun ?_)
            go_wp2
            exact ⟨⟨k + 1, h', c', by omega, by go_num, rfl, p1, p2, HQ2⟩, by simp [intOf]; omega⟩
          · obtain ⟨t, ht⟩ : ∃ t : Nat, nthI rs k = (t : Int) := ⟨(nthI rs k).toNat, by omega⟩
            have htn : t < q := by rw [HN.out] at hq; omega
            have htI : (t : Int) < (q : Int) := by omega
            obtain ⟨b3, o3, he3, hlb3, hc3⟩ := (HS2.out.2.below HQ.out.2) t (by rw [plL_len]; exact htn)
            subst he3
            rw [plL_at f htn] at hc3
            obtain ⟨h', c', w4, hrun, p1, p2, o4, b4⟩ := HA.out ((rk f t : Nat) : Int) (by rw [ht, mv_nat])
            have HQ2 : Hid (OwnI w4 we.heap.size (.slice (some ⟨h', 0, none⟩) (k + 1) c') ((rs.take (k + 1)).map (mv f)) ∧ Below we.heap.size we w4) := ⟨o4, b4⟩
            have hneg' : ¬ (t : Int) < 0 := by omega
            rw [ht] at hc
            clear o4 b4 HA hneg hq hlT hlT2 hc0 HQ ht
            generalize rk f t = rt at *
            go_wp2_with (at_builtin; refine Lib.wpList_append_run _ rfl _ _ _ _ rfl _ _ rfl rfl _ _ hrun ?_)
            go_wp2
            exact ⟨⟨k + 1, h', c', by omega, by go_num, rfl, p1, p2, HQ2⟩, by simp [intOf]; omega⟩
        · obtain rfl : k = rs.length := by omega
          have x2 : wr.heap[w.heap.size + 1]? = some (.cells #[.slice none 0 0] 25 (0, 0)) := (HQ.out.2.block _ (by omega)).trans HX2.out.2.1
          have z0 : wr.cell? ⟨w1.heap.size + 1, 0, none⟩ = some (.slice va m vc) := slab_cell ((HQ.out.2.block _ hwl).trans HX2.out.2.2)
          have c3 : wr.cell? ⟨w.heap.size + 1, 0, none⟩ = some (.slice none 0 0) := slab_cell x2
          have f3 : ∀ o, wr.frozen? ⟨w.heap.size + 1, o, none⟩ = false := fun o => slab_free x2
          have HE : Hid ((cmpL ns f ns.length).length = m ∧ RowZ (wr.setCell ⟨w.heap.size + 1, 0, none⟩ (.slice va m vc)) va (cmpL ns f ns.length) ∧ (∀ wf, (wr.setCell ⟨w.heap.size + 1, 0, none⟩ (.slice va m vc)).heap.size ≤ wf.heap.size → (∀ b, w.heap.size ≤ b → b < (wr.setCell ⟨w.heap.size + 1, 0, none⟩ (.slice va m vc)).heap.size → wf.heap[b]? = (wr.setCell ⟨w.heap.size + 1, 0, none⟩ (.slice va m vc)).heap[b]?) → RowI wf (some ⟨h, 0, none⟩) (rs.map (mv f))) ∧ Below w.heap.size w (wr.setCell ⟨w.heap.size + 1, 0, none⟩ (.slice va m vc))) := by
            have ssz : (wr.setCell ⟨w.heap.size + 1, 0, none⟩ (.slice va m vc)).heap.size = wr.heap.size := by simp [World.setCell]
            have hbf : Below w.heap.size w (wr.setCell ⟨w.heap.size + 1, 0, none⟩ (.slice va m vc)) := hB3.setCell (p := ⟨w.heap.size + 1, 0, none⟩) (by simp) _
            have hsz := HQ.out.2.size
            rw [HN.out]
            refine ⟨HM.out.1, HS2.out.1.rowZ (by rw [ssz]; exact hsz) (fun b q1 q2 => (set_other _ (by show w.heap.size + 1 ≠ b; omega)).trans (HQ.out.2.block b q2)) hbf, ?_, hbf⟩
            have hri : RowI wr (some ⟨h, 0, none⟩) (rs.map (mv f)) := by
              obtain ⟨a', c', e, r, _⟩ := HQ.out.1.row
              rw [List.take_of_length_le (Nat.le_refl _)] at r
              simp only [Value.slice.injEq] at e
              rw [← e.1] at r
              exact r
            have hrj := rowI_blk (w' := wr.setCell ⟨w.heap.size + 1, 0, none⟩ (.slice va m vc)) hri (by rw [ssz]; exact Nat.le_refl _) (set_other _ (by show w.heap.size + 1 ≠ h; omega))
            exact fun wf q1 q2 => rowI_blk hrj q1 (q2 h (by omega) (by rw [ssz]; exact hh2))
          clear HQ hlt x2 hB3 HS2 HX2
          go_wp2
          refine bodyPost_ret (v := .tuple #[.agg #[.slice va m vc], .slice (some ⟨h, 0, none⟩) rs.length c]) (by go_simp; simp [results, Try.results75, go_sem, c3]) rfl ⟨va, vc, _, c, by rw [HE.out.1], HE.out.2.1, HE.out.2.2.1, HE.out.2.2.2⟩
end Go.Proofs.Ythflalpapdaidaa
