/- Rows copied, each into memory of its own (stage 13). -/
import Derived.Test.YtmcjgncpblbhpaaSbB
namespace Go.Proofs.Ytmcjgncpblbhpaa
open Go.RowKit

set_option maxRecDepth 100000 in
theorem cloneR2 (b0 o0 cap n : Nat) (rs : Rs) (k : Cel) (w : World) (hn : rs.length = n) (hN : n ≤ 4096) (hc : ∀ x, x < n → w.cell? ⟨b0, o0 + x, none⟩ = some (k.v x)) (hlt : b0 < w.heap.size) :
    Calls Try.prog 72 #[.slice (some ⟨b0, o0, none⟩) n cap] w fun e w' => ∃ g c, e = .returned (.slice (some ⟨g, 0, none⟩) n c) ∧ w.heap.size ≤ g ∧ (Dat w' g c k (List.range n) ∧ n ≤ c ∧ c ≤ maxLen) ∧ Below w.heap.size w w' := by
  obtain ⟨i0, hi1, hz0, hz1, hz2⟩ := info_parts infoR
  have B0 : Below w.heap.size w (w.alloc (.cells #[] 28)) := (Below.refl _ _).alloc (Nat.le_refl _) _
  have O0 : (w.alloc (.cells #[] 28)).ownsRow w.heap.size 28 1 (.slice (some ⟨w.heap.size, 0, none⟩) 0 0) 0 [] := ⟨rfl, .inr ⟨w.heap.size, 0, #[], rfl, Nat.le_refl _, heap_alloc_new w _, by simp, by simp, by simp, by simp⟩⟩
  obtain ⟨v', w', h1, h2, h3, h4⟩ := run_append_own (P := Try.prog) (w.alloc (.cells #[] 28)) w.heap.size 23 23 28 i0 _ 1 24 Try.underlying23 hi1 hz0 hz1 hz2 rfl (by decide) _ 0 [] O0 ⟨b0, o0, none⟩ n cap ((List.range n).map k.v) (by simp) (fun j u hj => by
    rw [List.getElem?_map] at hj
    obtain ⟨x, hx, rfl⟩ := Option.map_eq_some_iff.1 hj
    have hjn : j < n := by have := (List.getElem?_eq_some_iff.1 hx).1; simpa using this
    rw [List.getElem?_range hjn] at hx
    cases hx
    rw [add_plain, B0.cell (p := ⟨b0, o0 + j, none⟩) hlt]
    exact hc j hjn) (by intro u hu; obtain ⟨x, _, rfl⟩ := List.mem_map.1 hu; rfl) (by unfold maxLen; omega) (by omega) B0.size
  have HO : Hid (∃ g c, v' = .slice (some ⟨g, 0, none⟩) n c ∧ w.heap.size ≤ g ∧ (Dat w' g c k (List.range n) ∧ n ≤ c ∧ c ≤ maxLen) ∧ Below w.heap.size w w') := by
    obtain ⟨q1, q2⟩ := h2
    have hB : Below w.heap.size w w' := B0.grown h3 B0.size (fun k e => by simp [Value.ownBlock] at e; omega)
    rcases q2 with ⟨e, _⟩ | ⟨g, c, cur, e, hg, hh, hcap, hmx, hs, ht⟩
    · exact absurd (h4.1 e).1 (by simp)
    · refine ⟨g, c, by rw [e]; simp, hg, ⟨⟨cur, hh, by simpa using hs, by simp; omega, fun i hi => ?_⟩, by omega, hmx⟩, hB⟩
      rw [List.length_range] at hi
      have h9 : ((List.range n).map k.v)[i]? = some (k.v i) := by rw [List.getElem?_map, List.getElem?_range hi]; rfl
      rw [List.nil_append] at ht
      rw [← ht, List.getElem?_take] at h9
      rw [nthN_get (by simpa using hi)]
      split at h9
      · rw [← Array.getElem?_toList]; simpa using h9
      · cases h9
  have h1' : Sem.run Try.prog (Builtin.append_ #[23, 23] 23 #[.slice (some ⟨w.heap.size, 0, none⟩) 0 0, .slice (some ⟨b0, o0, none⟩) n cap]) (w.alloc (.cells #[] 28)) = .ok v' w' := h1
  clear h1 h2 h3 h4 O0 B0 hc hi1 hz0 hz1 hz2 hn
  have hq : ∀ W, (binOp .eql 23 (.slice (some ⟨b0, o0, none⟩) n cap) (.slice none 0 0)).run Try.prog W = .ok (.bool false) W := fun W => by
    simp only [binOp]
    simp [run_equal_slice_nil W 23 28 _ n cap Try.underlying23]
  go_enter Try.func72, Try.ntmps72
  go_wp2_with (at_builtin; refine Lib.wpList_append_run _ rfl _ _ _ _ rfl _ _ rfl rfl _ _ h1' ?_)
  go_ret
  obtain ⟨g, c, rfl, r⟩ := HO.out
  exact ⟨g, c, rfl, r⟩

set_option maxRecDepth 100000 in
theorem cloneV_any (b o cap : Nat) (vs : List V3) (w : World) (h : RowV w (some ⟨b, o, none⟩) vs) (hl : vs.length ≤ 4096) :
    Calls Try.prog 77 #[.slice (some ⟨b, o, none⟩) vs.length cap] w fun e w' => ∃ u, e = .returned u ∧ OwnV w' w.heap.size u vs ∧ Below w.heap.size w w' := by
  have B0 : Below w.heap.size w (w.alloc (.cells #[] 39)) := (Below.refl _ _).alloc (Nat.le_refl _) _
  have O0 : OwnV (w.alloc (.cells #[] 39)) w.heap.size (.slice (some ⟨w.heap.size, 0, none⟩) 0 0) [] := OwnV.empty (Nat.le_refl _)
  obtain ⟨v1, w1, r1, O1, g1⟩ := app_V _ [] vs _ w.heap.size b o cap O0 (by simp; omega) (h.below B0) B0.size
  have B1 := own_grown B0 B0.size O0 g1
  rw [List.nil_append] at O1
  have HF : Hid (OwnV w1 w.heap.size v1 vs ∧ Below w.heap.size w w1) := ⟨O1, B1⟩
  clear O0 O1 g1 B0 B1 h
  generalize vs.length = n at *
  have hq : ∀ W, (binOp .eql 28 (.slice (some ⟨b, o, none⟩) n cap) (.slice none 0 0)).run Try.prog W = .ok (.bool false) W := fun W => by
    simp only [binOp]
    simp [run_equal_slice_nil W 28 39 _ n cap Try.underlying28]
  go_enter Try.func77, Try.ntmps77
  go_wp2_with (at_builtin; refine Lib.wpList_append_run _ rfl _ _ _ _ rfl _ _ rfl rfl _ _ r1 ?_)
  go_ret
  exact ⟨_, rfl, HF.out.1, HF.out.2⟩
/-- A row put into the place behind those that were made. -/
theorem BldR.set {w : World} {B hi hi' g cap n : Nat} {u : Value} {rs : Rs} {vs : List V3} (h : BldR w B hi (.slice (some ⟨g, 0, none⟩) n cap) rs) (hn : rs.length = n) (hc : n < cap) (hu : OwnV w hi' u vs) (hh : hi ≤ hi') (hBh : B ≤ hi') :
    BldR (w.setCell ⟨g, n, none⟩ u) B (w.setCell ⟨g, n, none⟩ u).heap.size (.slice (some ⟨g, 0, none⟩) (n + 1) cap) (rs ++ [vs]) := by
  subst hn
  obtain ⟨xs, gs, ns, cs, ax, ho, hr, hd⟩ := h
  obtain ⟨a, cp, rfl, hs⟩ := hu.slab
  obtain ⟨hx, ho2⟩ := ho
  have hx' : xs.length = rs.length := by omega
  rcases ho2 with ⟨h0, _⟩ | ⟨g', cap', cur, e, hg, hhp, hcp, hmx, hsz, htk⟩
  · simp at h0
  simp only [Value.slice.injEq, Option.some.injEq, Addr.mk.injEq] at e
  obtain ⟨⟨rfl, _⟩, _, rfl⟩ := e
  have hwh : (w.setCell ⟨g, rs.length, none⟩ (.slice a vs.length cp)).heap[g]? = some (.cells (cur.setIfInBounds rs.length (.slice a vs.length cp)) 28 (0, 0)) := slab_set hhp _
  have kp : ∀ g2 n2 us m2, SlabK w g2 n2 us m2 → SlabK (w.setCell ⟨g, rs.length, none⟩ (.slice a vs.length cp)) g2 n2 us m2 := fun g2 n2 us m2 hS => hS.set _ (fun e => by
    have e' : g = g2 := e
    obtain ⟨cu, hq, _⟩ := hS
    rw [← e', hhp] at hq
    simp at hq)
  have hsz' : cur.size = cap := by simpa using hsz
  refine ⟨xs ++ [.slice a vs.length cp], fun i => if i = rs.length then (match a with | some p => p.block | none => 0) else gs i, fun i => if i = rs.length then cp else ns i, fun i => if i = rs.length then cp else cs i, fun i => if i = rs.length then a else ax i, ⟨?_, .inr ⟨g, cap, _, ?_, hg, hwh, ?_, hmx, ?_, ?_⟩⟩, fun i hi => ?_, fun i j hij hj p1 p2 => ?_, fun i hi h0 => ?_⟩
  · simp; omega
  · simp
  · simp; omega
  · simpa using hsz
  · rw [List.length_append, List.length_singleton, Array.toList_setIfInBounds, Nat.mul_one, List.take_add_one, List.take_set_of_le (Nat.le_refl _)]
    rw [Nat.mul_one] at htk
    rw [htk, List.getElem?_set_self (by have : cur.toList.length = cur.size := Array.length_toList; omega)]
    rfl
  · rw [List.length_append, List.length_singleton] at hi
    by_cases e : i = rs.length
    · subst e
      rw [nthR_last]
      refine ⟨?_, fun h0 => ?_⟩
      · rw [List.getElem?_append_right (by omega), hx']; simp
      · obtain ⟨g2, rfl, q1, q2, q3⟩ := hs h0
        have := kp _ _ _ _ q3
        refine ⟨by simp, by simp; omega, by simp only [if_pos]; exact this.lt, by simp; exact q2, by simp; exact this⟩
    · have hi' : i < rs.length := by omega
      rw [nthR_left hi']
      obtain ⟨q0, q⟩ := hr i hi'
      refine ⟨?_, fun h0 => ?_⟩
      · rw [List.getElem?_append_left (by omega)]; simp [e]; exact q0
      · obtain ⟨q1, q2, q3, q4, q5⟩ := q h0
        have := kp _ _ _ _ q5
        refine ⟨by simp [e]; exact q1, by simp [e]; exact q2, by simp only [if_neg e]; exact this.lt, by simp [e]; exact q4, by simp [e]; exact this⟩
  · rw [List.length_append, List.length_singleton] at hj
    have hi' : i < rs.length := by omega
    rw [nthR_left hi'] at p1
    have qi := (hr i hi').2 p1
    by_cases e : j = rs.length
    · subst e
      rw [nthR_last] at p2
      obtain ⟨g2, rfl, q1, _⟩ := hs p2
      simp only [if_neg (show ¬ i = rs.length by omega), if_pos]
      have := qi.2.2.1
      omega
    · rw [nthR_left (by omega)] at p2
      simp only [if_neg (show ¬ i = rs.length by omega), if_neg e]
      exact hd.1 i j hij (by omega) p1 p2
  · rw [List.length_append, List.length_singleton] at hi
    by_cases e : i = rs.length
    · subst e
      rw [nthR_last] at h0 ⊢
      obtain ⟨g2, rfl, q1, q2, q3⟩ := hs h0
      simp only [if_pos]
      exact q2
    · have hi' : i < rs.length := by omega
      rw [nthR_left hi'] at h0 ⊢
      simp only [if_neg e]
      exact hd.2 i hi' h0
theorem Dat.bld {w : World} {B g c hi : Nat} {k : Cel} {zs : List Nat} (h : Dat w g c k zs) (hg : B ≤ g) (hm : c ≤ maxLen) : BldR w B hi (.slice (some ⟨g, 0, none⟩) 0 c) [] := by
  obtain ⟨cur, hh, hs, _⟩ := h
  exact ⟨[], fun _ => 0, fun _ => 0, fun _ => 0, fun _ => none, ⟨rfl, .inr ⟨g, c, cur, rfl, hg, hh, by simp, hm, by simpa using hs, by simp⟩⟩, fun i hi => by simp at hi, fun i j _ hj => by simp at hj, fun i hi => by simp at hi⟩
theorem taken {rs : Rs} {i : Nat} (h : i < rs.length) : rs.take (i + 1) = rs.take i ++ [nthR rs i] := by
  rw [List.take_add_one, List.getElem?_eq_getElem h, nthR_get h]
  rfl
/-- Block g has from q on, below n, the rows that k names. -/
def RemD (w : World) (g n q : Nat) (k : Cel) : Prop := ∃ cur : Array Value, w.heap[g]? = some (.cells cur 28 (0, 0)) ∧ n ≤ cur.size ∧ ∀ x, q ≤ x → x < n → cur[x]? = some (k.v x)
theorem RemD.lt {w : World} {g n q : Nat} {k : Cel} (h : RemD w g n q k) : g < w.heap.size := by
  obtain ⟨cur, hh, _⟩ := h
  exact slab_lt hh
theorem RemD.below {w w' : World} {g n q : Nat} {k : Cel} (h : RemD w g n q k) (hb : Below w.heap.size w w') : RemD w' g n q k := by
  have hl := h.lt
  obtain ⟨cur, hh, r⟩ := h
  exact ⟨cur, (hb.block g hl).trans hh, r⟩
theorem RemD.cell {w : World} {g n q x : Nat} {k : Cel} (h : RemD w g n q k) (h1 : q ≤ x) (h2 : x < n) : w.cell? ⟨g, x, none⟩ = some (k.v x) := by
  obtain ⟨cur, hh, _, r⟩ := h
  rw [slab_cell hh]
  exact r x h1 h2
theorem RemD.free {w : World} {g n q : Nat} {k : Cel} (h : RemD w g n q k) (o : Nat) : w.frozen? ⟨g, o, none⟩ = false := by
  obtain ⟨cur, hh, _⟩ := h
  exact slab_free hh
theorem RemD.set {w : World} {g n q : Nat} {k : Cel} (h : RemD w g n q k) (u : Value) : RemD (w.setCell ⟨g, q, none⟩ u) g n (q + 1) k := by
  obtain ⟨cur, hh, hs, r⟩ := h
  refine ⟨_, slab_set hh u, by simpa using hs, fun x h1 h2 => ?_⟩
  rw [Array.getElem?_setIfInBounds_ne (by omega)]
  exact r x (by omega) h2
theorem Dat.rem {w : World} {g c n : Nat} {k : Cel} (h : Dat w g c k (List.range n)) (hn : n ≤ c) : RemD w g n 0 k := by
  obtain ⟨cur, hh, hs, _, hc⟩ := h
  refine ⟨cur, hh, by omega, fun x _ hx => ?_⟩
  have := hc x (by simpa using hx)
  rw [nthN_get (by simpa using hx), List.getElem_range] at this
  exact this
set_option maxRecDepth 100000 in
set_option maxHeartbeats 8000000 in
theorem copyRows_any (b0 o0 cap : Nat) (rs : Rs) (k : Cel) (w : World) (hk : CelR w k rs) (hN : rs.length ≤ 4096) (hl : ∀ i, i < rs.length → (nthR rs i).length ≤ 4096) (hc : ∀ x, x < rs.length → w.cell? ⟨b0, o0 + x, none⟩ = some (k.v x)) (hlt : b0 < w.heap.size) :
    Calls Try.prog 47 #[.slice (some ⟨b0, o0, none⟩) rs.length cap] w fun e w' => ∃ v, e = .returned v ∧ BldR w' w.heap.size w'.heap.size v rs ∧ Below w.heap.size w w' := by
  have C1 := cloneR2 b0 o0 cap rs.length rs k w rfl hN hc hlt
  have HK : Hid (CelR w k rs) := hk
  have HL : Hid (∀ i, i < rs.length → (nthR rs i).length ≤ 4096) := hl
  have HLT := hk.lt
  have HLT' : Hid (∀ x, x < rs.length → ∀ b o, k.a x = some ⟨b, o, none⟩ → 0 < (nthR rs x).length → b < w.heap.size) := HLT
  clear hk hl hc HLT
  obtain ⟨n, hn⟩ : ∃ n, rs.length = n := ⟨_, rfl⟩
  have HN : Hid (rs.length = n) := hn
  rw [hn] at C1 hN ⊢
  clear hn
  go_enter Try.func47, Try.ntmps47
  go_wp2_with fail
  refine C1.mono ?_
  rintro e w1 ⟨g, c, rfl, hg, ⟨hD, hnc, hcm⟩, b1⟩
  have HD : Hid (Dat w1 g c k (List.range n) ∧ BldR w1 w.heap.size w1.heap.size (.slice (some ⟨g, 0, none⟩) 0 c) (rs.take 0)) := ⟨hD, hD.bld hg hcm⟩
  clear C1 hD
  go_wp2
  go_loopw [10] (fun i wr => ∃ q : Nat, q ≤ n ∧ i = .int .i64 q ∧ Hid (BldR wr w.heap.size wr.heap.size (.slice (some ⟨g, 0, none⟩) q c) (rs.take q) ∧ RemD wr g n q k) ∧ Below w.heap.size w wr) (fun i _ => n - (intOf i).toNat)
  case atStart => exact ⟨0, by omega, rfl, ⟨HD.out.2, HD.out.1.rem hnc⟩, b1⟩
  case round =>
    clear HD
    obtain ⟨q, hq, rfl, HW, hbl⟩ := hrel
    by_cases hqn : q < n
    · have hqI : (q : Int) < (n : Int) := by omega
      have hql : q < rs.length := by rw [HN.out]; exact hqn
      have cq := HW.out.2.cell (Nat.le_refl _) hqn
      obtain ⟨e1, p1, o1, f1, _⟩ := HK.out q hql
      have r1 : RowV wr (some ⟨p1, o1, none⟩) (nthR rs q) := ((HK.out.below hbl) q hql).2 |> fun ⟨b, o, e, r⟩ => by rw [f1] at e; cases e; exact r
      have CV := cloneV_any p1 o1 (k.c q) (nthR rs q) wr r1 (HL.out q hql)
      rw [Cel.v, f1, e1] at cq
      have HS : Hid (∀ w2 u, Below wr.heap.size wr w2 → OwnV w2 wr.heap.size u (nthR rs q) → BldR (w2.setCell ⟨g, q, none⟩ u) w.heap.size (w2.setCell ⟨g, q, none⟩ u).heap.size (.slice (some ⟨g, 0, none⟩) (q + 1) c) (rs.take (q + 1))) := fun w2 u hb hu => by
        rw [taken hql]
        exact (HW.out.1.below hb).set (by rw [List.length_take]; omega) (by omega) hu (Nat.le_refl _) hbl.size
      have HO : Hid (∀ w2 u, Below wr.heap.size wr w2 → RemD (w2.setCell ⟨g, q, none⟩ u) g n (q + 1) k ∧ Below w.heap.size w (w2.setCell ⟨g, q, none⟩ u)) := fun w2 u hb => ⟨(HW.out.2.below hb).set u, (below_step hbl (Nat.le_refl _) hb).setCell (p := ⟨g, q, none⟩) hg _⟩
      have HF : Hid (∀ w2, Below wr.heap.size wr w2 → w2.cell? ⟨g, q, none⟩ = some (.slice (some ⟨p1, o1, none⟩) (nthR rs q).length (k.c q)) ∧ w2.frozen? ⟨g, q, none⟩ = false) := fun w2 hb => ⟨(hb.cell (p := ⟨g, q, none⟩) HW.out.2.lt).trans cq, (HW.out.2.below hb).free q⟩
      clear r1 HW hbl
      generalize (nthR rs q).length = m at *
      go_wp2_with fail
      refine CV.mono ?_
      rintro e w2 ⟨u, rfl, hu, b2⟩
      have H1 : Hid (BldR (w2.setCell ⟨g, q, none⟩ u) w.heap.size (w2.setCell ⟨g, q, none⟩ u).heap.size (.slice (some ⟨g, 0, none⟩) (q + 1) c) (rs.take (q + 1))) := HS.out w2 u b2 hu
      have H2 := HO.out w2 u b2
      have H2' : Hid _ := H2
      obtain ⟨cg, fgz⟩ := HF.out w2 b2
      obtain ⟨ua, un, uc, rfl⟩ := OwnV.shape hu
      clear CV HS HO HF cq hu b2 H2
      go_wp2
      go_roundw
      case rel => exact ⟨q + 1, by omega, by go_num, ⟨H1.out, H2'.out.1⟩, H2'.out.2⟩
      case measure => simp [intOf]; omega
    · obtain rfl : q = n := by omega
      have HE : Hid (BldR wr w.heap.size wr.heap.size (.slice (some ⟨g, 0, none⟩) q c) rs) := by
        have := HW.out.1
        rw [List.take_of_length_le (by rw [HN.out]; omega)] at this
        exact this
      clear HW
      go_wp2
      go_ret
      exact ⟨_, rfl, HE.out, hbl⟩
set_option maxRecDepth 100000 in
theorem copyRows_nil (w : World) : Calls Try.prog 47 #[.slice none 0 0] w fun e w' => e = .returned (.slice none 0 0) ∧ w' = w := by
  have hq : ∀ W, (binOp .eql 23 (.slice none 0 0) (.slice none 0 0)).run Try.prog W = .ok (.bool true) W := fun W => by
    simp only [binOp]
    simp [run_equal_slice_nil W 23 28 _ 0 0 Try.underlying23]
  have C : Calls Try.prog 72 #[.slice none 0 0] w fun e w' => e = .returned (.slice none 0 0) ∧ w' = w := by
    go_enter Try.func72, Try.ntmps72
    go_wp2
    go_ret
    exact ⟨rfl, rfl⟩
  clear hq
  go_enter Try.func47, Try.ntmps47
  go_wp2_with fail
  refine C.mono ?_
  rintro e w1 ⟨rfl, hq⟩
  obtain rfl := hq.symm
  clear C
  go_wp2
  go_loop [10] (fun i => i = .int .i64 0) (fun _ => 0)
  case atStart => rfl
  case round =>
    subst hrel
    go_wp2
    go_ret
    exact ⟨rfl, rfl⟩
end Go.Proofs.Ytmcjgncpblbhpaa
