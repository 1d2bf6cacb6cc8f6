/- spec's WidenRow (stage 11). -/
import Derived.Test.YtffjnhhfplcloaaGreatDoorWdC
namespace Go.Proofs.YtffjnhhfplcloaaGreatDoor
open Go.RowKit

theorem OwnV.made (w : World) (B : Nat) (hB : B ≤ w.heap.size) : OwnV (w.alloc (.cells #[] 46)) B (.slice (some ⟨w.heap.size, 0, none⟩) 0 0) [] :=
  ⟨rfl, .inr ⟨w.heap.size, 0, #[], rfl, hB, heap_new' _ _ _ rfl, Nat.le_refl _, by unfold maxLen; omega, rfl, rfl⟩⟩
theorem RetW.none {tb : Bool} {cs : List TC} {vs : List V3} {v : V3} {w w1 : World} {c : Int} (hc : wCode tb cs vs v = c) (h : c ≠ 0) (hb : Below w.heap.size w w1) : RetW tb cs vs v w (.returned (.tuple #[.slice (some ⟨w1.heap.size, 0, none⟩) 0 0, .int .i64 c])) (w1.alloc (.cells #[] 46)) := by
  refine ⟨_, by rw [hc], ?_, hb.alloc hb.size _⟩
  have : wRow tb cs vs v = [] := if_neg (by rw [hc]; exact h)
  rw [this]
  exact OwnV.made _ _ hb.size
theorem step_append_run {ops : Array Oper} {o : Oper} {a : Act} {w : World} {K : Act → World → Prop} {Q : Exit → Act → World → Prop} {E : Prop} (hgd : o.guard = none) (s x : Operand) (t tn : TypeId)
    (ho : o.op = .call { callee := .builtin .append, args := #[s, x], argTypes := #[t, tn] }) (vs vx : Value) (hs : a.eval s = vs) (hx : a.eval x = vx)
    (v' : Value) (w' : World) (hr : (Builtin.append_ #[t, tn] o.type #[vs, vx]).run Tryz.prog w = .ok v' w') (h : K (a.put o.dst v') w') :
    if Region.wanted o (yielded ops a.tmps) = true then Oper.wp Tryz.prog o a w K Q else E := by
  have hw : Region.wanted o (yielded ops a.tmps) = true := by simp [Region.wanted, hgd]
  rw [if_pos hw]
  exact Lib.wp_append_run w s x t tn ho vs vx hs hx v' w' hr h
set_option maxRecDepth 100000 in
set_option maxHeartbeats 4000000 in
theorem specWiden_any (nm : ByteArray) (ca : Option Addr) (cc : Nat) (cs : List TC) (key : Int) (xv : Value) (g : Nat) (vs : List V3) (k n : Int) (t : ByteArray) (tb : Bool) (w : World) (hC : RowC w ca cs) (hV : RowV w (some ⟨g, 0, none⟩) vs) (lc : cs.length ≤ 1048576) (lv : vs.length ≤ 1048576) (hT : TabAns 75 w (TbA4 nm (.slice ca cs.length cc) key xv) tb) (htb : tb = true → 0 < cs.length) (ht : t.size ≤ maxLen) :
    Calls Tryz.prog 49 #[TbA4 nm (.slice ca cs.length cc) key xv, .slice (some ⟨g, 0, none⟩) vs.length vs.length, VV k n t] w (RetW tb cs vs (k, n, t) w) := by
  obtain ⟨W0, hW0⟩ : ∃ W0, (w.alloc (.cells #[.string nm, .slice ca cs.length cc, .int .i64 key, xv] 26)).alloc (.cells #[.int .i64 k, .int .i64 n, .string t] 46) = W0 := ⟨_, rfl⟩
  have B0 : Below w.heap.size w W0 := hW0 ▸ ((Below.refl _ _).alloc (Nat.le_refl _) _).alloc (Nat.le_of_lt (by simp)) _
  have XB : Hid (W0.heap[w.heap.size]? = some (.cells #[.string nm, .slice ca cs.length cc, .int .i64 key, xv] 26 (0, 0)) ∧ W0.heap[w.heap.size + 1]? = some (.cells #[.int .i64 k, .int .i64 n, .string t] 46 (0, 0))) := ⟨(hW0 ▸ (heap_old _ _ _ (by simp)).trans (heap_new' _ _ _ rfl) : W0.heap[w.heap.size]? = _), (hW0 ▸ heap_new' _ _ _ (by simp) : W0.heap[w.heap.size + 1]? = _)⟩
  have q0 : W0.cell? ⟨w.heap.size, 0, none⟩ = some (.string nm) := slab_cell XB.out.1
  have q1 : W0.cell? ⟨w.heap.size, 1, none⟩ = some (.slice ca cs.length cc) := slab_cell XB.out.1
  have q2 : W0.cell? ⟨w.heap.size, 2, none⟩ = some (.int .i64 key) := slab_cell XB.out.1
  have q3 : W0.cell? ⟨w.heap.size, 3, none⟩ = some xv := slab_cell XB.out.1
  have HC := specCheckRow_any nm ca cc cs key xv (some ⟨g, 0, none⟩) vs.length vs tb W0 (hC.below B0) (hV.below B0) lc lv (fun w1 b => hT w1 (B0.trans (b.mono B0.size)))
  have HV : Hid (∀ w1, Below w.heap.size w w1 → RowV w1 (some ⟨g, 0, none⟩) vs) := fun w1 b => hV.below b
  have HZ : Hid ((crow tb cs vs).1 = 0 → 0 < vs.length ∧ vs.length ≤ 8) := fun h => by
    obtain ⟨h1, h2, h3⟩ := crow_zero h
    have := htb h1
    exact ⟨by omega, okRow_len h2⟩
  have HW : Hid (wCode tb cs vs (k, n, t) = if (crow tb cs vs).1 ≠ 0 then (crow tb cs vs).1 else if vs.length = 8 then 7 else if okV k n t = true then 0 else 1) := rfl
  have HL : Hid (4096 < vs.length → (crow tb cs vs).1 = 2) := fun h => by unfold crow; rw [if_pos h]
  have HT2 : Hid (t.size ≤ maxLen) := ht
  have HD : Hid (wCode tb cs vs (k, n, t) = 0 → wRow tb cs vs (k, n, t) = vs ++ [(k, n, t)]) := fun h => if_pos h
  clear hC hV hT htb ht
  obtain ⟨m, hm⟩ : ∃ m, vs.length = m := ⟨_, rfl⟩
  have HM : Hid (vs.length = m) := hm
  rw [hm] at HC HZ HW HL lv ⊢
  clear hm
  by_cases hl : 4096 < m
  · have HQ : Hid (wCode tb cs vs (k, n, t) = 2) := by show _ = _; rw [HW.out, HL.out hl]; rfl
    have hlI : (4096 : Int) < (m : Int) := by omega
    go_enter Tryz.func49, Tryz.ntmps49
    go_wp2
    go_ret2
    exact RetW.none HQ.out (by decide) B0
  have hlI : ¬ (4096 : Int) < (m : Int) := by omega
  clear HL
  go_enter Tryz.func49, Tryz.ntmps49
  go_wp2_with fail
  refine HC.mono ?_
  rintro e w2 ⟨rfl, b2⟩
  have B2 := B0.trans (b2.mono B0.size)
  clear HC q0 q1 q2 q3
  by_cases hq : (crow tb cs vs).1 = 0
  · obtain ⟨m0, m8⟩ := HZ.out hq
    have HW2 : Hid (wCode tb cs vs (k, n, t) = if m = 8 then 7 else if okV k n t = true then 0 else 1) := by show _ = _; rw [HW.out, if_neg (by rw [hq]; simp)]
    rw [hq]
    generalize (crow tb cs vs).2 = q2
    have xb : w2.heap[w.heap.size + 1]? = some (.cells #[.int .i64 k, .int .i64 n, .string t] 46 (0, 0)) := (b2.block _ (slab_lt XB.out.2)).trans XB.out.2
    have y0 : w2.cell? ⟨w.heap.size + 1, 0, none⟩ = some (.int .i64 k) := slab_cell xb
    have y1 : w2.cell? ⟨w.heap.size + 1, 1, none⟩ = some (.int .i64 n) := slab_cell xb
    have y2 : w2.cell? ⟨w.heap.size + 1, 2, none⟩ = some (.string t) := slab_cell xb
    have HX : Hid (w2.heap[w.heap.size + 1]? = some (.cells #[.int .i64 k, .int .i64 n, .string t] 46 (0, 0))) := xb
    clear xb b2 B0 XB hW0 hq HW HZ
    by_cases h8 : m = 8
    · subst h8
      have HQ : Hid (wCode tb cs vs (k, n, t) = 7) := HW2.out
      go_wp2
      go_ret2
      exact RetW.none HQ.out (by decide) B2
    have HW3 : Hid (wCode tb cs vs (k, n, t) = if okV k n t = true then 0 else 1) := by show _ = _; rw [HW2.out, if_neg h8]
    have h8I : ¬ (m : Int) = 8 := by omega
    clear HW2
    go_wp2_with fail
    refine (specValueOK_any k n t w2).mono ?_
    rintro e w3 ⟨rfl, b3⟩
    have B3 := B2.trans (b3.mono B2.size)
    have xb : w3.heap[w.heap.size + 1]? = some (.cells #[.int .i64 k, .int .i64 n, .string t] 46 (0, 0)) := (b3.block _ (slab_lt HX.out)).trans HX.out
    clear y0 y1 y2
    have y0 : w3.cell? ⟨w.heap.size + 1, 0, none⟩ = some (.int .i64 k) := slab_cell xb
    have y1 : w3.cell? ⟨w.heap.size + 1, 1, none⟩ = some (.int .i64 n) := slab_cell xb
    have y2 : w3.cell? ⟨w.heap.size + 1, 2, none⟩ = some (.string t) := slab_cell xb
    have ys : w.heap.size + 1 < w3.heap.size := slab_lt xb
    clear xb HX b3 B2
    generalize hok : okV k n t = ov at *
    cases ov with
    | false =>
      have HQ : Hid (wCode tb cs vs (k, n, t) = 1) := HW3.out
      go_wp2
      go_ret2
      exact RetW.none HQ.out (by decide) B3
    | true =>
      have HQ : Hid (wCode tb cs vs (k, n, t) = 0) := HW3.out
      clear HW3 hok
      have row1 : ∀ (W : World) (h : Nat), h < W.heap.size → W.heap[h]? = some (.cells #[.int .i64 k, .int .i64 n, .string t] 46 (0, 0)) → RowV W (some ⟨h, 0, none⟩) [(k, n, t)] := fun W h hl e i hi => by
        obtain rfl : i = 0 := by simpa using hi
        exact ⟨h, 0, rfl, hl, ⟨slab_cell e, slab_cell e, slab_cell e⟩, HT2.out⟩
      have app1 : ∀ (W : World) (s : Value), Below w.heap.size w W → OwnV W w.heap.size s [] → ∃ v' W', (Builtin.append_ #[32, 32] 32 #[s, .slice (some ⟨g, 0, none⟩) m m]).run Tryz.prog W = .ok v' W' ∧ OwnV W' w.heap.size v' vs ∧ Below w.heap.size w W' ∧ W.grownBy W' s.ownBlock := fun W s bW oW => by
        obtain ⟨v', W', h1, h2, h3⟩ := app_V s [] vs W w.heap.size g 0 m oW (by rw [HM.out]; simp; omega) (HV.out W bW) bW.size
        rw [HM.out] at h1
        exact ⟨v', W', h1, h2, grownV bW bW.size oW h3, h3⟩
      have app2 : ∀ (W : World) (s : Value) (h : Nat), Below w.heap.size w W → OwnV W w.heap.size s vs → RowV W (some ⟨h, 0, none⟩) [(k, n, t)] → ∃ v' W', (Builtin.append_ #[32, 32] 32 #[s, .slice (some ⟨h, 0, none⟩) 1 1]).run Tryz.prog W = .ok v' W' ∧ OwnV W' w.heap.size v' (vs ++ [(k, n, t)]) ∧ Below w.heap.size w W' := fun W s h bW oW rW => by
        obtain ⟨v', W', h1, h2, h3⟩ := app_V s vs [(k, n, t)] W w.heap.size h 0 1 oW (by rw [HM.out]; simp; omega) rW bW.size
        exact ⟨v', W', h1, h2, grownV bW bW.size oW h3⟩
      have fr : ∀ (W : World) (o : Obj), Below W.heap.size W (W.alloc o) := fun W o => (Below.refl _ _).alloc (Nat.le_refl _) _
      have BE : Below w.heap.size w (w3.alloc (.cells #[] 46)).drew := (B3.alloc B3.size _).drew
      have BEV : Below w.heap.size w ((w3.alloc (.cells #[] 46)).alloc (.cells #[.int .i64 k, .int .i64 n, .string t] 46)).drew := ((B3.alloc B3.size _).alloc (B3.alloc B3.size _).size _).drew
      have BVE : Below w.heap.size w ((w3.alloc (.cells #[.int .i64 k, .int .i64 n, .string t] 46)).alloc (.cells #[] 46)).drew := ((B3.alloc B3.size _).alloc (B3.alloc B3.size _).size _).drew
      have OE : OwnV (w3.alloc (.cells #[] 46)) w.heap.size (.slice (some ⟨w3.heap.size, 0, none⟩) 0 0) [] := OwnV.made w3 _ B3.size
      have OVE : OwnV ((w3.alloc (.cells #[.int .i64 k, .int .i64 n, .string t] 46)).alloc (.cells #[] 46)) w.heap.size (.slice (some ⟨w3.heap.size + 1, 0, none⟩) 0 0) [] := by
        have := OwnV.made (w3.alloc (.cells #[.int .i64 k, .int .i64 n, .string t] 46)) w.heap.size (B3.alloc B3.size _).size
        simpa using this
      obtain ⟨v1, w4, r1, o1, b1, g1⟩ := app1 _ _ BE (OE.below (Below.refl _ _).drew)
      have e1 : w4.heap[w.heap.size + 1]? = w3.heap[w.heap.size + 1]? := (g1.block _ (by simp; omega) (fun h => by simp [Value.ownBlock] at h; omega)).trans (heap_old w3 _ _ ys)
      have z0 : w4.cell? ⟨w.heap.size + 1, 0, none⟩ = some (.int .i64 k) := (World.cell?_of_block (w := w3) e1).trans y0
      have z1 : w4.cell? ⟨w.heap.size + 1, 1, none⟩ = some (.int .i64 n) := (World.cell?_of_block (w := w3) e1).trans y1
      have z2 : w4.cell? ⟨w.heap.size + 1, 2, none⟩ = some (.string t) := (World.cell?_of_block (w := w3) e1).trans y2
      obtain ⟨v2, w5, r2, o2, b2⟩ := app2 (w4.alloc (.cells #[.int .i64 k, .int .i64 n, .string t] 46)) v1 w4.heap.size (b1.alloc b1.size _) (o1.below (fr _ _)) (row1 _ _ (by simp) (heap_new' _ _ _ rfl))
      obtain ⟨v3, w6, r3, o3, b3, g3⟩ := app1 _ _ BEV ((OE.below (fr _ _)).below (Below.refl _ _).drew)
      have e3 : ((w3.alloc (.cells #[] 46)).alloc (.cells #[.int .i64 k, .int .i64 n, .string t] 46)).drew.heap[w3.heap.size + 1]? = some (.cells #[.int .i64 k, .int .i64 n, .string t] 46 (0, 0)) := heap_new' _ _ _ (by simp)
      have e3' : w6.heap[w3.heap.size + 1]? = some (.cells #[.int .i64 k, .int .i64 n, .string t] 46 (0, 0)) := (g3.block _ (slab_lt e3) (fun h => by simp [Value.ownBlock] at h)).trans e3
      obtain ⟨v4, w7, r4, o4, b4⟩ := app2 w6 v3 (w3.heap.size + 1) b3 o3 (row1 _ _ (slab_lt e3') e3')
      obtain ⟨v5, w8, r5, o5, b5, g5⟩ := app1 _ _ BVE (OVE.below (Below.refl _ _).drew)
      have e5 : ((w3.alloc (.cells #[.int .i64 k, .int .i64 n, .string t] 46)).alloc (.cells #[] 46)).drew.heap[w3.heap.size]? = some (.cells #[.int .i64 k, .int .i64 n, .string t] 46 (0, 0)) := (heap_old _ _ _ (by simp)).trans (heap_new' _ _ _ rfl)
      have e5' : w8.heap[w3.heap.size]? = some (.cells #[.int .i64 k, .int .i64 n, .string t] 46 (0, 0)) := (g5.block _ (slab_lt e5) (fun h => by simp [Value.ownBlock] at h)).trans e5
      obtain ⟨v6, w9, r6, o6, b6⟩ := app2 w8 v5 w3.heap.size b5 o5 (row1 _ _ (slab_lt e5') e5')
      have HF : Hid ((OwnV w5 w.heap.size v2 (vs ++ [(k, n, t)]) ∧ Below w.heap.size w w5) ∧ (OwnV w7 w.heap.size v4 (vs ++ [(k, n, t)]) ∧ Below w.heap.size w w7) ∧ (OwnV w9 w.heap.size v6 (vs ++ [(k, n, t)]) ∧ Below w.heap.size w w9)) := ⟨⟨o2, b2⟩, ⟨o4, b4⟩, o6, b6⟩
      clear row1 app1 app2 fr BE BEV BVE OE OVE o1 b1 g1 e1 o2 b2 o3 b3 g3 e3 e3' o4 b4 o5 b5 g5 e5 e5' o6 b6
      go_wp2_with fail
      go_region_law (first
        | ((with_reducible change (if _ = true then Oper.wp _ _ _ ((w3.alloc (.cells #[] 46)).drew) _ _ else _)); refine step_append_run (by rfl) _ _ _ _ (by rfl) _ _ (by rfl) (by rfl) _ _ r1 ?_)
        | ((with_reducible change (if _ = true then Oper.wp _ _ _ ((w4.alloc (.cells #[.int .i64 k, .int .i64 n, .string t] 46))) _ _ else _)); refine step_append_run (by rfl) _ _ _ _ (by rfl) _ _ (by rfl) (by rfl) _ _ r2 ?_)
        | ((with_reducible change (if _ = true then Oper.wp _ _ _ (((w3.alloc (.cells #[] 46)).alloc (.cells #[.int .i64 k, .int .i64 n, .string t] 46)).drew) _ _ else _)); refine step_append_run (by rfl) _ _ _ _ (by rfl) _ _ (by rfl) (by rfl) _ _ r3 ?_)
        | ((with_reducible change (if _ = true then Oper.wp _ _ _ (w6) _ _ else _)); refine step_append_run (by rfl) _ _ _ _ (by rfl) _ _ (by rfl) (by rfl) _ _ r4 ?_)
        | ((with_reducible change (if _ = true then Oper.wp _ _ _ (((w3.alloc (.cells #[.int .i64 k, .int .i64 n, .string t] 46)).alloc (.cells #[] 46)).drew) _ _ else _)); refine step_append_run (by rfl) _ _ _ _ (by rfl) _ _ (by rfl) (by rfl) _ _ r5 ?_)
        | ((with_reducible change (if _ = true then Oper.wp _ _ _ (w8) _ _ else _)); refine step_append_run (by rfl) _ _ _ _ (by rfl) _ _ (by rfl) (by rfl) _ _ r6 ?_))
      all_goals
        simp only [List.getElem_toArray, List.getElem_cons_succ, List.getElem_cons_zero, Act.put, List.setIfInBounds_toArray, List.set_cons_succ, List.set_cons_zero]
        go_wp2
        go_ret2
        first
        | exact ⟨_, by rw [HQ.out]; rfl, by rw [HD.out HQ.out]; exact HF.out.1.1, HF.out.1.2⟩
        | exact ⟨_, by rw [HQ.out]; rfl, by rw [HD.out HQ.out]; exact HF.out.2.1.1, HF.out.2.1.2⟩
        | exact ⟨_, by rw [HQ.out]; rfl, by rw [HD.out HQ.out]; exact HF.out.2.2.1, HF.out.2.2.2⟩
  · have HQ : Hid (wCode tb cs vs (k, n, t) = (crow tb cs vs).1) := by show _ = _; rw [HW.out, if_pos hq]
    clear HW HZ
    generalize (crow tb cs vs).1 = q at *
    have HN : Hid (¬ q = 0) := hq
    go_wp2
    go_ret2
    exact RetW.none HQ.out HN.out B2
end Go.Proofs.YtffjnhhfplcloaaGreatDoor
