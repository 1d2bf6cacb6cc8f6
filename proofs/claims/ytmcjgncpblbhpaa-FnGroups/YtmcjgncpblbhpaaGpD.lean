/- impl's partedBy (stage 13). -/
import Derived.Test.YtmcjgncpblbhpaaGpC
namespace Go.Proofs.Ytmcjgncpblbhpaa
open Go.RowKit

theorem last_or (P : List (List Nat)) : P = [] ∨ ∃ Q g, P = Q ++ [g] := by
  rcases List.eq_nil_or_concat P with h | ⟨Q, g, h⟩
  · exact .inl h
  · exact .inr ⟨Q, g, by rw [h, List.concat_eq_append]⟩
theorem PtI.len {w : World} {B : Nat} {v : Value} {k : Cel} {P : List (List Nat)} (h : PtI w B v k P) : ∃ a c, v = .slice a P.length c := by
  obtain ⟨xs, gb, gc, ⟨_, ho⟩, _, _⟩ := h
  rcases ho with ⟨rfl, h0⟩ | ⟨g, c, cur, rfl, _⟩
  · exact ⟨none, 0, by rw [h0]⟩
  · exact ⟨_, c, rfl⟩
theorem owns_base {w : World} {B B' : Nat} {e : TypeId} {sz : Nat} {v : Value} {n : Nat} {xs : List Value} (h : w.ownsRow B e sz v n xs) (hB : B' ≤ B) : w.ownsRow B' e sz v n xs := by
  obtain ⟨h1, h2⟩ := h
  refine ⟨h1, ?_⟩
  rcases h2 with h | ⟨g, cap, cur, e, hg, r⟩
  · exact .inl h
  · exact .inr ⟨g, cap, cur, e, by omega, r⟩
theorem PtI.base {w : World} {B B' : Nat} {v : Value} {k : Cel} {P : List (List Nat)} (h : PtI w B v k P) (hB : B' ≤ B) : PtI w B' v k P := by
  obtain ⟨xs, gb, gc, ho, hr, hd⟩ := h
  exact ⟨xs, gb, gc, owns_base ho hB, fun i hi => ⟨(hr i hi).1, owns_base (hr i hi).2 hB⟩, hd⟩
set_option maxRecDepth 100000 in
set_option maxHeartbeats 8000000 in
theorem partedBy_any (b0 cap n : Nat) (rs : Rs) (k : Cel) (cf : Nat → Nat → Int) (ho : LtO (ltF cf)) (hneg : ∀ x y, cf x y = -cf y x) (fg : Nat) (cp : Array Value) (w : World) (hn : rs.length = n) (hN : n ≤ 400) (hc : ∀ x, x < n → w.cell? ⟨b0, 0 + x, none⟩ = some (k.v x)) (hlt : b0 < w.heap.size) (hE : Ent fg) (hF : ∀ W, Below w.heap.size w W → ∀ x y, x < n → y < n → Calls Try.prog fg (#[k.v x, k.v y] ++ cp) W fun e W' => e = .returned (.int .i64 (cf x y)) ∧ Below W.heap.size W W') :
    Calls Try.prog 56 #[.slice (some ⟨b0, 0, none⟩) n cap, .func (.func fg) #[] cp] w fun e w' => ∃ v G, e = .returned v ∧ Grp (ltF cf) n G ∧ PtI w' w.heap.size v k G ∧ Below w.heap.size w w' := by
  have C1 := sortedBy_gen b0 0 cap n rs k cf ho fg cp w hn (by omega) hc hlt (fun g w1 hg hb => ⟨hE, fun W hK x y hx hy => hF W (below_kept hb hK hg) x y hx hy⟩)
  have HO : Hid (LtO (ltF cf) ∧ ∀ x y, cf x y = -cf y x) := ⟨ho, hneg⟩
  have HF : Hid (∀ W, Below w.heap.size w W → ∀ x y, x < n → y < n → Calls Try.prog fg (#[k.v x, k.v y] ++ cp) W fun e W' => e = .returned (.int .i64 (cf x y)) ∧ Below W.heap.size W W') := hF
  unfold Ent at hE
  clear hc hF ho hneg hn hlt
  go_enter Try.func56, Try.ntmps56
  go_wp2_with fail
  refine C1.mono ?_
  rintro e w3 ⟨g, c, zs, rfl, hg, z1, z2, z3, b3⟩
  have hzl : zs.length = n := by rw [z1.length_eq, List.length_range]
  have HZ : Hid (zs.Perm (List.range n) ∧ zs.Pairwise (RO (ltF cf)) ∧ Dat w3 g c k zs ∧ zs.length = n ∧ Below w.heap.size w w3 ∧ ∀ x ∈ zs, x < n) := ⟨z1, z2, z3, hzl, b3, fun x hx => List.mem_range.1 (z1.mem_iff.1 hx)⟩
  clear C1 z1 z2 z3 hzl b3
  go_wp2
  go_loopw [5, 13] (fun v i wr => ∃ (q : Nat) (P : List (List Nat)), q ≤ n ∧ i = .int .i64 q ∧ Hid (PtI wr w3.heap.size v k P ∧ Runs (ltF cf) P ∧ P.flatten = zs.take q) ∧ Below w3.heap.size w3 wr) (fun _ i _ => n - (intOf i).toNat)
  case atStart => exact ⟨0, [], by omega, rfl, ⟨PtI.nil _ _ _, Runs.nil, by simp⟩, Below.refl _ _⟩
  case round =>
    obtain ⟨q, P, hq, rfl, HP, hbl⟩ := hrel
    by_cases hqn : q < n
    · have hqI : (q : Int) < (n : Int) := by omega
      have hqz : q < zs.length := by rw [HZ.out.2.2.2.1]; exact hqn
      have cx := (HZ.out.2.2.1.below hbl).cell hqz
      have htk : zs.take (q + 1) = zs.take q ++ [nthN zs q] := take_nextN hqz
      have hxn : nthN zs q < n := HZ.out.2.2.2.2.2 _ (by rw [nthN_get hqz]; exact List.getElem_mem hqz)
      have HRO : Hid ((zs.take q ++ [nthN zs q]).Pairwise (RO (ltF cf))) := by
        show List.Pairwise _ _
        rw [← htk]
        exact HZ.out.2.1.sublist (List.take_sublist _ _)
      have HTK : Hid (zs.take (q + 1) = zs.take q ++ [nthN zs q]) := htk
      have hPl : P.length ≤ q := by
        have h1 := HP.out.2.2
        have h2 : P.length ≤ P.flatten.length := by
          have h3 := HP.out.2.1.ne
          clear h1 HP HRO
          induction P with
          | nil => simp
          | cons g P ih =>
            have := ih (fun x hx => h3 x (List.mem_cons_of_mem _ hx))
            have h4 : 0 < g.length := List.length_pos_iff.2 (h3 g (by simp))
            simp only [List.length_cons, List.flatten_cons, List.length_append]
            omega
        rw [h1, List.length_take] at h2
        omega
      clear htk hqz
      generalize nthN zs q = x at *
      rcases last_or P with rfl | ⟨Q, gl, rfl⟩
      · obtain ⟨v', w', hr, hP2, hB2⟩ := HP.out.1.next (x := x) hbl.size (by simp)
        obtain ⟨ap, cpp, rfl⟩ := HP.out.1.len
        have HN2 : Hid (PtI w' w3.heap.size v' k [[x]] ∧ Runs (ltF cf) [[x]] ∧ [[x]].flatten = zs.take (q + 1)) := ⟨hP2, Runs.one x, by rw [HTK.out, ← HP.out.2.2]; simp⟩
        have hr' : Sem.run Try.prog (Builtin.append_ #[40, 40] 40 #[.slice ap ([] : List (List Nat)).length cpp, .slice (some ⟨wr.heap.size + 1, 0, none⟩) 1 1]) ((wr.alloc (.cells #[k.v x] 28)).alloc (.cells #[.slice (some ⟨wr.heap.size, 0, none⟩) 1 1] 23)) = .ok v' w' := hr
        have hB3 := hB2 w3 hbl
        simp only [List.length_nil] at hr' ⊢
        clear hr hP2 hB2 HP HRO HTK hPl
        go_wp2_with (at_builtin; refine Lib.wpList_append_run _ rfl _ _ _ _ rfl _ _ rfl rfl _ _ hr' ?_)
        go_roundw
        case rel => exact ⟨q + 1, [[x]], by omega, by go_num, HN2, hB3⟩
        case measure => simp [intOf]; omega
      · obtain ⟨y, gy, rfl⟩ : ∃ y gy, gl = y :: gy := by
          cases gl with
          | nil => exact absurd rfl (HP.out.2.1.ne [] (by simp))
          | cons y gy => exact ⟨y, gy, rfl⟩
        have hyn : y < n := HZ.out.2.2.2.2.2 y (by
          have : y ∈ (Q ++ [y :: gy]).flatten := by simp
          rw [HP.out.2.2] at this
          exact List.mem_of_mem_take this)
        have hgl : (y :: gy).length < 4096 := by
          have h1 := congrArg List.length HP.out.2.2
          simp at h1 ⊢
          omega
        obtain ⟨go, co, gl, cl, _, _, rfl, hco, hgo, c1, c2, lgo, lgl, _⟩ := HP.out.1.more (x := x) hbl.size hgl
        have c2' := c2 0 (by simp)
        have e0 : nthN (y :: gy) 0 = y := rfl
        rw [e0] at c2'
        have CF := HF.out wr (below_step HZ.out.2.2.2.2.1 (Nat.le_refl _) hbl) y x hyn hxn
        have HM : Hid (∀ w2, Below wr.heap.size wr w2 → ∃ gl cl v' w', w2.cell? ⟨go, Q.length, none⟩ = some (.slice (some ⟨gl, 0, none⟩) (y :: gy).length cl) ∧ (Builtin.append_ #[23, 23] 23 #[.slice (some ⟨gl, 0, none⟩) (y :: gy).length cl, .slice (some ⟨w2.heap.size, 0, none⟩) 1 1]).run Try.prog (w2.alloc (.cells #[k.v x] 28)) = .ok v' w' ∧ (∃ a n c, v' = .slice a n c) ∧ (∃ u, w'.cell? ⟨go, Q.length, none⟩ = some u) ∧ w'.frozen? ⟨go, Q.length, none⟩ = false ∧ PtI (w'.setCell ⟨go, Q.length, none⟩ v') w3.heap.size (.slice (some ⟨go, 0, none⟩) (Q.length + 1) co) k (Q ++ [(y :: gy) ++ [x]]) ∧ Below w3.heap.size w3 (w'.setCell ⟨go, Q.length, none⟩ v')) := fun w2 hb => by
          obtain ⟨go2, co2, gl2, cl2, v', w', e2, _, _, d1, _, _, _, hr, hv, d3, f3, hP2, hB2⟩ := (HP.out.1.below hb).more (x := x) (Nat.le_trans hbl.size hb.size) hgl
          simp only [Value.slice.injEq, Option.some.injEq, Addr.mk.injEq] at e2
          obtain ⟨⟨rfl, _⟩, _, rfl⟩ := e2
          exact ⟨gl2, cl2, v', w', d1, hr, hv, ⟨_, d3⟩, f3, hP2, hB2 w3 (below_step hbl (Nat.le_refl _) hb)⟩
        have HX : Hid (∀ w2, Below wr.heap.size wr w2 → ∃ v' w', (Builtin.append_ #[40, 40] 40 #[.slice (some ⟨go, 0, none⟩) (Q.length + 1) co, .slice (some ⟨w2.heap.size + 1, 0, none⟩) 1 1]).run Try.prog ((w2.alloc (.cells #[k.v x] 28)).alloc (.cells #[.slice (some ⟨w2.heap.size, 0, none⟩) 1 1] 23)) = .ok v' w' ∧ PtI w' w3.heap.size v' k ((Q ++ [y :: gy]) ++ [[x]]) ∧ Below w3.heap.size w3 w') := fun w2 hb => by
          obtain ⟨v', w', hr, hP2, hB2⟩ := (HP.out.1.below hb).next (x := x) (Nat.le_trans hbl.size hb.size) (by omega)
          exact ⟨v', w', hr, hP2, hB2 w3 (below_step hbl (Nat.le_refl _) hb)⟩
        have HRM : Hid (cf y x = 0 → Runs (ltF cf) (Q ++ [(y :: gy) ++ [x]])) := fun h => Runs.more HO.out.1 HP.out.2.1 (by rw [HP.out.2.2]; exact HRO.out) (by
          have := HO.out.2 y x
          exact ⟨decide_eq_false (by omega), decide_eq_false (by omega)⟩)
        have HRN : Hid (cf y x ≠ 0 → Runs (ltF cf) ((Q ++ [y :: gy]) ++ [[x]])) := fun h => Runs.next HO.out.1 HP.out.2.1 (by
          have h1 := ((List.pairwise_append.1 HRO.out).2.2 y (by rw [← HP.out.2.2]; simp) x (by simp)).1
          have h2 := HO.out.2 y x
          simp only [ltF, decide_eq_false_iff_not] at h1
          exact decide_eq_true (by omega))
        have HFM : Hid ((Q ++ [(y :: gy) ++ [x]]).flatten = zs.take (q + 1) ∧ ((Q ++ [y :: gy]) ++ [[x]]).flatten = zs.take (q + 1)) := by
          have h1 := HP.out.2.2
          refine ⟨?_, ?_⟩ <;> rw [HTK.out, ← h1] <;> simp
        obtain ⟨m, hm⟩ : ∃ m, Q.length = m := ⟨_, rfl⟩
        obtain ⟨gn, hgn⟩ : ∃ gn, (y :: gy).length = gn := ⟨_, rfl⟩
        have hg0 : 0 < gn := by rw [← hgn]; simp
        have hm4 : m + 1 ≤ 400 := by have := hPl; simp at this; omega
        have hmI : (m : Int) + 1 - 1 = (m : Int) := by omega
        have hwm : IntKind.i64.wrap (m : Int) = (m : Int) := wrap_nat (by omega)
        rw [hgn] at c1 HM
        rw [hm] at c1 HM HX ⊢
        clear HP HRO HTK hPl c2 lgo lgl hgl hm hgn hco
        by_cases h0 : cf y x = 0
        · have HR2 : Hid (Runs (ltF cf) (Q ++ [(y :: gy) ++ [x]])) := HRM.out h0
          rw [h0] at CF
          clear HRM HRN HX h0
          go_wp2_with fail
          refine CF.mono ?_
          rintro e w2 ⟨rfl, b2⟩
          obtain ⟨gl2, cl2, v', w', d1, hr, ⟨va, vn, vc, rfl⟩, ⟨u, d3⟩, f3, hP2, hB2⟩ := HM.out w2 b2
          have HP2 : Hid (PtI (w'.setCell ⟨go, m, none⟩ (.slice va vn vc)) w3.heap.size (.slice (some ⟨go, 0, none⟩) (m + 1) co) k (Q ++ [(y :: gy) ++ [x]]) ∧ Below w3.heap.size w3 (w'.setCell ⟨go, m, none⟩ (.slice va vn vc))) := ⟨hP2, hB2⟩
          clear HM CF hP2 hB2 c1 c2'
          go_wp2_with (at_builtin; refine Lib.wpList_append_run _ rfl _ _ _ _ rfl _ _ rfl rfl _ _ hr ?_)
          go_roundw
          case rel => exact ⟨q + 1, _, by omega, by go_num, ⟨HP2.out.1, HR2.out, HFM.out.1⟩, HP2.out.2⟩
          case measure => simp [intOf]; omega
        · have hne : (cf y x == 0) = false := by simp [h0]
          have HR2 : Hid (Runs (ltF cf) ((Q ++ [y :: gy]) ++ [[x]])) := HRN.out h0
          clear HRM HRN HM h0
          generalize cf y x = cc at *
          go_wp2_with fail
          refine CF.mono ?_
          rintro e w2 ⟨rfl, b2⟩
          obtain ⟨v', w', hr, hP2, hB2⟩ := HX.out w2 b2
          have HP2 : Hid (PtI w' w3.heap.size v' k ((Q ++ [y :: gy]) ++ [[x]]) ∧ Below w3.heap.size w3 w') := ⟨hP2, hB2⟩
          clear HX CF hP2 hB2 c1 c2'
          go_wp2_with (at_builtin; refine Lib.wpList_append_run _ rfl _ _ _ _ rfl _ _ rfl rfl _ _ hr ?_)
          go_roundw
          case rel => exact ⟨q + 1, _, by omega, by go_num, ⟨HP2.out.1, HR2.out, HFM.out.2⟩, HP2.out.2⟩
          case measure => simp [intOf]; omega
    · obtain rfl : q = n := by omega
      have HE : Hid (Grp (ltF cf) q P ∧ PtI wr w.heap.size u5 k P ∧ Below w.heap.size w wr) := ⟨⟨by rw [HP.out.2.2, List.take_of_length_le (by rw [HZ.out.2.2.2.1]; omega)]; exact HZ.out.1, HP.out.2.1⟩, HP.out.1.base HZ.out.2.2.2.2.1.size, below_step HZ.out.2.2.2.2.1 (Nat.le_refl _) hbl⟩
      clear HP
      go_wp2
      go_ret
      exact ⟨u5, P, rfl, HE.out.1, HE.out.2.1, HE.out.2.2⟩
end Go.Proofs.Ytmcjgncpblbhpaa
