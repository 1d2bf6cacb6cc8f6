/- Rows parted by an order (stage 13). -/
import Derived.Test.YtmcjgncpblbhpaaGpB
import Derived.Maps.AppendAt
namespace Go.Proofs.Ytmcjgncpblbhpaa
open Go.RowKit

set_option maxRecDepth 100000 in
set_option maxHeartbeats 8000000 in
theorem copyRows_at (b0 o0 cap : Nat) (rs : Rs) (k : Cel) (w : World) (hk : CelR w k rs) (hN : rs.length ≤ 4096) (hl : ∀ i, i < rs.length → (nthR rs i).length ≤ 4096) (hc : ∀ x, x < rs.length → w.cell? ⟨b0, o0 + x, none⟩ = some (k.v x)) (hlt : b0 < w.heap.size) :
    Calls Try.prog 47 #[.slice (some ⟨b0, o0, none⟩) rs.length cap] w fun e w' => ∃ g c, e = .returned (.slice (some ⟨g, 0, none⟩) rs.length c) ∧ w.heap.size ≤ g ∧ g < w'.heap.size ∧ BldR w' w.heap.size w'.heap.size (.slice (some ⟨g, 0, none⟩) rs.length c) rs ∧ Below w.heap.size w w' := by
  have C1 := cloneR2 b0 o0 cap rs.length rs k w rfl hN hc hlt
  have HK : Hid (CelR w k rs) := hk
  have HL : Hid (∀ i, i < rs.length → (nthR rs i).length ≤ 4096) := hl
  have HLT := hk.lt
  have HLT' : Hid (∀ x, x < rs.length → ∀ b o, k.a x = some ⟨b, o, none⟩ → 0 < (nthR rs x).length → b < w.heap.size) := HLT
  clear hk hl hc HLT
  obtain ⟨n, hn⟩ : ∃ n, rs.length = n := ⟨_, rfl⟩
  have HN : Hid (rs.length = n) := hn
  rw [hn] at C1 hN ⊢
  clear hn
  go_enter Try.func47, Try.ntmps47
  go_wp2_with fail
  refine C1.mono ?_
  rintro e w1 ⟨g, c, rfl, hg, ⟨hD, hnc, hcm⟩, b1⟩
  have HD : Hid (Dat w1 g c k (List.range n) ∧ BldR w1 w.heap.size w1.heap.size (.slice (some ⟨g, 0, none⟩) 0 c) (rs.take 0)) := ⟨hD, hD.bld hg hcm⟩
  clear C1 hD
  go_wp2
  go_loopw [10] (fun i wr => ∃ q : Nat, q ≤ n ∧ i = .int .i64 q ∧ Hid (BldR wr w.heap.size wr.heap.size (.slice (some ⟨g, 0, none⟩) q c) (rs.take q) ∧ RemD wr g n q k) ∧ Below w.heap.size w wr) (fun i _ => n - (intOf i).toNat)
  case atStart => exact ⟨0, by omega, rfl, ⟨HD.out.2, HD.out.1.rem hnc⟩, b1⟩
  case round =>
    clear HD
    obtain ⟨q, hq, rfl, HW, hbl⟩ := hrel
    by_cases hqn : q < n
    · have hqI : (q : Int) < (n : Int) := by omega
      have hql : q < rs.length := by rw [HN.out]; exact hqn
      have cq := HW.out.2.cell (Nat.le_refl _) hqn
      obtain ⟨e1, p1, o1, f1, _⟩ := HK.out q hql
      have r1 : RowV wr (some ⟨p1, o1, none⟩) (nthR rs q) := ((HK.out.below hbl) q hql).2 |> fun ⟨b, o, e, r⟩ => by rw [f1] at e; cases e; exact r
      have CV := cloneV_any p1 o1 (k.c q) (nthR rs q) wr r1 (HL.out q hql)
      rw [Cel.v, f1, e1] at cq
      have HS : Hid (∀ w2 u, Below wr.heap.size wr w2 → OwnV w2 wr.heap.size u (nthR rs q) → BldR (w2.setCell ⟨g, q, none⟩ u) w.heap.size (w2.setCell ⟨g, q, none⟩ u).heap.size (.slice (some ⟨g, 0, none⟩) (q + 1) c) (rs.take (q + 1))) := fun w2 u hb hu => by
        rw [taken hql]
        exact (HW.out.1.below hb).set (by rw [List.length_take]; omega) (by omega) hu (Nat.le_refl _) hbl.size
      have HO : Hid (∀ w2 u, Below wr.heap.size wr w2 → RemD (w2.setCell ⟨g, q, none⟩ u) g n (q + 1) k ∧ Below w.heap.size w (w2.setCell ⟨g, q, none⟩ u)) := fun w2 u hb => ⟨(HW.out.2.below hb).set u, (below_step hbl (Nat.le_refl _) hb).setCell (p := ⟨g, q, none⟩) hg _⟩
      have HF : Hid (∀ w2, Below wr.heap.size wr w2 → w2.cell? ⟨g, q, none⟩ = some (.slice (some ⟨p1, o1, none⟩) (nthR rs q).length (k.c q)) ∧ w2.frozen? ⟨g, q, none⟩ = false) := fun w2 hb => ⟨(hb.cell (p := ⟨g, q, none⟩) HW.out.2.lt).trans cq, (HW.out.2.below hb).free q⟩
      clear r1 HW hbl
      generalize (nthR rs q).length = m at *
      go_wp2_with fail
      refine CV.mono ?_
      rintro e w2 ⟨u, rfl, hu, b2⟩
      have H1 : Hid (BldR (w2.setCell ⟨g, q, none⟩ u) w.heap.size (w2.setCell ⟨g, q, none⟩ u).heap.size (.slice (some ⟨g, 0, none⟩) (q + 1) c) (rs.take (q + 1))) := HS.out w2 u b2 hu
      have H2 := HO.out w2 u b2
      have H2' : Hid _ := H2
      obtain ⟨cg, fgz⟩ := HF.out w2 b2
      obtain ⟨ua, un, uc, rfl⟩ := OwnV.shape hu
      clear CV HS HO HF cq hu b2 H2
      go_wp2
      go_roundw
      case rel => exact ⟨q + 1, by omega, by go_num, ⟨H1.out, H2'.out.1⟩, H2'.out.2⟩
      case measure => simp [intOf]; omega
    · obtain rfl : q = n := by omega
      have hgl := HW.out.2.lt
      have HE : Hid (BldR wr w.heap.size wr.heap.size (.slice (some ⟨g, 0, none⟩) q c) rs) := by
        have := HW.out.1
        rw [List.take_of_length_le (by rw [HN.out]; omega)] at this
        exact this
      clear HW
      go_wp2
      go_ret
      exact ⟨g, c, rfl, hg, hgl, HE.out, hbl⟩

set_option maxRecDepth 100000 in
theorem sortedBy_gen (b0 o0 cap n : Nat) (rs : Rs) (k : Cel) (cf : Nat → Nat → Int) (ho : LtO (ltF cf)) (fg : Nat) (cp : Array Value) (w : World) (hn : rs.length = n) (hN : n ≤ 4096) (hc : ∀ x, x < n → w.cell? ⟨b0, o0 + x, none⟩ = some (k.v x)) (hlt : b0 < w.heap.size) (hF : ∀ g w1, w.heap.size ≤ g → Below w.heap.size w w1 → CmpW g k n cf w1 fg cp) :
    Calls Try.prog 42 #[.slice (some ⟨b0, o0, none⟩) n cap, .func (.func fg) #[] cp] w fun e w' => ∃ g c zs, e = .returned (.slice (some ⟨g, 0, none⟩) n c) ∧ w.heap.size ≤ g ∧ zs.Perm (List.range n) ∧ zs.Pairwise (RO (ltF cf)) ∧ Dat w' g c k zs ∧ Below w.heap.size w w' := by
  have C1 := cloneR2 b0 o0 cap n rs k w hn hN hc hlt
  have HC : Hid (∀ g N c w1, w.heap.size ≤ g → Dat w1 g N k (List.range n) → Below w.heap.size w w1 → Calls Try.prog 73 #[.slice (some ⟨g, 0, none⟩) n c, .func (.func fg) #[] cp] w1 (RetS g N n k cf w1)) := fun g N c w1 hg hD hB => sortStable_any g N c n k cf ho fg cp w1 hD hN (hF g w1 hg hB)
  clear hc hF ho
  go_enter Try.func42, Try.ntmps42
  go_wp2_with fail
  refine C1.mono ?_
  rintro e w1 ⟨g, c, rfl, hg, ⟨hD, _, _⟩, b1⟩
  have C2 := HC.out g c c w1 hg hD b1
  clear C1 HC hD
  go_wp2_with fail
  refine C2.mono ?_
  rintro e w2 ⟨rfl, hK, zs, z1, z2, z3⟩
  have HE : Hid (zs.Perm (List.range n) ∧ zs.Pairwise (RO (ltF cf)) ∧ Dat w2 g c k zs ∧ Below w.heap.size w w2) := ⟨z1, z2, z3, b1.trans (hK.below b1.size (fun x hx => by subst hx; exact hg))⟩
  clear C2 hK z1 z2 z3 b1
  go_wp2
  go_ret
  exact ⟨g, c, zs, rfl, hg, HE.out.1, HE.out.2.1, HE.out.2.2.1, HE.out.2.2.2⟩
def nthL (P : List (List Nat)) (i : Nat) : List Nat := P.getD i []
theorem nthL_get {P : List (List Nat)} {i : Nat} (h : i < P.length) : nthL P i = P[i] := by unfold nthL; simp [h]
theorem nthL_left {P Q : List (List Nat)} {i : Nat} (h : i < P.length) : nthL (P ++ Q) i = nthL P i := by unfold nthL; rw [List.getD_eq_getElem?_getD, List.getD_eq_getElem?_getD, List.getElem?_append_left h]
theorem nthL_last {P : List (List Nat)} {g : List Nat} : nthL (P ++ [g]) P.length = g := by unfold nthL; rw [List.getD_eq_getElem?_getD, List.getElem?_append_right (Nat.le_refl _)]; simp
theorem infoG : (Try.prog.info? 23).map (fun i => (i.zero, i.size, i.bytes)) = some (some (.slice none 0 0), 1, 24) := by kernel_rfl
theorem owns_below {w w' : World} {B : Nat} {e : TypeId} {sz : Nat} {v : Value} {n : Nat} {xs : List Value} (h : w.ownsRow B e sz v n xs) (hb : Below w.heap.size w w') : w'.ownsRow B e sz v n xs := by
  obtain ⟨h1, h2⟩ := h
  refine ⟨h1, ?_⟩
  rcases h2 with h | ⟨g, cap, cur, e, hg, hh, r⟩
  · exact .inl h
  · exact .inr ⟨g, cap, cur, e, hg, (hb.block g (slab_lt hh)).trans hh, r⟩
/-- A list of the call's own at block g. -/
theorem owns_at {w : World} {B : Nat} {e : TypeId} {g n c : Nat} {xs : List Value} (h : w.ownsRow B e 1 (.slice (some ⟨g, 0, none⟩) n c) n xs) : B ≤ g ∧ n ≤ c ∧ c ≤ maxLen ∧ xs.length = n ∧ ∃ cur, w.heap[g]? = some (.cells cur e (0, 0)) ∧ cur.size = c ∧ cur.toList.take n = xs := by
  obtain ⟨h1, h2⟩ := h
  rcases h2 with ⟨h, _⟩ | ⟨g', cap, cur, e', hg, hh, hn, hm, hs, ht⟩
  · cases h
  · simp only [Value.slice.injEq, Option.some.injEq, Addr.mk.injEq] at e'
    obtain ⟨⟨rfl, _⟩, _, rfl⟩ := e'
    exact ⟨hg, hn, hm, by simpa using h1, cur, hh, by simpa using hs, by simpa using ht⟩
theorem owns_mk {w : World} {B : Nat} {e : TypeId} {g n c : Nat} {xs : List Value} {cur : Array Value} (hg : B ≤ g) (hn : n ≤ c) (hm : c ≤ maxLen) (hx : xs.length = n) (hh : w.heap[g]? = some (.cells cur e (0, 0))) (hs : cur.size = c) (ht : cur.toList.take n = xs) : w.ownsRow B e 1 (.slice (some ⟨g, 0, none⟩) n c) n xs :=
  ⟨by simpa using hx, .inr ⟨g, c, cur, rfl, hg, hh, hn, hm, by simpa using hs, by simpa using ht⟩⟩
theorem owns_keep {w w' : World} {B : Nat} {e : TypeId} {g n c : Nat} {xs : List Value} (h : w.ownsRow B e 1 (.slice (some ⟨g, 0, none⟩) n c) n xs) (hb : w'.heap[g]? = w.heap[g]?) : w'.ownsRow B e 1 (.slice (some ⟨g, 0, none⟩) n c) n xs := by
  obtain ⟨h1, h2, h3, h4, cur, h5, h6, h7⟩ := owns_at h
  exact owns_mk h1 h2 h3 h4 (hb.trans h5) h6 h7
/-- Lists of rows in a list, each in a block of its own. -/
def PtI (w : World) (B : Nat) (v : Value) (k : Cel) (P : List (List Nat)) : Prop := ∃ (xs : List Value) (gb gc : Nat → Nat), w.ownsRow B 23 1 v P.length xs ∧
  (∀ i, i < P.length → xs[i]? = some (.slice (some ⟨gb i, 0, none⟩) (nthL P i).length (gc i)) ∧ w.ownsRow B 28 1 (.slice (some ⟨gb i, 0, none⟩) (nthL P i).length (gc i)) (nthL P i).length ((nthL P i).map k.v)) ∧ ∀ i j, i < j → j < P.length → gb i ≠ gb j
theorem PtI.nil (w : World) (B : Nat) (k : Cel) : PtI w B (.slice none 0 0) k [] := ⟨[], fun _ => 0, fun _ => 0, ⟨rfl, .inl ⟨rfl, rfl⟩⟩, fun i hi => by simp at hi, fun i j _ hj => by simp at hj⟩
theorem PtI.below {w w' : World} {B : Nat} {v : Value} {k : Cel} {P : List (List Nat)} (h : PtI w B v k P) (hb : Below w.heap.size w w') : PtI w' B v k P := by
  obtain ⟨xs, gb, gc, ho, hr, hd⟩ := h
  exact ⟨xs, gb, gc, owns_below ho hb, fun i hi => ⟨(hr i hi).1, owns_below (hr i hi).2 hb⟩, hd⟩
theorem blk_ne {w : World} {g h : Nat} {c d : Array Value} {e f : TypeId} (h1 : w.heap[g]? = some (.cells c e (0, 0))) (h2 : w.heap[h]? = some (.cells d f (0, 0))) (hef : e ≠ f) : g ≠ h := fun e' => by
  subst e'
  rw [h1] at h2
  simp only [Option.some.injEq, Obj.cells.injEq] at h2
  exact hef h2.2.1
set_option maxRecDepth 100000 in
/-- A list of one row more. -/
theorem PtI.next {wr : World} {B : Nat} {v : Value} {k : Cel} {P : List (List Nat)} {x : Nat} (h : PtI wr B v k P) (hB : B ≤ wr.heap.size) (hl : P.length < 4096) :
    ∃ v' w', (Builtin.append_ #[40, 40] 40 #[v, .slice (some ⟨wr.heap.size + 1, 0, none⟩) 1 1]).run Try.prog ((wr.alloc (.cells #[k.v x] 28)).alloc (.cells #[.slice (some ⟨wr.heap.size, 0, none⟩) 1 1] 23)) = .ok v' w' ∧ PtI w' B v' k (P ++ [[x]]) ∧ ∀ w0, Below B w0 wr → Below B w0 w' := by
  obtain ⟨i0, hi1, hz0, hz1, hz2⟩ := info_parts infoG
  have hb : Below wr.heap.size wr ((wr.alloc (.cells #[k.v x] 28)).alloc (.cells #[.slice (some ⟨wr.heap.size, 0, none⟩) 1 1] 23)) := ((Below.refl _ _).alloc (Nat.le_refl _) _).alloc (by simp) _
  have hP := h.below hb
  have hnew : ((wr.alloc (.cells #[k.v x] 28)).alloc (.cells #[.slice (some ⟨wr.heap.size, 0, none⟩) 1 1] 23)).heap[wr.heap.size]? = some (.cells #[k.v x] 28 (0, 0)) := (heap_old _ _ _ (by simp)).trans (heap_new' _ _ _ rfl)
  have hc0 : ((wr.alloc (.cells #[k.v x] 28)).alloc (.cells #[.slice (some ⟨wr.heap.size, 0, none⟩) 1 1] 23)).cell? ⟨wr.heap.size + 1, 0, none⟩ = some (.slice (some ⟨wr.heap.size, 0, none⟩) 1 1) := by simp
  have hold : ∀ i, i < P.length → ∀ gb gc xs', wr.ownsRow B 28 1 (.slice (some ⟨gb, 0, none⟩) i gc) i xs' → gb < wr.heap.size := fun i _ gb gc xs' ho => by
    obtain ⟨_, _, _, _, cur, h5, _⟩ := owns_at ho
    exact slab_lt h5
  obtain ⟨xs, gb, gc, ho0, hr0, hd⟩ := h
  have hlt : ∀ i, i < P.length → gb i < wr.heap.size := fun i hi => by
    obtain ⟨_, _, _, _, cur, h5, _⟩ := owns_at (hr0 i hi).2
    exact slab_lt h5
  have ho := owns_below ho0 hb
  have hr : ∀ i, i < P.length → _ := fun i hi => owns_below (hr0 i hi).2 hb
  generalize ((wr.alloc (.cells #[k.v x] 28)).alloc (.cells #[.slice (some ⟨wr.heap.size, 0, none⟩) 1 1] 23)) = wa at *
  obtain ⟨v', w', h1, h2, h3, _⟩ := run_append_own (P := Try.prog) wa B 40 40 23 i0 _ 1 24 Try.underlying40 hi1 hz0 hz1 hz2 rfl (by decide) v P.length xs ho ⟨wr.heap.size + 1, 0, none⟩ 1 1 [.slice (some ⟨wr.heap.size, 0, none⟩) 1 1] rfl (fun j u hj => by
    match j, hj with
    | 0, hj => simp at hj; subst hj; rw [add_plain]; exact hc0) (by intro u hu; simp at hu; subst hu; rfl) (by unfold maxLen; omega) (by omega) (Nat.le_trans hB hb.size)
  have kp : ∀ g' n' c' xs', wa.ownsRow B 28 1 (.slice (some ⟨g', 0, none⟩) n' c') n' xs' → w'.ownsRow B 28 1 (.slice (some ⟨g', 0, none⟩) n' c') n' xs' := fun g' n' c' xs' hq => owns_keep hq (by
    obtain ⟨_, _, _, _, cur, h5, _⟩ := owns_at hq
    refine h3.block g' (slab_lt h5) (fun e => ?_)
    obtain ⟨_, q2⟩ := ho
    rcases q2 with ⟨rfl, _⟩ | ⟨g2, cap2, cur2, rfl, _, hq2, _⟩
    · simp [Value.ownBlock] at e
    · simp [Value.ownBlock] at e
      exact blk_ne h5 hq2 (by decide) e)
  have hxl : xs.length = P.length := by have := ho.1; omega
  refine ⟨v', w', h1, ⟨xs ++ [.slice (some ⟨wr.heap.size, 0, none⟩) 1 1], fun i => if i = P.length then wr.heap.size else gb i, fun i => if i = P.length then 1 else gc i, by rw [List.length_append]; exact h2, fun i hi => ?_, fun i j hij hj => ?_⟩, fun w0 hb0 => (hb0.trans (hb.mono hB)).grown h3 (Nat.le_trans hB hb.size) fun j e => ?_⟩
  · rw [List.length_append, List.length_singleton] at hi
    by_cases e : i = P.length
    · subst e
      rw [nthL_last]
      simp only [if_pos]
      refine ⟨by rw [List.getElem?_append_right (by omega), hxl]; simp, kp _ _ _ _ (owns_mk hB (Nat.le_refl _) (by unfold maxLen; omega) rfl hnew rfl rfl)⟩
    · have hi' : i < P.length := by omega
      rw [nthL_left hi']
      simp only [if_neg e]
      exact ⟨by rw [List.getElem?_append_left (by omega)]; exact (hr0 i hi').1, kp _ _ _ _ (hr i hi')⟩
  · rw [List.length_append, List.length_singleton] at hj
    have hi' : i < P.length := by omega
    simp only [if_neg (show ¬ i = P.length by omega)]
    by_cases e : j = P.length
    · simp only [if_pos e]
      have := hlt i hi'
      omega
    · simp only [if_neg e]
      exact hd i j hij (by omega)
  · obtain ⟨_, q2⟩ := ho
    rcases q2 with ⟨rfl, _⟩ | ⟨g2, cap2, cur2, rfl, hg', _⟩
    · simp [Value.ownBlock] at e
    · simp [Value.ownBlock] at e
      omega
set_option maxRecDepth 100000 in
/-- The last list has one row more. -/
theorem PtI.more {wr : World} {B : Nat} {v : Value} {k : Cel} {P : List (List Nat)} {g : List Nat} {x : Nat} (h : PtI wr B v k (P ++ [g])) (hB : B ≤ wr.heap.size) (hl : g.length < 4096) :
    ∃ go co gl cl v' w', v = .slice (some ⟨go, 0, none⟩) (P.length + 1) co ∧ P.length + 1 ≤ co ∧ B ≤ go ∧ wr.cell? ⟨go, P.length, none⟩ = some (.slice (some ⟨gl, 0, none⟩) g.length cl) ∧ (∀ j, j < g.length → wr.cell? ⟨gl, j, none⟩ = some (k.v (nthN g j))) ∧ go < wr.heap.size ∧ gl < wr.heap.size ∧
      (Builtin.append_ #[23, 23] 23 #[.slice (some ⟨gl, 0, none⟩) g.length cl, .slice (some ⟨wr.heap.size, 0, none⟩) 1 1]).run Try.prog (wr.alloc (.cells #[k.v x] 28)) = .ok v' w' ∧ (∃ a n c, v' = .slice a n c) ∧ w'.cell? ⟨go, P.length, none⟩ = some (.slice (some ⟨gl, 0, none⟩) g.length cl) ∧ w'.frozen? ⟨go, P.length, none⟩ = false ∧
      PtI (w'.setCell ⟨go, P.length, none⟩ v') B v k (P ++ [g ++ [x]]) ∧ ∀ w0, Below B w0 wr → Below B w0 (w'.setCell ⟨go, P.length, none⟩ v') := by
  obtain ⟨i0, hi1, hz0, hz1, hz2⟩ := info_parts infoR
  have hb : Below wr.heap.size wr (wr.alloc (.cells #[k.v x] 28)) := (Below.refl _ _).alloc (Nat.le_refl _) _
  obtain ⟨xs, gb, gc, ho, hr, hd⟩ := h
  have hlen : (P ++ [g]).length = P.length + 1 := by simp
  rw [hlen] at ho
  obtain ⟨hx, ho2⟩ := ho
  rcases ho2 with ⟨_, h0⟩ | ⟨go, co, cur, rfl, hgo, hho, hnc, hcm, hcs, hct⟩
  · omega
  have hol := hr P.length (by omega)
  rw [nthL_last] at hol
  obtain ⟨e1, ol⟩ := hol
  obtain ⟨l1, l2, l3, l4, curl, hhl, l6, l7⟩ := owns_at ol
  have hcell : cur[P.length]? = some (.slice (some ⟨gb P.length, 0, none⟩) g.length (gc P.length)) := by
    rw [← hct, List.getElem?_take] at e1
    split at e1
    · rw [← Array.getElem?_toList]; exact e1
    · cases e1
  have hgl : ∀ j, j < g.length → wr.cell? ⟨gb P.length, j, none⟩ = some (k.v (nthN g j)) := fun j hj => by
    rw [slab_cell hhl]
    have h9 : (g.map k.v)[j]? = some (k.v (nthN g j)) := by rw [List.getElem?_map, List.getElem?_eq_getElem hj, nthN_get hj]; rfl
    rw [← l7, List.getElem?_take, if_pos (by omega)] at h9
    rw [← Array.getElem?_toList]; exact h9
  obtain ⟨v', w', h1, h2, h3, h4, h5⟩ := run_append_own_at (P := Try.prog) (wr.alloc (.cells #[k.v x] 28)) B 23 23 28 i0 _ 1 24 Try.underlying23 hi1 hz0 hz1 hz2 rfl (by decide) (.slice (some ⟨gb P.length, 0, none⟩) g.length (gc P.length)) g.length (g.map k.v) (owns_below ol hb) ⟨wr.heap.size, 0, none⟩ 1 1 [k.v x] rfl (fun j u hj => by
    match j, hj with
    | 0, hj => simp at hj; subst hj; rw [add_plain]; simp) (by intro u hu; simp at hu; subst hu; rfl) (by unfold maxLen; omega) (by omega) (Nat.le_trans hB hb.size)
  obtain ⟨g', c', rfl⟩ : ∃ g' c', v' = .slice (some ⟨g', 0, none⟩) (g.length + 1) c' := by
    rcases h2.2 with ⟨_, h0⟩ | ⟨g', c', cu, e, _⟩
    · omega
    · exact ⟨g', c', e⟩
  have hne : go ≠ gb P.length := blk_ne hho hhl (by decide)
  have hgo2 : w'.heap[go]? = some (.cells cur 23 (0, 0)) := (h3.block go (Nat.lt_of_lt_of_le (slab_lt hho) hb.size) (fun e => by simp [Value.ownBlock] at e; exact hne e)).trans ((hb.block go (slab_lt hho)).trans hho)
  obtain ⟨q1, q2, q3, q4, curn, hhn, q6, q7⟩ := owns_at h2
  have hgn : g' ≠ go := (blk_ne hgo2 hhn (by decide)).symm
  refine ⟨go, co, gb P.length, gc P.length, _, w', by simp, by simpa using hnc, hgo, by rw [slab_cell hho]; exact hcell, hgl, slab_lt hho, slab_lt hhl, h1, ⟨_, _, _, rfl⟩, by rw [slab_cell hgo2]; exact hcell, slab_free hgo2, ⟨xs.set P.length (.slice (some ⟨g', 0, none⟩) (g.length + 1) c'), fun i => if i = P.length then g' else gb i, fun i => if i = P.length then c' else gc i, ?_, fun i hi => ?_, fun i j hij hj => ?_⟩, fun w0 hb0 => ?_⟩
  · refine ⟨by simp at hx ⊢; omega, .inr ⟨go, co, _, by simp, hgo, slab_set hgo2 _, by simpa using hnc, hcm, by simpa using hcs, ?_⟩⟩
    have e9 : List.take ((P ++ [g ++ [x]]).length * 1) cur.toList = xs := by rw [← hct]; simp
    rw [Array.toList_setIfInBounds, List.take_set, e9]
  · have hi2 : i < P.length + 1 := by simpa using hi
    by_cases e : i = P.length
    · subst e
      rw [nthL_last]
      simp only [if_pos]
      refine ⟨by rw [List.getElem?_set_self (by simp at hx; omega)]; simp, ?_⟩
      have := owns_keep (w' := w'.setCell ⟨go, P.length, none⟩ (.slice (some ⟨g', 0, none⟩) (g.length + 1) c')) h2 (set_other _ (by show go ≠ g'; exact fun e => hgn e.symm))
      rw [List.length_append, List.map_append]
      exact this
    · have hi' : i < P.length := by omega
      rw [nthL_left hi']
      simp only [if_neg e]
      have hri := hr i (by omega)
      rw [nthL_left hi'] at hri
      obtain ⟨_, _, _, _, curi, hhi, _⟩ := owns_at hri.2
      refine ⟨by rw [List.getElem?_set_ne (by omega)]; exact hri.1, owns_keep (owns_keep (w' := w') (owns_below hri.2 hb) (h3.block (gb i) (Nat.lt_of_lt_of_le (slab_lt hhi) hb.size) (fun e2 => by simp [Value.ownBlock] at e2; exact hd i P.length hi' (by omega) e2))) (set_other _ (by show go ≠ gb i; exact blk_ne hho hhi (by decide)))⟩
  · have hj2 : j < P.length + 1 := by simpa using hj
    have hi' : i < P.length := by omega
    simp only [if_neg (show ¬ i = P.length by omega)]
    by_cases e : j = P.length
    · simp only [if_pos e]
      have hri := hr i (by omega)
      rw [nthL_left hi'] at hri
      obtain ⟨_, _, _, _, curi, hhi, _⟩ := owns_at hri.2
      have := slab_lt hhi
      rcases h5 with h5 | h5
      · simp [Value.ownBlock] at h5
        rw [h5]
        exact hd i P.length hi' (by omega)
      · simp [Value.ownBlock] at h5
        omega
    · simp only [if_neg e]
      exact hd i j hij (by omega)
  · have hb1 : Below B w0 w' := (hb0.trans (hb.mono hB)).grown h3 (Nat.le_trans hB hb.size) fun j e => by
      simp [Value.ownBlock] at e
      omega
    exact hb1.setCell (p := ⟨go, P.length, none⟩) hgo _
end Go.Proofs.Ytmcjgncpblbhpaa
