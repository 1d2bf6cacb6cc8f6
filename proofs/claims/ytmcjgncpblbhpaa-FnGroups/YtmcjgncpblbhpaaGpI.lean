/- The specification's groups (stage 13). -/
import Derived.Test.YtmcjgncpblbhpaaGpH
import Derived.Test.YtmcjgncpblbhpaaKsD
import Derived.Deep.RegionHeld3
namespace Go.Proofs.Ytmcjgncpblbhpaa
open Go.RowKit

theorem runs_len {lt : Nat → Nat → Bool} {P : List (List Nat)} (h : Runs lt P) : P.length ≤ P.flatten.length := by
  have h3 := h.ne
  clear h
  induction P with
  | nil => simp
  | cons g P ih =>
    have := ih (fun x hx => h3 x (List.mem_cons_of_mem _ hx))
    have h4 : 0 < g.length := List.length_pos_iff.2 (h3 g (by simp))
    simp only [List.length_cons, List.flatten_cons, List.length_append]
    omega
theorem OwnE.made {w : World} {B : Nat} {k : Cel} (hB : B ≤ w.heap.size) : OwnE (w.alloc (.cells #[] 28)) B (.slice (some ⟨w.heap.size, 0, none⟩) 0 0) k [] :=
  ⟨rfl, .inr ⟨w.heap.size, 0, #[], rfl, hB, heap_alloc_new w _, by simp, by simp, by simp, by simp⟩⟩
theorem OwnL.mt {w : World} {B g : Nat} {kr : Cel} (hB : B ≤ g) (h : w.heap[g]? = some (.cells #[] 23 (0, 0))) : OwnL w B (.slice (some ⟨g, 0, none⟩) 0 0) kr [] :=
  ⟨[], fun _ => 0, fun _ => 0, ⟨rfl, .inr ⟨g, 0, #[], rfl, hB, h, by simp, by simp, by simp, by simp⟩⟩, fun i hi => by simp at hi⟩
set_option maxRecDepth 100000 in
theorem app_En {w : World} {B b o c : Nat} {v : Value} {k : Cel} {zs ys : List Nat} (h : OwnE w B v k zs) (hB : B ≤ w.heap.size) (hl : zs.length + ys.length ≤ 4096) (hc : ∀ j, j < ys.length → w.cell? ⟨b, o + j, none⟩ = some (k.v (nthN ys j))) :
    ∃ v' w', (Builtin.append_ #[23, 23] 23 #[v, .slice (some ⟨b, o, none⟩) ys.length c]).run Try.prog w = .ok v' w' ∧ OwnE w' B v' k (zs ++ ys) ∧ w.grownBy w' v.ownBlock ∧ ∀ w0, Below B w0 w → Below B w0 w' := by
  obtain ⟨i0, hi1, hz0, hz1, hz2⟩ := info_parts infoR
  obtain ⟨v', w', h1, h2, h3, _⟩ := run_append_own (P := Try.prog) w B 23 23 28 i0 _ 1 24 Try.underlying23 hi1 hz0 hz1 hz2 rfl (by decide) v zs.length (zs.map k.v) h ⟨b, o, none⟩ ys.length c (ys.map k.v) (by simp) (fun j u hj => by
    rw [List.getElem?_map] at hj
    obtain ⟨x, hx, rfl⟩ := Option.map_eq_some_iff.1 hj
    obtain ⟨hjn, e⟩ := List.getElem?_eq_some_iff.1 hx
    rw [add_plain, hc j hjn, nthN_get hjn, e]) (by intro u hu; obtain ⟨x, _, rfl⟩ := List.mem_map.1 hu; rfl) (by unfold maxLen; omega) (by omega) hB
  refine ⟨v', w', h1, by rw [OwnE, List.length_append, List.map_append]; exact h2, h3, fun w0 hb => hb.grown h3 hB fun j e => ?_⟩
  obtain ⟨_, q2⟩ := h
  rcases q2 with ⟨rfl, _⟩ | ⟨g, cap, cur, rfl, hg', _⟩
  · simp [Value.ownBlock] at e
  · simp [Value.ownBlock] at e
    omega
abbrev StU1 (b o : Nat) (v : Value) (w' : World) : Prop := w'.cell? ⟨b, o, none⟩ = some v
theorem pick_len (cs : List Int) (vs : List V3) : (pickR cs vs).length = cs.length := by unfold pickR; simp
theorem pick_text {cs : List Int} {vs : List V3} (h : ∀ j, j < vs.length → (nthV vs j).2.2.size ≤ maxLen) (hok : ∀ i, i < cs.length → 0 ≤ nthC cs i ∧ nthC cs i < vs.length) : ∀ i, i < (pickR cs vs).length → (nthV (pickR cs vs) i).2.2.size ≤ maxLen := fun i hi => by
  have hi' : i < cs.length := by rw [pick_len] at hi; exact hi
  have e : nthV (pickR cs vs) i = nthV vs (nthC cs i).toNat := by
    rw [nthV_get hi]
    simp only [pickR, List.getElem_map]
    rw [nthC_get hi']
  rw [e]
  have := hok i hi'
  exact h _ (by omega)
set_option maxRecDepth 100000 in
set_option maxHeartbeats 16000000 in
theorem l13Group_any (ai : Option Addr) (ci cr br or n m : Nat) (cs : List Int) (rs : Rs) (kr : Cel) (w : World) (hi : InA w ai cs) (hc : ∀ x, x < n → w.cell? ⟨br, or + x, none⟩ = some (kr.v x)) (lbr : br < w.heap.size) (hkr : ∀ x, x < n → kr.l x = (nthR rs x).length ∧ RowV w (kr.a x) (nthR rs x)) (hn : rs.length = n) (hm : cs.length = m) (hN : n ≤ 400) (hmN : m ≤ 4096) (hok : ∀ x, x < n → ∀ i, i < m → 0 ≤ nthC cs i ∧ nthC cs i < (nthR rs x).length) (ht : TextR rs) :
    Calls Try.prog 59 #[.slice ai m ci, .slice (some ⟨br, or, none⟩) n cr] w fun e w' => ∃ v, e = .returned v ∧ v ≠ .slice none 0 0 ∧ OwnL w' w.heap.size v kr (grpN cs rs) ∧ Below w.heap.size w w' := by
  have PK : Hid (∀ W y, Below w.heap.size w W → y < n → Calls Try.prog 85 #[.slice ai m ci, kr.v y] W fun e w' => ∃ au cu, e = .returned (.slice au m cu) ∧ RowV w' au (pickR cs (nthR rs y)) ∧ Below W.heap.size W w') := fun W y hW hy => by
    have := l13Picked_any ai (kr.a y) ci (kr.c y) cs (nthR rs y) W (hi.below hW) ((hkr y hy).2.below hW) (fun i hi => hok y hy i (by omega)) (by omega)
    rw [hm, ← (hkr y hy).1] at this
    refine this.mono ?_
    rintro e w' ⟨u, rfl, ho, hb⟩
    obtain ⟨a, c, rfl, hr⟩ := ho.row (pick_text (ht y (by omega)) (fun i hi => hok y hy i (by omega)))
    rw [pick_len, hm]
    exact ⟨a, c, rfl, hr, hb⟩
  have LR : Hid (∀ W a1 c1 a2 c2 y x, RowV W a1 (pickR cs (nthR rs y)) → RowV W a2 (pickR cs (nthR rs x)) → Calls Try.prog 86 #[.slice a1 m c1, .slice a2 m c2] W fun e w' => e = .returned (.int .i64 (cfG cs rs y x)) ∧ Below W.heap.size W w') := fun W a1 c1 a2 c2 y x h1 h2 => by
    have := l01Rows_any a1 a2 c1 c2 _ _ W h1 h2 (by rw [pick_len]; omega) (by rw [pick_len]; omega)
    rw [pick_len, pick_len, hm] at this
    exact this
  have LCW : Hid (∀ x, x < n → ∀ W, Below w.heap.size w W → W.cell? ⟨br, or + x, none⟩ = some (kr.v x)) := fun x hx W hW => (hW.cell (p := ⟨br, or + x, none⟩) lbr).trans (hc x hx)
  have HLT : Hid (LtO (ltG cs rs)) := ltG_o cs rs
  have HNR : Hid (rs.length = n) := hn
  clear hi hc hkr hok ht hm hn lbr
  have B0 : Below w.heap.size w (w.alloc (.cells #[] 23)) := (Below.refl _ _).alloc (Nat.le_refl _) _
  have O0 : Hid (OwnL (w.alloc (.cells #[] 23)) w.heap.size (.slice (some ⟨w.heap.size, 0, none⟩) 0 0) kr [] ∧ (.slice (some ⟨w.heap.size, 0, none⟩) 0 0 : Value) ≠ .slice none 0 0 ∧ Grp (ltG cs rs) 0 []) := ⟨OwnL.empty (Nat.le_refl _), by simp, by simp, Runs.nil⟩
  go_enter Try.func59, Try.ntmps59
  go_wp2
  go_loopw [5, 6] (fun v i wr => ∃ (q : Nat) (G : List (List Nat)), q ≤ n ∧ i = .int .i64 q ∧ Hid (OwnL wr w.heap.size v kr G ∧ v ≠ .slice none 0 0 ∧ Grp (ltG cs rs) q G) ∧ Below w.heap.size w wr) (fun _ i _ => n - (intOf i).toNat)
  case atStart => exact ⟨0, [], by omega, rfl, O0.out, B0⟩
  case round =>
    clear O0 B0
    rename World => wo
    obtain ⟨i, G, hin, rfl, HO, hbo⟩ := hrel
    obtain ⟨go, co, gg, cc, rfl, hgc, hgo, lgo, _, hgl⟩ := HO.out.1.at HO.out.2.1
    have hGi : G.length ≤ i := by
      have h1 := runs_len HO.out.2.2.2
      rw [HO.out.2.2.1.length_eq, List.length_range] at h1
      exact h1
    by_cases hiN : i < n
    · have hiI : (i : Int) < (n : Int) := by omega
      have HL : Hid (∀ W, Below wo.heap.size wo W → ∀ j, j < G.length → W.cell? ⟨go, j, none⟩ = some (.slice (some ⟨gg j, 0, none⟩) (nthL G j).length (cc j)) ∧ GrpB W (gg j) kr (nthL G j)) := fun W hW j hj => ⟨(hW.cell (p := ⟨go, j, none⟩) lgo).trans (hgl j hj).1, (hgl j hj).2.below hW⟩
      obtain ⟨gn, hgn⟩ : ∃ gn, G.length = gn := ⟨_, rfl⟩
      have HG : Hid (Grp (ltG cs rs) i G ∧ OwnL wo w.heap.size (.slice (some ⟨go, 0, none⟩) gn co) kr G ∧ G.length = gn ∧ w.heap.size ≤ go ∧ go < wo.heap.size ∧ ∀ g ∈ G, ∀ x ∈ g, x < n) := ⟨HO.out.2.2, by have := HO.out.1; rw [hgn] at this; exact this, hgn, hgo, lgo, fun g hg x hx => by have := List.mem_range.1 (HO.out.2.2.1.mem_iff.1 (List.mem_flatten.2 ⟨g, hg, hx⟩)); omega⟩
      rw [hgn] at hgc hGi HL ⊢
      have cx := LCW.out i hiN wo hbo
      have P0 := PK.out wo i hbo hiN
      clear HO hgl hgn hgo lgo
      go_wp2_with fail
      refine P0.mono ?_
      rintro e w1 ⟨am, cm, rfl, rm, b1⟩
      have HM : Hid (RowV w1 am (pickR cs (nthR rs i)) ∧ Below wo.heap.size wo w1) := ⟨rm, b1⟩
      clear P0 rm b1 cx
      go_wp2
      go_loopw [8] (fun k wq => ∃ (A C : List (List Nat)) (k0 : Nat), A ++ C = G ∧ A.length = k0 ∧ k = .int .i64 k0 ∧ Hid (∀ g ∈ A, ∀ y b, g = y :: b → ltG cs rs y i = true) ∧ Below w1.heap.size w1 wq) (fun k _ => gn - (intOf k).toNat)
      case atStart => exact ⟨[], G, 0, rfl, rfl, rfl, fun g hg => by simp at hg, Below.refl _ _⟩
      case round =>
        obtain ⟨A, C, k0, hAC, hk0, rfl, HA, hbq⟩ := hrel
        have hkg : k0 ≤ gn := by rw [← hk0, ← HG.out.2.2.1, ← hAC, List.length_append]; omega
        have hboq : Below wo.heap.size wo wr := below_step HM.out.2 (Nat.le_refl _) hbq
        have hBq : Below w.heap.size w wr := below_step hbo (Nat.le_refl _) hboq
        cases C with
        | nil =>
          obtain rfl : gn = k0 := by rw [← hk0, ← HG.out.2.2.1, ← hAC, List.append_nil]
          have hGK : Grp (ltG cs rs) (i + 1) (A ++ [i] :: []) := Grp.among HLT.out (by rw [hAC]; exact HG.out.1) HA.out (fun g hg => by simp at hg)
          obtain ⟨C, hC0⟩ : ∃ C : List (List Nat), C = [] := ⟨_, rfl⟩
          rw [← hC0] at hAC hGK
          obtain ⟨X, hX0⟩ : ∃ X, X = wr := ⟨_, rfl⟩
          have BX : Below wo.heap.size wo X := by rw [hX0]; exact hboq
          rw [← hX0]
          clear hX0 hC0 HA HM
          by_cases hck : co = gn
          · obtain rfl : gn = co := by omega
            have HWX : Hid (w.heap.size ≤ X.heap.size ∧ ∀ W, Below X.heap.size X W → Below w.heap.size w W) := ⟨Nat.le_trans hbo.size BX.size, fun W hW => below_step (below_step hbo (Nat.le_refl _) BX) (Nat.le_refl _) hW⟩
            have hgl4 : gn ≤ 400 := by omega
            have HLX : Hid (∀ W, Below X.heap.size X W → ∀ j, j < gn → W.cell? ⟨go, j, none⟩ = some (.slice (some ⟨gg j, 0, none⟩) (nthL G j).length (cc j)) ∧ GrpB W (gg j) kr (nthL G j)) := fun W hW j hj => HL.out W (below_step BX (Nat.le_refl _) hW) j hj
            have hDl : C.length = 0 := by have := HG.out.2.2.1; rw [← hAC, List.length_append] at this; omega
            have P1 : Hid (∀ v W, Below X.heap.size X W → OwnL W X.heap.size v kr [] → ∃ v' w', (Builtin.append_ #[40, 40] 40 #[v, .slice (some ⟨go, 0, none⟩) gn gn]).run Try.prog W = .ok v' w' ∧ OwnL w' X.heap.size v' kr A ∧ Below X.heap.size X w' ∧ W.grownBy w' v.ownBlock) := fun v W hW ho => by
              obtain ⟨v', w', r, o, _, g, bl⟩ := app_L (c := gn) (b := go) (o := 0) (H := A) (gg := gg) (cc := cc) ho hW.size (by simp; omega) (fun j hj => by
                have := HLX.out W hW j (by omega)
                rw [← hAC, nthL_left hj] at this
                rw [Nat.zero_add]
                exact this)
              rw [hk0] at r
              exact ⟨v', w', r, o, bl X hW, g⟩
            have P2 : Hid (∀ v W gr gq, Below X.heap.size X W → OwnL W X.heap.size v kr A → W.heap[gr]? = some (.cells #[kr.v i] 28 (0, 0)) → W.cell? ⟨gq, 0, none⟩ = some (.slice (some ⟨gr, 0, none⟩) 1 1) → ∃ v' w', (Builtin.append_ #[40, 40] 40 #[v, .slice (some ⟨gq, 0, none⟩) 1 1]).run Try.prog W = .ok v' w' ∧ OwnL w' X.heap.size v' kr (A ++ [[i]]) ∧ Below X.heap.size X w') := fun v W gr gq hW ho h1 h2 => by
              obtain ⟨v', w', r, o, _, _, bl⟩ := app_L (c := 1) (b := gq) (o := 0) (H := [[i]]) (gg := fun _ => gr) (cc := fun _ => 1) ho hW.size (by simp; omega) (fun j hj => by
                have : j = 0 := by simpa using hj
                subst this
                exact ⟨h2, ⟨_, h1, fun j hj => by
                  have : j = 0 := by simpa [nthL] using hj
                  subst this
                  rfl⟩⟩)
              exact ⟨v', w', r, o, bl X hW⟩
            have P3 : Hid (∀ v W, Below X.heap.size X W → OwnL W X.heap.size v kr (A ++ [[i]]) → ∃ v' w', (Builtin.append_ #[40, 40] 40 #[v, .slice (some ⟨go, 0, none⟩) 0 0]).run Try.prog W = .ok v' w' ∧ OwnL w' X.heap.size v' kr (A ++ [i] :: C) ∧ Below X.heap.size X w' ∧ v' ≠ .slice none 0 0) := fun v W hW ho => by
              obtain ⟨v', w', r, o, nn, _, bl⟩ := app_L (c := 0) (b := go) (o := 0) (H := C) (gg := fun j => gg (gn + j)) (cc := fun j => cc (gn + j)) ho hW.size (by simp; omega) (fun j hj => by
                have := HLX.out W hW (gn + j) (by omega)
                have e : nthL G (gn + j) = nthL C j := by rw [← hAC, ← hk0, nthL_right]
                rw [e] at this
                rw [show 0 + j = gn + j by omega]
                exact this)
              rw [hDl] at r
              rw [List.append_assoc] at o
              refine ⟨v', w', r, o, bl X hW, fun e => ?_⟩
              have := nn e
              subst this
              obtain ⟨xs, _, _, ⟨hx, hq⟩, _⟩ := ho
              rcases hq with ⟨_, h0⟩ | ⟨g9, c9, cu9, e9, _⟩
              · simp at h0
              · cases e9
            have LC : Hid (∀ W, Below X.heap.size X W → StU1 br (or + i) (kr.v i) W) := fun W hW => LCW.out i hiN W (HWX.out.2 W hW)
            have HNX : Hid (∀ v W, OwnL W w.heap.size v kr (A ++ [i] :: C) → v ≠ .slice none 0 0 → Below w.heap.size w W → Hid (OwnL W w.heap.size v kr (A ++ [i] :: C) ∧ v ≠ .slice none 0 0 ∧ Grp (ltG cs rs) (i + 1) (A ++ [i] :: C)) ∧ Below w.heap.size w W) := fun v W h1 h2 h3 => ⟨⟨h1, h2, hGK⟩, h3⟩
            clear hAC hk0 hDl HLX hGK BX hBq hboq hbq
            have fr : ∀ (W : World) (o : Obj), Below W.heap.size W (W.alloc o) := fun W o => (Below.refl _ _).alloc (Nat.le_refl _) _
            have Ba : Below X.heap.size X (X.alloc (.cells #[] 23)).drew := (fr X _).drew
            have Za : (X.alloc (.cells #[] 23)).drew.heap[X.heap.size]? = some (.cells #[] 23 (0, 0)) := by
              show (X.alloc (.cells #[] 23)).heap[X.heap.size]? = _
              exact heap_new' _ _ _ (by simp)
            obtain ⟨v1a, w1a, r1a, o1a, b1a, g1a⟩ := P1.out (.slice (some ⟨X.heap.size, 0, none⟩) 0 0) _ Ba (OwnL.mt (by omega) Za)
            obtain ⟨v2a, w2a, r2a, o2a, b2a⟩ := P2.out v1a ((w1a.alloc (.cells #[kr.v i] 28)).alloc (.cells #[.slice (some ⟨w1a.heap.size, 0, none⟩) 1 1] 23)) (w1a.heap.size) (w1a.heap.size + 1) ((b1a.alloc b1a.size _).alloc (Nat.le_trans b1a.size (by simp)) _) ((o1a.below (fr _ _)).below (fr _ _)) ((heap_old _ _ _ (by simp <;> omega)).trans (heap_new' _ _ _ rfl)) (by simp)
            obtain ⟨v3a, w3a, r3a, o3a, b3a, h3a⟩ := P3.out v2a w2a b2a o2a
            have Ua1 : Hid (StU1 br (or + i) (kr.v i) (X.alloc (.cells #[] 23)).drew) := LC.out _ Ba
            have Ua2 : Hid (StU1 br (or + i) (kr.v i) w1a) := LC.out _ b1a
            have Ua3 : Hid (StU1 br (or + i) (kr.v i) w2a) := LC.out _ b2a
            have Ua4 : Hid (StU1 br (or + i) (kr.v i) w3a) := LC.out _ b3a
            have Ua5 : Hid (StU1 br (or + i) (kr.v i) (w1a.alloc (.cells #[kr.v i] 28))) := LC.out _ (b1a.alloc b1a.size _)
            have Ua6 : Hid (StU1 br (or + i) (kr.v i) ((w1a.alloc (.cells #[kr.v i] 28)).alloc (.cells #[.slice (some ⟨w1a.heap.size, 0, none⟩) 1 1] 23))) := LC.out _ ((b1a.alloc b1a.size _).alloc (Nat.le_trans b1a.size (by simp)) _)
            have Bb : Below X.heap.size X ((X.alloc (.cells #[] 23)).alloc (.cells #[kr.v i] 28)).drew := ((fr X _).alloc (by simp <;> omega) _).drew
            have Zb : ((X.alloc (.cells #[] 23)).alloc (.cells #[kr.v i] 28)).drew.heap[X.heap.size]? = some (.cells #[] 23 (0, 0)) := by
              show ((X.alloc (.cells #[] 23)).alloc (.cells #[kr.v i] 28)).heap[X.heap.size]? = _
              exact (heap_old _ _ _ (by simp <;> omega)).trans (heap_new' _ _ _ (by simp))
            obtain ⟨v1b, w1b, r1b, o1b, b1b, g1b⟩ := P1.out (.slice (some ⟨X.heap.size, 0, none⟩) 0 0) _ Bb (OwnL.mt (by omega) Zb)
            have yb : ((X.alloc (.cells #[] 23)).alloc (.cells #[kr.v i] 28)).drew.heap[X.heap.size + 1]? = some (.cells #[kr.v i] 28 (0, 0)) := by
              show ((X.alloc (.cells #[] 23)).alloc (.cells #[kr.v i] 28)).heap[X.heap.size + 1]? = _
              exact heap_new' _ _ _ (by simp)
            have yb' : w1b.heap[X.heap.size + 1]? = some (.cells #[kr.v i] 28 (0, 0)) := (g1b.block _ (slab_lt yb) (fun h => by simp [Value.ownBlock] at h)).trans yb
            obtain ⟨v2b, w2b, r2b, o2b, b2b⟩ := P2.out v1b (w1b.alloc (.cells #[.slice (some ⟨X.heap.size + 1, 0, none⟩) 1 1] 23)) (X.heap.size + 1) w1b.heap.size (b1b.alloc b1b.size _) (o1b.below (fr _ _)) ((heap_old _ _ _ (slab_lt yb')).trans yb') (by simp)
            obtain ⟨v3b, w3b, r3b, o3b, b3b, h3b⟩ := P3.out v2b w2b b2b o2b
            have Ub1 : Hid (StU1 br (or + i) (kr.v i) ((X.alloc (.cells #[] 23)).alloc (.cells #[kr.v i] 28)).drew) := LC.out _ Bb
            have Ub2 : Hid (StU1 br (or + i) (kr.v i) w1b) := LC.out _ b1b
            have Ub3 : Hid (StU1 br (or + i) (kr.v i) w2b) := LC.out _ b2b
            have Ub4 : Hid (StU1 br (or + i) (kr.v i) w3b) := LC.out _ b3b
            have Ub5 : Hid (StU1 br (or + i) (kr.v i) (w1b.alloc (.cells #[.slice (some ⟨X.heap.size + 1, 0, none⟩) 1 1] 23))) := LC.out _ (b1b.alloc b1b.size _)
            have Bc : Below X.heap.size X (((X.alloc (.cells #[] 23)).alloc (.cells #[kr.v i] 28)).alloc (.cells #[.slice (some ⟨X.heap.size + 1, 0, none⟩) 1 1] 23)).drew := (((fr X _).alloc (by simp <;> omega) _).alloc (by simp <;> omega) _).drew
            have Zc : (((X.alloc (.cells #[] 23)).alloc (.cells #[kr.v i] 28)).alloc (.cells #[.slice (some ⟨X.heap.size + 1, 0, none⟩) 1 1] 23)).drew.heap[X.heap.size]? = some (.cells #[] 23 (0, 0)) := by
              show (((X.alloc (.cells #[] 23)).alloc (.cells #[kr.v i] 28)).alloc (.cells #[.slice (some ⟨X.heap.size + 1, 0, none⟩) 1 1] 23)).heap[X.heap.size]? = _
              exact (heap_old _ _ _ (by simp <;> omega)).trans ((heap_old _ _ _ (by simp <;> omega)).trans (heap_new' _ _ _ (by simp)))
            obtain ⟨v1c, w1c, r1c, o1c, b1c, g1c⟩ := P1.out (.slice (some ⟨X.heap.size, 0, none⟩) 0 0) _ Bc (OwnL.mt (by omega) Zc)
            have yc : (((X.alloc (.cells #[] 23)).alloc (.cells #[kr.v i] 28)).alloc (.cells #[.slice (some ⟨X.heap.size + 1, 0, none⟩) 1 1] 23)).drew.heap[X.heap.size + 1]? = some (.cells #[kr.v i] 28 (0, 0)) := by
              show (((X.alloc (.cells #[] 23)).alloc (.cells #[kr.v i] 28)).alloc (.cells #[.slice (some ⟨X.heap.size + 1, 0, none⟩) 1 1] 23)).heap[X.heap.size + 1]? = _
              exact (heap_old _ _ _ (by simp <;> omega)).trans (heap_new' _ _ _ (by simp))
            have yc' : w1c.heap[X.heap.size + 1]? = some (.cells #[kr.v i] 28 (0, 0)) := (g1c.block _ (slab_lt yc) (fun h => by simp [Value.ownBlock] at h)).trans yc
            have qc : (((X.alloc (.cells #[] 23)).alloc (.cells #[kr.v i] 28)).alloc (.cells #[.slice (some ⟨X.heap.size + 1, 0, none⟩) 1 1] 23)).drew.heap[X.heap.size + 2]? = some (.cells #[.slice (some ⟨X.heap.size + 1, 0, none⟩) 1 1] 23 (0, 0)) := by
              show (((X.alloc (.cells #[] 23)).alloc (.cells #[kr.v i] 28)).alloc (.cells #[.slice (some ⟨X.heap.size + 1, 0, none⟩) 1 1] 23)).heap[X.heap.size + 2]? = _
              exact heap_new' _ _ _ (by simp)
            have qc' : w1c.heap[X.heap.size + 2]? = some (.cells #[.slice (some ⟨X.heap.size + 1, 0, none⟩) 1 1] 23 (0, 0)) := (g1c.block _ (slab_lt qc) (fun h => by simp [Value.ownBlock] at h)).trans qc
            obtain ⟨v2c, w2c, r2c, o2c, b2c⟩ := P2.out v1c w1c (X.heap.size + 1) (X.heap.size + 2) b1c o1c yc' (by rw [slab_cell qc']; rfl)
            obtain ⟨v3c, w3c, r3c, o3c, b3c, h3c⟩ := P3.out v2c w2c b2c o2c
            have Uc1 : Hid (StU1 br (or + i) (kr.v i) (((X.alloc (.cells #[] 23)).alloc (.cells #[kr.v i] 28)).alloc (.cells #[.slice (some ⟨X.heap.size + 1, 0, none⟩) 1 1] 23)).drew) := LC.out _ Bc
            have Uc2 : Hid (StU1 br (or + i) (kr.v i) w1c) := LC.out _ b1c
            have Uc3 : Hid (StU1 br (or + i) (kr.v i) w2c) := LC.out _ b2c
            have Uc4 : Hid (StU1 br (or + i) (kr.v i) w3c) := LC.out _ b3c
            have Bd : Below X.heap.size X ((X.alloc (.cells #[kr.v i] 28)).alloc (.cells #[] 23)).drew := ((fr X _).alloc (by simp <;> omega) _).drew
            have Zd : ((X.alloc (.cells #[kr.v i] 28)).alloc (.cells #[] 23)).drew.heap[X.heap.size + 1]? = some (.cells #[] 23 (0, 0)) := by
              show ((X.alloc (.cells #[kr.v i] 28)).alloc (.cells #[] 23)).heap[X.heap.size + 1]? = _
              exact heap_new' _ _ _ (by simp)
            obtain ⟨v1d, w1d, r1d, o1d, b1d, g1d⟩ := P1.out (.slice (some ⟨X.heap.size + 1, 0, none⟩) 0 0) _ Bd (OwnL.mt (by omega) Zd)
            have yd : ((X.alloc (.cells #[kr.v i] 28)).alloc (.cells #[] 23)).drew.heap[X.heap.size]? = some (.cells #[kr.v i] 28 (0, 0)) := by
              show ((X.alloc (.cells #[kr.v i] 28)).alloc (.cells #[] 23)).heap[X.heap.size]? = _
              exact (heap_old _ _ _ (by simp <;> omega)).trans (heap_new' _ _ _ (by simp))
            have yd' : w1d.heap[X.heap.size]? = some (.cells #[kr.v i] 28 (0, 0)) := (g1d.block _ (slab_lt yd) (fun h => by simp [Value.ownBlock] at h)).trans yd
            obtain ⟨v2d, w2d, r2d, o2d, b2d⟩ := P2.out v1d (w1d.alloc (.cells #[.slice (some ⟨X.heap.size, 0, none⟩) 1 1] 23)) (X.heap.size) w1d.heap.size (b1d.alloc b1d.size _) (o1d.below (fr _ _)) ((heap_old _ _ _ (slab_lt yd')).trans yd') (by simp)
            obtain ⟨v3d, w3d, r3d, o3d, b3d, h3d⟩ := P3.out v2d w2d b2d o2d
            have Ud1 : Hid (StU1 br (or + i) (kr.v i) ((X.alloc (.cells #[kr.v i] 28)).alloc (.cells #[] 23)).drew) := LC.out _ Bd
            have Ud2 : Hid (StU1 br (or + i) (kr.v i) w1d) := LC.out _ b1d
            have Ud3 : Hid (StU1 br (or + i) (kr.v i) w2d) := LC.out _ b2d
            have Ud4 : Hid (StU1 br (or + i) (kr.v i) w3d) := LC.out _ b3d
            have Ud5 : Hid (StU1 br (or + i) (kr.v i) (w1d.alloc (.cells #[.slice (some ⟨X.heap.size, 0, none⟩) 1 1] 23))) := LC.out _ (b1d.alloc b1d.size _)
            have Be : Below X.heap.size X (((X.alloc (.cells #[kr.v i] 28)).alloc (.cells #[] 23)).alloc (.cells #[.slice (some ⟨X.heap.size, 0, none⟩) 1 1] 23)).drew := (((fr X _).alloc (by simp <;> omega) _).alloc (by simp <;> omega) _).drew
            have Ze : (((X.alloc (.cells #[kr.v i] 28)).alloc (.cells #[] 23)).alloc (.cells #[.slice (some ⟨X.heap.size, 0, none⟩) 1 1] 23)).drew.heap[X.heap.size + 1]? = some (.cells #[] 23 (0, 0)) := by
              show (((X.alloc (.cells #[kr.v i] 28)).alloc (.cells #[] 23)).alloc (.cells #[.slice (some ⟨X.heap.size, 0, none⟩) 1 1] 23)).heap[X.heap.size + 1]? = _
              exact (heap_old _ _ _ (by simp <;> omega)).trans (heap_new' _ _ _ (by simp))
            obtain ⟨v1e, w1e, r1e, o1e, b1e, g1e⟩ := P1.out (.slice (some ⟨X.heap.size + 1, 0, none⟩) 0 0) _ Be (OwnL.mt (by omega) Ze)
            have ye : (((X.alloc (.cells #[kr.v i] 28)).alloc (.cells #[] 23)).alloc (.cells #[.slice (some ⟨X.heap.size, 0, none⟩) 1 1] 23)).drew.heap[X.heap.size]? = some (.cells #[kr.v i] 28 (0, 0)) := by
              show (((X.alloc (.cells #[kr.v i] 28)).alloc (.cells #[] 23)).alloc (.cells #[.slice (some ⟨X.heap.size, 0, none⟩) 1 1] 23)).heap[X.heap.size]? = _
              exact (heap_old _ _ _ (by simp <;> omega)).trans ((heap_old _ _ _ (by simp <;> omega)).trans (heap_new' _ _ _ (by simp)))
            have ye' : w1e.heap[X.heap.size]? = some (.cells #[kr.v i] 28 (0, 0)) := (g1e.block _ (slab_lt ye) (fun h => by simp [Value.ownBlock] at h)).trans ye
            have qe : (((X.alloc (.cells #[kr.v i] 28)).alloc (.cells #[] 23)).alloc (.cells #[.slice (some ⟨X.heap.size, 0, none⟩) 1 1] 23)).drew.heap[X.heap.size + 2]? = some (.cells #[.slice (some ⟨X.heap.size, 0, none⟩) 1 1] 23 (0, 0)) := by
              show (((X.alloc (.cells #[kr.v i] 28)).alloc (.cells #[] 23)).alloc (.cells #[.slice (some ⟨X.heap.size, 0, none⟩) 1 1] 23)).heap[X.heap.size + 2]? = _
              exact heap_new' _ _ _ (by simp)
            have qe' : w1e.heap[X.heap.size + 2]? = some (.cells #[.slice (some ⟨X.heap.size, 0, none⟩) 1 1] 23 (0, 0)) := (g1e.block _ (slab_lt qe) (fun h => by simp [Value.ownBlock] at h)).trans qe
            obtain ⟨v2e, w2e, r2e, o2e, b2e⟩ := P2.out v1e w1e (X.heap.size) (X.heap.size + 2) b1e o1e ye' (by rw [slab_cell qe']; rfl)
            obtain ⟨v3e, w3e, r3e, o3e, b3e, h3e⟩ := P3.out v2e w2e b2e o2e
            have Ue1 : Hid (StU1 br (or + i) (kr.v i) (((X.alloc (.cells #[kr.v i] 28)).alloc (.cells #[] 23)).alloc (.cells #[.slice (some ⟨X.heap.size, 0, none⟩) 1 1] 23)).drew) := LC.out _ Be
            have Ue2 : Hid (StU1 br (or + i) (kr.v i) w1e) := LC.out _ b1e
            have Ue3 : Hid (StU1 br (or + i) (kr.v i) w2e) := LC.out _ b2e
            have Ue4 : Hid (StU1 br (or + i) (kr.v i) w3e) := LC.out _ b3e
            have Bf : Below X.heap.size X (((X.alloc (.cells #[kr.v i] 28)).alloc (.cells #[.slice (some ⟨X.heap.size, 0, none⟩) 1 1] 23)).alloc (.cells #[] 23)).drew := (((fr X _).alloc (by simp <;> omega) _).alloc (by simp <;> omega) _).drew
            have Zf : (((X.alloc (.cells #[kr.v i] 28)).alloc (.cells #[.slice (some ⟨X.heap.size, 0, none⟩) 1 1] 23)).alloc (.cells #[] 23)).drew.heap[X.heap.size + 2]? = some (.cells #[] 23 (0, 0)) := by
              show (((X.alloc (.cells #[kr.v i] 28)).alloc (.cells #[.slice (some ⟨X.heap.size, 0, none⟩) 1 1] 23)).alloc (.cells #[] 23)).heap[X.heap.size + 2]? = _
              exact heap_new' _ _ _ (by simp)
            obtain ⟨v1f, w1f, r1f, o1f, b1f, g1f⟩ := P1.out (.slice (some ⟨X.heap.size + 2, 0, none⟩) 0 0) _ Bf (OwnL.mt (by omega) Zf)
            have yf : (((X.alloc (.cells #[kr.v i] 28)).alloc (.cells #[.slice (some ⟨X.heap.size, 0, none⟩) 1 1] 23)).alloc (.cells #[] 23)).drew.heap[X.heap.size]? = some (.cells #[kr.v i] 28 (0, 0)) := by
              show (((X.alloc (.cells #[kr.v i] 28)).alloc (.cells #[.slice (some ⟨X.heap.size, 0, none⟩) 1 1] 23)).alloc (.cells #[] 23)).heap[X.heap.size]? = _
              exact (heap_old _ _ _ (by simp <;> omega)).trans ((heap_old _ _ _ (by simp <;> omega)).trans (heap_new' _ _ _ (by simp)))
            have yf' : w1f.heap[X.heap.size]? = some (.cells #[kr.v i] 28 (0, 0)) := (g1f.block _ (slab_lt yf) (fun h => by simp [Value.ownBlock] at h)).trans yf
            have qf : (((X.alloc (.cells #[kr.v i] 28)).alloc (.cells #[.slice (some ⟨X.heap.size, 0, none⟩) 1 1] 23)).alloc (.cells #[] 23)).drew.heap[X.heap.size + 1]? = some (.cells #[.slice (some ⟨X.heap.size, 0, none⟩) 1 1] 23 (0, 0)) := by
              show (((X.alloc (.cells #[kr.v i] 28)).alloc (.cells #[.slice (some ⟨X.heap.size, 0, none⟩) 1 1] 23)).alloc (.cells #[] 23)).heap[X.heap.size + 1]? = _
              exact (heap_old _ _ _ (by simp <;> omega)).trans (heap_new' _ _ _ (by simp))
            have qf' : w1f.heap[X.heap.size + 1]? = some (.cells #[.slice (some ⟨X.heap.size, 0, none⟩) 1 1] 23 (0, 0)) := (g1f.block _ (slab_lt qf) (fun h => by simp [Value.ownBlock] at h)).trans qf
            obtain ⟨v2f, w2f, r2f, o2f, b2f⟩ := P2.out v1f w1f (X.heap.size) (X.heap.size + 1) b1f o1f yf' (by rw [slab_cell qf']; rfl)
            obtain ⟨v3f, w3f, r3f, o3f, b3f, h3f⟩ := P3.out v2f w2f b2f o2f
            have Uf1 : Hid (StU1 br (or + i) (kr.v i) (((X.alloc (.cells #[kr.v i] 28)).alloc (.cells #[.slice (some ⟨X.heap.size, 0, none⟩) 1 1] 23)).alloc (.cells #[] 23)).drew) := LC.out _ Bf
            have Uf2 : Hid (StU1 br (or + i) (kr.v i) w1f) := LC.out _ b1f
            have Uf3 : Hid (StU1 br (or + i) (kr.v i) w2f) := LC.out _ b2f
            have Uf4 : Hid (StU1 br (or + i) (kr.v i) w3f) := LC.out _ b3f
            have U0 : Hid (StU1 br (or + i) (kr.v i) X.drew) := LC.out _ (Below.refl _ _).drew
            have BR1 : Below X.heap.size X (X.alloc (.cells #[kr.v i] 28)).drew := (fr X _).drew
            have UR1 : Hid (StU1 br (or + i) (kr.v i) (X.alloc (.cells #[kr.v i] 28)).drew) := LC.out _ BR1
            have BR2 : Below X.heap.size X ((X.alloc (.cells #[kr.v i] 28)).alloc (.cells #[.slice (some ⟨X.heap.size, 0, none⟩) 1 1] 23)).drew := ((fr X _).alloc (by simp) _).drew
            have UR2 : Hid (StU1 br (or + i) (kr.v i) ((X.alloc (.cells #[kr.v i] 28)).alloc (.cells #[.slice (some ⟨X.heap.size, 0, none⟩) 1 1] 23)).drew) := LC.out _ BR2
            have HF : Hid ((OwnL w3a w.heap.size v3a kr (A ++ [i] :: C) ∧ v3a ≠ .slice none 0 0 ∧ Below w.heap.size w w3a) ∧ (OwnL w3b w.heap.size v3b kr (A ++ [i] :: C) ∧ v3b ≠ .slice none 0 0 ∧ Below w.heap.size w w3b) ∧ (OwnL w3c w.heap.size v3c kr (A ++ [i] :: C) ∧ v3c ≠ .slice none 0 0 ∧ Below w.heap.size w w3c) ∧ (OwnL w3d w.heap.size v3d kr (A ++ [i] :: C) ∧ v3d ≠ .slice none 0 0 ∧ Below w.heap.size w w3d) ∧ (OwnL w3e w.heap.size v3e kr (A ++ [i] :: C) ∧ v3e ≠ .slice none 0 0 ∧ Below w.heap.size w w3e) ∧ (OwnL w3f w.heap.size v3f kr (A ++ [i] :: C) ∧ v3f ≠ .slice none 0 0 ∧ Below w.heap.size w w3f)) := ⟨⟨o3a.base HWX.out.1, h3a, HWX.out.2 _ b3a⟩, ⟨o3b.base HWX.out.1, h3b, HWX.out.2 _ b3b⟩, ⟨o3c.base HWX.out.1, h3c, HWX.out.2 _ b3c⟩, ⟨o3d.base HWX.out.1, h3d, HWX.out.2 _ b3d⟩, ⟨o3e.base HWX.out.1, h3e, HWX.out.2 _ b3e⟩, ⟨o3f.base HWX.out.1, h3f, HWX.out.2 _ b3f⟩⟩
            clear fr Ba Za o1a b1a g1a o2a b2a Bb Zb o1b b1b g1b o2b b2b yb yb' Bc Zc o1c b1c g1c o2c b2c yc yc' qc qc' Bd Zd o1d b1d g1d o2d b2d yd yd' Be Ze o1e b1e g1e o2e b2e ye ye' qe qe' Bf Zf o1f b1f g1f o2f b2f yf yf' qf qf' BR1 BR2 o3a b3a h3a o3b b3b h3b o3c b3c h3c o3d b3d h3d o3e b3e h3e o3f b3f h3f P1 P2 P3 LC
            go_wp2_with fail
            go_region_held3 (StU1 br (or + i) (kr.v i)) (first | exact U0.out | exact UR1.out | exact UR2.out | exact Ua1.out | exact Ua2.out | exact Ua3.out | exact Ua4.out | exact Ub1.out | exact Ub2.out | exact Ub3.out | exact Ub4.out | exact Uc1.out | exact Uc2.out | exact Uc3.out | exact Uc4.out | exact Ud1.out | exact Ud2.out | exact Ud3.out | exact Ud4.out | exact Ue1.out | exact Ue2.out | exact Ue3.out | exact Ue4.out | exact Uf1.out | exact Uf2.out | exact Uf3.out | exact Uf4.out | exact Ua5.out | exact Ua6.out | exact Ub5.out | exact Ud5.out) (first
              | ((with_reducible change (if _ = true then Oper.wp _ _ _ ((X.alloc (.cells #[] 23)).drew) _ _ else _)); refine step_append_run (by rfl) _ _ _ _ (by rfl) _ _ (by rfl) (by rfl) _ _ r1a ?_)
              | ((with_reducible change (if _ = true then Oper.wp _ _ _ (((w1a.alloc (.cells #[kr.v i] 28)).alloc (.cells #[.slice (some ⟨w1a.heap.size, 0, none⟩) 1 1] 23))) _ _ else _)); refine step_append_run (by rfl) _ _ _ _ (by rfl) _ _ (by rfl) (by rfl) _ _ r2a ?_)
              | ((with_reducible change (if _ = true then Oper.wp _ _ _ (w2a) _ _ else _)); refine step_append_run (by rfl) _ _ _ _ (by rfl) _ _ (by rfl) (by rfl) _ _ r3a ?_)
              | ((with_reducible change (if _ = true then Oper.wp _ _ _ (((X.alloc (.cells #[] 23)).alloc (.cells #[kr.v i] 28)).drew) _ _ else _)); refine step_append_run (by rfl) _ _ _ _ (by rfl) _ _ (by rfl) (by rfl) _ _ r1b ?_)
              | ((with_reducible change (if _ = true then Oper.wp _ _ _ ((w1b.alloc (.cells #[.slice (some ⟨X.heap.size + 1, 0, none⟩) 1 1] 23))) _ _ else _)); refine step_append_run (by rfl) _ _ _ _ (by rfl) _ _ (by rfl) (by rfl) _ _ r2b ?_)
              | ((with_reducible change (if _ = true then Oper.wp _ _ _ (w2b) _ _ else _)); refine step_append_run (by rfl) _ _ _ _ (by rfl) _ _ (by rfl) (by rfl) _ _ r3b ?_)
              | ((with_reducible change (if _ = true then Oper.wp _ _ _ ((((X.alloc (.cells #[] 23)).alloc (.cells #[kr.v i] 28)).alloc (.cells #[.slice (some ⟨X.heap.size + 1, 0, none⟩) 1 1] 23)).drew) _ _ else _)); refine step_append_run (by rfl) _ _ _ _ (by rfl) _ _ (by rfl) (by rfl) _ _ r1c ?_)
              | ((with_reducible change (if _ = true then Oper.wp _ _ _ (w1c) _ _ else _)); refine step_append_run (by rfl) _ _ _ _ (by rfl) _ _ (by rfl) (by rfl) _ _ r2c ?_)
              | ((with_reducible change (if _ = true then Oper.wp _ _ _ (w2c) _ _ else _)); refine step_append_run (by rfl) _ _ _ _ (by rfl) _ _ (by rfl) (by rfl) _ _ r3c ?_)
              | ((with_reducible change (if _ = true then Oper.wp _ _ _ (((X.alloc (.cells #[kr.v i] 28)).alloc (.cells #[] 23)).drew) _ _ else _)); refine step_append_run (by rfl) _ _ _ _ (by rfl) _ _ (by rfl) (by rfl) _ _ r1d ?_)
              | ((with_reducible change (if _ = true then Oper.wp _ _ _ ((w1d.alloc (.cells #[.slice (some ⟨X.heap.size, 0, none⟩) 1 1] 23))) _ _ else _)); refine step_append_run (by rfl) _ _ _ _ (by rfl) _ _ (by rfl) (by rfl) _ _ r2d ?_)
              | ((with_reducible change (if _ = true then Oper.wp _ _ _ (w2d) _ _ else _)); refine step_append_run (by rfl) _ _ _ _ (by rfl) _ _ (by rfl) (by rfl) _ _ r3d ?_)
              | ((with_reducible change (if _ = true then Oper.wp _ _ _ ((((X.alloc (.cells #[kr.v i] 28)).alloc (.cells #[] 23)).alloc (.cells #[.slice (some ⟨X.heap.size, 0, none⟩) 1 1] 23)).drew) _ _ else _)); refine step_append_run (by rfl) _ _ _ _ (by rfl) _ _ (by rfl) (by rfl) _ _ r1e ?_)
              | ((with_reducible change (if _ = true then Oper.wp _ _ _ (w1e) _ _ else _)); refine step_append_run (by rfl) _ _ _ _ (by rfl) _ _ (by rfl) (by rfl) _ _ r2e ?_)
              | ((with_reducible change (if _ = true then Oper.wp _ _ _ (w2e) _ _ else _)); refine step_append_run (by rfl) _ _ _ _ (by rfl) _ _ (by rfl) (by rfl) _ _ r3e ?_)
              | ((with_reducible change (if _ = true then Oper.wp _ _ _ ((((X.alloc (.cells #[kr.v i] 28)).alloc (.cells #[.slice (some ⟨X.heap.size, 0, none⟩) 1 1] 23)).alloc (.cells #[] 23)).drew) _ _ else _)); refine step_append_run (by rfl) _ _ _ _ (by rfl) _ _ (by rfl) (by rfl) _ _ r1f ?_)
              | ((with_reducible change (if _ = true then Oper.wp _ _ _ (w1f) _ _ else _)); refine step_append_run (by rfl) _ _ _ _ (by rfl) _ _ (by rfl) (by rfl) _ _ r2f ?_)
              | ((with_reducible change (if _ = true then Oper.wp _ _ _ (w2f) _ _ else _)); refine step_append_run (by rfl) _ _ _ _ (by rfl) _ _ (by rfl) (by rfl) _ _ r3f ?_)
              | fail)
            all_goals
              (try simp only [List.getElem_toArray, List.getElem_cons_succ, List.getElem_cons_zero, Act.put, List.setIfInBounds_toArray, List.set_cons_succ, List.set_cons_zero])
              go_wp2
              go_roundw
              case rel =>
                first
                | exact ⟨i + 1, _, by omega, by go_num, HNX.out _ _ HF.out.1.1 HF.out.1.2.1 HF.out.1.2.2⟩
                | exact ⟨i + 1, _, by omega, by go_num, HNX.out _ _ HF.out.2.1.1 HF.out.2.1.2.1 HF.out.2.1.2.2⟩
                | exact ⟨i + 1, _, by omega, by go_num, HNX.out _ _ HF.out.2.2.1.1 HF.out.2.2.1.2.1 HF.out.2.2.1.2.2⟩
                | exact ⟨i + 1, _, by omega, by go_num, HNX.out _ _ HF.out.2.2.2.1.1 HF.out.2.2.2.1.2.1 HF.out.2.2.2.1.2.2⟩
                | exact ⟨i + 1, _, by omega, by go_num, HNX.out _ _ HF.out.2.2.2.2.1.1 HF.out.2.2.2.2.1.2.1 HF.out.2.2.2.2.1.2.2⟩
                | exact ⟨i + 1, _, by omega, by go_num, HNX.out _ _ HF.out.2.2.2.2.2.1 HF.out.2.2.2.2.2.2.1 HF.out.2.2.2.2.2.2.2⟩
              case measure => simp [intOf]; omega
          · have HWX : Hid (w.heap.size ≤ X.heap.size ∧ ∀ W, Below X.heap.size X W → Below w.heap.size w W) := ⟨Nat.le_trans hbo.size BX.size, fun W hW => below_step (below_step hbo (Nat.le_refl _) BX) (Nat.le_refl _) hW⟩
            have hgl4 : gn ≤ 400 := by omega
            have HLX : Hid (∀ W, Below X.heap.size X W → ∀ j, j < gn → W.cell? ⟨go, j, none⟩ = some (.slice (some ⟨gg j, 0, none⟩) (nthL G j).length (cc j)) ∧ GrpB W (gg j) kr (nthL G j)) := fun W hW j hj => HL.out W (below_step BX (Nat.le_refl _) hW) j hj
            have hDl : C.length = 0 := by have := HG.out.2.2.1; rw [← hAC, List.length_append] at this; omega
            have P1 : Hid (∀ v W, Below X.heap.size X W → OwnL W X.heap.size v kr [] → ∃ v' w', (Builtin.append_ #[40, 40] 40 #[v, .slice (some ⟨go, 0, none⟩) gn co]).run Try.prog W = .ok v' w' ∧ OwnL w' X.heap.size v' kr A ∧ Below X.heap.size X w' ∧ W.grownBy w' v.ownBlock) := fun v W hW ho => by
              obtain ⟨v', w', r, o, _, g, bl⟩ := app_L (c := co) (b := go) (o := 0) (H := A) (gg := gg) (cc := cc) ho hW.size (by simp; omega) (fun j hj => by
                have := HLX.out W hW j (by omega)
                rw [← hAC, nthL_left hj] at this
                rw [Nat.zero_add]
                exact this)
              rw [hk0] at r
              exact ⟨v', w', r, o, bl X hW, g⟩
            have P2 : Hid (∀ v W gr gq, Below X.heap.size X W → OwnL W X.heap.size v kr A → W.heap[gr]? = some (.cells #[kr.v i] 28 (0, 0)) → W.cell? ⟨gq, 0, none⟩ = some (.slice (some ⟨gr, 0, none⟩) 1 1) → ∃ v' w', (Builtin.append_ #[40, 40] 40 #[v, .slice (some ⟨gq, 0, none⟩) 1 1]).run Try.prog W = .ok v' w' ∧ OwnL w' X.heap.size v' kr (A ++ [[i]]) ∧ Below X.heap.size X w') := fun v W gr gq hW ho h1 h2 => by
              obtain ⟨v', w', r, o, _, _, bl⟩ := app_L (c := 1) (b := gq) (o := 0) (H := [[i]]) (gg := fun _ => gr) (cc := fun _ => 1) ho hW.size (by simp; omega) (fun j hj => by
                have : j = 0 := by simpa using hj
                subst this
                exact ⟨h2, ⟨_, h1, fun j hj => by
                  have : j = 0 := by simpa [nthL] using hj
                  subst this
                  rfl⟩⟩)
              exact ⟨v', w', r, o, bl X hW⟩
            have P3 : Hid (∀ v W, Below X.heap.size X W → OwnL W X.heap.size v kr (A ++ [[i]]) → ∃ v' w', (Builtin.append_ #[40, 40] 40 #[v, .slice (some ⟨go, gn, none⟩) 0 (co - gn)]).run Try.prog W = .ok v' w' ∧ OwnL w' X.heap.size v' kr (A ++ [i] :: C) ∧ Below X.heap.size X w' ∧ v' ≠ .slice none 0 0) := fun v W hW ho => by
              obtain ⟨v', w', r, o, nn, _, bl⟩ := app_L (c := co - gn) (b := go) (o := gn) (H := C) (gg := fun j => gg (gn + j)) (cc := fun j => cc (gn + j)) ho hW.size (by simp; omega) (fun j hj => by
                have := HLX.out W hW (gn + j) (by omega)
                have e : nthL G (gn + j) = nthL C j := by rw [← hAC, ← hk0, nthL_right]
                rw [e] at this
                rw [show gn + j = gn + j by omega]
                exact this)
              rw [hDl] at r
              rw [List.append_assoc] at o
              refine ⟨v', w', r, o, bl X hW, fun e => ?_⟩
              have := nn e
              subst this
              obtain ⟨xs, _, _, ⟨hx, hq⟩, _⟩ := ho
              rcases hq with ⟨_, h0⟩ | ⟨g9, c9, cu9, e9, _⟩
              · simp at h0
              · cases e9
            have LC : Hid (∀ W, Below X.heap.size X W → StU1 br (or + i) (kr.v i) W) := fun W hW => LCW.out i hiN W (HWX.out.2 W hW)
            have HNX : Hid (∀ v W, OwnL W w.heap.size v kr (A ++ [i] :: C) → v ≠ .slice none 0 0 → Below w.heap.size w W → Hid (OwnL W w.heap.size v kr (A ++ [i] :: C) ∧ v ≠ .slice none 0 0 ∧ Grp (ltG cs rs) (i + 1) (A ++ [i] :: C)) ∧ Below w.heap.size w W) := fun v W h1 h2 h3 => ⟨⟨h1, h2, hGK⟩, h3⟩
            clear hAC hk0 hDl HLX hGK BX hBq hboq hbq
            have hkc : gn ≤ co := by omega
            have fr : ∀ (W : World) (o : Obj), Below W.heap.size W (W.alloc o) := fun W o => (Below.refl _ _).alloc (Nat.le_refl _) _
            have Ba : Below X.heap.size X (X.alloc (.cells #[] 23)).drew := (fr X _).drew
            have Za : (X.alloc (.cells #[] 23)).drew.heap[X.heap.size]? = some (.cells #[] 23 (0, 0)) := by
              show (X.alloc (.cells #[] 23)).heap[X.heap.size]? = _
              exact heap_new' _ _ _ (by simp)
            obtain ⟨v1a, w1a, r1a, o1a, b1a, g1a⟩ := P1.out (.slice (some ⟨X.heap.size, 0, none⟩) 0 0) _ Ba (OwnL.mt (by omega) Za)
            obtain ⟨v2a, w2a, r2a, o2a, b2a⟩ := P2.out v1a ((w1a.alloc (.cells #[kr.v i] 28)).alloc (.cells #[.slice (some ⟨w1a.heap.size, 0, none⟩) 1 1] 23)) (w1a.heap.size) (w1a.heap.size + 1) ((b1a.alloc b1a.size _).alloc (Nat.le_trans b1a.size (by simp)) _) ((o1a.below (fr _ _)).below (fr _ _)) ((heap_old _ _ _ (by simp <;> omega)).trans (heap_new' _ _ _ rfl)) (by simp)
            obtain ⟨v3a, w3a, r3a, o3a, b3a, h3a⟩ := P3.out v2a w2a b2a o2a
            have Ua1 : Hid (StU1 br (or + i) (kr.v i) (X.alloc (.cells #[] 23)).drew) := LC.out _ Ba
            have Ua2 : Hid (StU1 br (or + i) (kr.v i) w1a) := LC.out _ b1a
            have Ua3 : Hid (StU1 br (or + i) (kr.v i) w2a) := LC.out _ b2a
            have Ua4 : Hid (StU1 br (or + i) (kr.v i) w3a) := LC.out _ b3a
            have Ua5 : Hid (StU1 br (or + i) (kr.v i) (w1a.alloc (.cells #[kr.v i] 28))) := LC.out _ (b1a.alloc b1a.size _)
            have Ua6 : Hid (StU1 br (or + i) (kr.v i) ((w1a.alloc (.cells #[kr.v i] 28)).alloc (.cells #[.slice (some ⟨w1a.heap.size, 0, none⟩) 1 1] 23))) := LC.out _ ((b1a.alloc b1a.size _).alloc (Nat.le_trans b1a.size (by simp)) _)
            have Bb : Below X.heap.size X ((X.alloc (.cells #[] 23)).alloc (.cells #[kr.v i] 28)).drew := ((fr X _).alloc (by simp <;> omega) _).drew
            have Zb : ((X.alloc (.cells #[] 23)).alloc (.cells #[kr.v i] 28)).drew.heap[X.heap.size]? = some (.cells #[] 23 (0, 0)) := by
              show ((X.alloc (.cells #[] 23)).alloc (.cells #[kr.v i] 28)).heap[X.heap.size]? = _
              exact (heap_old _ _ _ (by simp <;> omega)).trans (heap_new' _ _ _ (by simp))
            obtain ⟨v1b, w1b, r1b, o1b, b1b, g1b⟩ := P1.out (.slice (some ⟨X.heap.size, 0, none⟩) 0 0) _ Bb (OwnL.mt (by omega) Zb)
            have yb : ((X.alloc (.cells #[] 23)).alloc (.cells #[kr.v i] 28)).drew.heap[X.heap.size + 1]? = some (.cells #[kr.v i] 28 (0, 0)) := by
              show ((X.alloc (.cells #[] 23)).alloc (.cells #[kr.v i] 28)).heap[X.heap.size + 1]? = _
              exact heap_new' _ _ _ (by simp)
            have yb' : w1b.heap[X.heap.size + 1]? = some (.cells #[kr.v i] 28 (0, 0)) := (g1b.block _ (slab_lt yb) (fun h => by simp [Value.ownBlock] at h)).trans yb
            obtain ⟨v2b, w2b, r2b, o2b, b2b⟩ := P2.out v1b (w1b.alloc (.cells #[.slice (some ⟨X.heap.size + 1, 0, none⟩) 1 1] 23)) (X.heap.size + 1) w1b.heap.size (b1b.alloc b1b.size _) (o1b.below (fr _ _)) ((heap_old _ _ _ (slab_lt yb')).trans yb') (by simp)
            obtain ⟨v3b, w3b, r3b, o3b, b3b, h3b⟩ := P3.out v2b w2b b2b o2b
            have Ub1 : Hid (StU1 br (or + i) (kr.v i) ((X.alloc (.cells #[] 23)).alloc (.cells #[kr.v i] 28)).drew) := LC.out _ Bb
            have Ub2 : Hid (StU1 br (or + i) (kr.v i) w1b) := LC.out _ b1b
            have Ub3 : Hid (StU1 br (or + i) (kr.v i) w2b) := LC.out _ b2b
            have Ub4 : Hid (StU1 br (or + i) (kr.v i) w3b) := LC.out _ b3b
            have Ub5 : Hid (StU1 br (or + i) (kr.v i) (w1b.alloc (.cells #[.slice (some ⟨X.heap.size + 1, 0, none⟩) 1 1] 23))) := LC.out _ (b1b.alloc b1b.size _)
            have Bc : Below X.heap.size X (((X.alloc (.cells #[] 23)).alloc (.cells #[kr.v i] 28)).alloc (.cells #[.slice (some ⟨X.heap.size + 1, 0, none⟩) 1 1] 23)).drew := (((fr X _).alloc (by simp <;> omega) _).alloc (by simp <;> omega) _).drew
            have Zc : (((X.alloc (.cells #[] 23)).alloc (.cells #[kr.v i] 28)).alloc (.cells #[.slice (some ⟨X.heap.size + 1, 0, none⟩) 1 1] 23)).drew.heap[X.heap.size]? = some (.cells #[] 23 (0, 0)) := by
              show (((X.alloc (.cells #[] 23)).alloc (.cells #[kr.v i] 28)).alloc (.cells #[.slice (some ⟨X.heap.size + 1, 0, none⟩) 1 1] 23)).heap[X.heap.size]? = _
              exact (heap_old _ _ _ (by simp <;> omega)).trans ((heap_old _ _ _ (by simp <;> omega)).trans (heap_new' _ _ _ (by simp)))
            obtain ⟨v1c, w1c, r1c, o1c, b1c, g1c⟩ := P1.out (.slice (some ⟨X.heap.size, 0, none⟩) 0 0) _ Bc (OwnL.mt (by omega) Zc)
            have yc : (((X.alloc (.cells #[] 23)).alloc (.cells #[kr.v i] 28)).alloc (.cells #[.slice (some ⟨X.heap.size + 1, 0, none⟩) 1 1] 23)).drew.heap[X.heap.size + 1]? = some (.cells #[kr.v i] 28 (0, 0)) := by
              show (((X.alloc (.cells #[] 23)).alloc (.cells #[kr.v i] 28)).alloc (.cells #[.slice (some ⟨X.heap.size + 1, 0, none⟩) 1 1] 23)).heap[X.heap.size + 1]? = _
              exact (heap_old _ _ _ (by simp <;> omega)).trans (heap_new' _ _ _ (by simp))
            have yc' : w1c.heap[X.heap.size + 1]? = some (.cells #[kr.v i] 28 (0, 0)) := (g1c.block _ (slab_lt yc) (fun h => by simp [Value.ownBlock] at h)).trans yc
            have qc : (((X.alloc (.cells #[] 23)).alloc (.cells #[kr.v i] 28)).alloc (.cells #[.slice (some ⟨X.heap.size + 1, 0, none⟩) 1 1] 23)).drew.heap[X.heap.size + 2]? = some (.cells #[.slice (some ⟨X.heap.size + 1, 0, none⟩) 1 1] 23 (0, 0)) := by
              show (((X.alloc (.cells #[] 23)).alloc (.cells #[kr.v i] 28)).alloc (.cells #[.slice (some ⟨X.heap.size + 1, 0, none⟩) 1 1] 23)).heap[X.heap.size + 2]? = _
              exact heap_new' _ _ _ (by simp)
            have qc' : w1c.heap[X.heap.size + 2]? = some (.cells #[.slice (some ⟨X.heap.size + 1, 0, none⟩) 1 1] 23 (0, 0)) := (g1c.block _ (slab_lt qc) (fun h => by simp [Value.ownBlock] at h)).trans qc
            obtain ⟨v2c, w2c, r2c, o2c, b2c⟩ := P2.out v1c w1c (X.heap.size + 1) (X.heap.size + 2) b1c o1c yc' (by rw [slab_cell qc']; rfl)
            obtain ⟨v3c, w3c, r3c, o3c, b3c, h3c⟩ := P3.out v2c w2c b2c o2c
            have Uc1 : Hid (StU1 br (or + i) (kr.v i) (((X.alloc (.cells #[] 23)).alloc (.cells #[kr.v i] 28)).alloc (.cells #[.slice (some ⟨X.heap.size + 1, 0, none⟩) 1 1] 23)).drew) := LC.out _ Bc
            have Uc2 : Hid (StU1 br (or + i) (kr.v i) w1c) := LC.out _ b1c
            have Uc3 : Hid (StU1 br (or + i) (kr.v i) w2c) := LC.out _ b2c
            have Uc4 : Hid (StU1 br (or + i) (kr.v i) w3c) := LC.out _ b3c
            have Bd : Below X.heap.size X ((X.alloc (.cells #[kr.v i] 28)).alloc (.cells #[] 23)).drew := ((fr X _).alloc (by simp <;> omega) _).drew
            have Zd : ((X.alloc (.cells #[kr.v i] 28)).alloc (.cells #[] 23)).drew.heap[X.heap.size + 1]? = some (.cells #[] 23 (0, 0)) := by
              show ((X.alloc (.cells #[kr.v i] 28)).alloc (.cells #[] 23)).heap[X.heap.size + 1]? = _
              exact heap_new' _ _ _ (by simp)
            obtain ⟨v1d, w1d, r1d, o1d, b1d, g1d⟩ := P1.out (.slice (some ⟨X.heap.size + 1, 0, none⟩) 0 0) _ Bd (OwnL.mt (by omega) Zd)
            have yd : ((X.alloc (.cells #[kr.v i] 28)).alloc (.cells #[] 23)).drew.heap[X.heap.size]? = some (.cells #[kr.v i] 28 (0, 0)) := by
              show ((X.alloc (.cells #[kr.v i] 28)).alloc (.cells #[] 23)).heap[X.heap.size]? = _
              exact (heap_old _ _ _ (by simp <;> omega)).trans (heap_new' _ _ _ (by simp))
            have yd' : w1d.heap[X.heap.size]? = some (.cells #[kr.v i] 28 (0, 0)) := (g1d.block _ (slab_lt yd) (fun h => by simp [Value.ownBlock] at h)).trans yd
            obtain ⟨v2d, w2d, r2d, o2d, b2d⟩ := P2.out v1d (w1d.alloc (.cells #[.slice (some ⟨X.heap.size, 0, none⟩) 1 1] 23)) (X.heap.size) w1d.heap.size (b1d.alloc b1d.size _) (o1d.below (fr _ _)) ((heap_old _ _ _ (slab_lt yd')).trans yd') (by simp)
            obtain ⟨v3d, w3d, r3d, o3d, b3d, h3d⟩ := P3.out v2d w2d b2d o2d
            have Ud1 : Hid (StU1 br (or + i) (kr.v i) ((X.alloc (.cells #[kr.v i] 28)).alloc (.cells #[] 23)).drew) := LC.out _ Bd
            have Ud2 : Hid (StU1 br (or + i) (kr.v i) w1d) := LC.out _ b1d
            have Ud3 : Hid (StU1 br (or + i) (kr.v i) w2d) := LC.out _ b2d
            have Ud4 : Hid (StU1 br (or + i) (kr.v i) w3d) := LC.out _ b3d
            have Ud5 : Hid (StU1 br (or + i) (kr.v i) (w1d.alloc (.cells #[.slice (some ⟨X.heap.size, 0, none⟩) 1 1] 23))) := LC.out _ (b1d.alloc b1d.size _)
            have Be : Below X.heap.size X (((X.alloc (.cells #[kr.v i] 28)).alloc (.cells #[] 23)).alloc (.cells #[.slice (some ⟨X.heap.size, 0, none⟩) 1 1] 23)).drew := (((fr X _).alloc (by simp <;> omega) _).alloc (by simp <;> omega) _).drew
            have Ze : (((X.alloc (.cells #[kr.v i] 28)).alloc (.cells #[] 23)).alloc (.cells #[.slice (some ⟨X.heap.size, 0, none⟩) 1 1] 23)).drew.heap[X.heap.size + 1]? = some (.cells #[] 23 (0, 0)) := by
              show (((X.alloc (.cells #[kr.v i] 28)).alloc (.cells #[] 23)).alloc (.cells #[.slice (some ⟨X.heap.size, 0, none⟩) 1 1] 23)).heap[X.heap.size + 1]? = _
              exact (heap_old _ _ _ (by simp <;> omega)).trans (heap_new' _ _ _ (by simp))
            obtain ⟨v1e, w1e, r1e, o1e, b1e, g1e⟩ := P1.out (.slice (some ⟨X.heap.size + 1, 0, none⟩) 0 0) _ Be (OwnL.mt (by omega) Ze)
            have ye : (((X.alloc (.cells #[kr.v i] 28)).alloc (.cells #[] 23)).alloc (.cells #[.slice (some ⟨X.heap.size, 0, none⟩) 1 1] 23)).drew.heap[X.heap.size]? = some (.cells #[kr.v i] 28 (0, 0)) := by
              show (((X.alloc (.cells #[kr.v i] 28)).alloc (.cells #[] 23)).alloc (.cells #[.slice (some ⟨X.heap.size, 0, none⟩) 1 1] 23)).heap[X.heap.size]? = _
              exact (heap_old _ _ _ (by simp <;> omega)).trans ((heap_old _ _ _ (by simp <;> omega)).trans (heap_new' _ _ _ (by simp)))
            have ye' : w1e.heap[X.heap.size]? = some (.cells #[kr.v i] 28 (0, 0)) := (g1e.block _ (slab_lt ye) (fun h => by simp [Value.ownBlock] at h)).trans ye
            have qe : (((X.alloc (.cells #[kr.v i] 28)).alloc (.cells #[] 23)).alloc (.cells #[.slice (some ⟨X.heap.size, 0, none⟩) 1 1] 23)).drew.heap[X.heap.size + 2]? = some (.cells #[.slice (some ⟨X.heap.size, 0, none⟩) 1 1] 23 (0, 0)) := by
              show (((X.alloc (.cells #[kr.v i] 28)).alloc (.cells #[] 23)).alloc (.cells #[.slice (some ⟨X.heap.size, 0, none⟩) 1 1] 23)).heap[X.heap.size + 2]? = _
              exact heap_new' _ _ _ (by simp)
            have qe' : w1e.heap[X.heap.size + 2]? = some (.cells #[.slice (some ⟨X.heap.size, 0, none⟩) 1 1] 23 (0, 0)) := (g1e.block _ (slab_lt qe) (fun h => by simp [Value.ownBlock] at h)).trans qe
            obtain ⟨v2e, w2e, r2e, o2e, b2e⟩ := P2.out v1e w1e (X.heap.size) (X.heap.size + 2) b1e o1e ye' (by rw [slab_cell qe']; rfl)
            obtain ⟨v3e, w3e, r3e, o3e, b3e, h3e⟩ := P3.out v2e w2e b2e o2e
            have Ue1 : Hid (StU1 br (or + i) (kr.v i) (((X.alloc (.cells #[kr.v i] 28)).alloc (.cells #[] 23)).alloc (.cells #[.slice (some ⟨X.heap.size, 0, none⟩) 1 1] 23)).drew) := LC.out _ Be
            have Ue2 : Hid (StU1 br (or + i) (kr.v i) w1e) := LC.out _ b1e
            have Ue3 : Hid (StU1 br (or + i) (kr.v i) w2e) := LC.out _ b2e
            have Ue4 : Hid (StU1 br (or + i) (kr.v i) w3e) := LC.out _ b3e
            have Bf : Below X.heap.size X (((X.alloc (.cells #[kr.v i] 28)).alloc (.cells #[.slice (some ⟨X.heap.size, 0, none⟩) 1 1] 23)).alloc (.cells #[] 23)).drew := (((fr X _).alloc (by simp <;> omega) _).alloc (by simp <;> omega) _).drew
            have Zf : (((X.alloc (.cells #[kr.v i] 28)).alloc (.cells #[.slice (some ⟨X.heap.size, 0, none⟩) 1 1] 23)).alloc (.cells #[] 23)).drew.heap[X.heap.size + 2]? = some (.cells #[] 23 (0, 0)) := by
              show (((X.alloc (.cells #[kr.v i] 28)).alloc (.cells #[.slice (some ⟨X.heap.size, 0, none⟩) 1 1] 23)).alloc (.cells #[] 23)).heap[X.heap.size + 2]? = _
              exact heap_new' _ _ _ (by simp)
            obtain ⟨v1f, w1f, r1f, o1f, b1f, g1f⟩ := P1.out (.slice (some ⟨X.heap.size + 2, 0, none⟩) 0 0) _ Bf (OwnL.mt (by omega) Zf)
            have yf : (((X.alloc (.cells #[kr.v i] 28)).alloc (.cells #[.slice (some ⟨X.heap.size, 0, none⟩) 1 1] 23)).alloc (.cells #[] 23)).drew.heap[X.heap.size]? = some (.cells #[kr.v i] 28 (0, 0)) := by
              show (((X.alloc (.cells #[kr.v i] 28)).alloc (.cells #[.slice (some ⟨X.heap.size, 0, none⟩) 1 1] 23)).alloc (.cells #[] 23)).heap[X.heap.size]? = _
              exact (heap_old _ _ _ (by simp <;> omega)).trans ((heap_old _ _ _ (by simp <;> omega)).trans (heap_new' _ _ _ (by simp)))
            have yf' : w1f.heap[X.heap.size]? = some (.cells #[kr.v i] 28 (0, 0)) := (g1f.block _ (slab_lt yf) (fun h => by simp [Value.ownBlock] at h)).trans yf
            have qf : (((X.alloc (.cells #[kr.v i] 28)).alloc (.cells #[.slice (some ⟨X.heap.size, 0, none⟩) 1 1] 23)).alloc (.cells #[] 23)).drew.heap[X.heap.size + 1]? = some (.cells #[.slice (some ⟨X.heap.size, 0, none⟩) 1 1] 23 (0, 0)) := by
              show (((X.alloc (.cells #[kr.v i] 28)).alloc (.cells #[.slice (some ⟨X.heap.size, 0, none⟩) 1 1] 23)).alloc (.cells #[] 23)).heap[X.heap.size + 1]? = _
              exact (heap_old _ _ _ (by simp <;> omega)).trans (heap_new' _ _ _ (by simp))
            have qf' : w1f.heap[X.heap.size + 1]? = some (.cells #[.slice (some ⟨X.heap.size, 0, none⟩) 1 1] 23 (0, 0)) := (g1f.block _ (slab_lt qf) (fun h => by simp [Value.ownBlock] at h)).trans qf
            obtain ⟨v2f, w2f, r2f, o2f, b2f⟩ := P2.out v1f w1f (X.heap.size) (X.heap.size + 1) b1f o1f yf' (by rw [slab_cell qf']; rfl)
            obtain ⟨v3f, w3f, r3f, o3f, b3f, h3f⟩ := P3.out v2f w2f b2f o2f
            have Uf1 : Hid (StU1 br (or + i) (kr.v i) (((X.alloc (.cells #[kr.v i] 28)).alloc (.cells #[.slice (some ⟨X.heap.size, 0, none⟩) 1 1] 23)).alloc (.cells #[] 23)).drew) := LC.out _ Bf
            have Uf2 : Hid (StU1 br (or + i) (kr.v i) w1f) := LC.out _ b1f
            have Uf3 : Hid (StU1 br (or + i) (kr.v i) w2f) := LC.out _ b2f
            have Uf4 : Hid (StU1 br (or + i) (kr.v i) w3f) := LC.out _ b3f
            have U0 : Hid (StU1 br (or + i) (kr.v i) X.drew) := LC.out _ (Below.refl _ _).drew
            have BR1 : Below X.heap.size X (X.alloc (.cells #[kr.v i] 28)).drew := (fr X _).drew
            have UR1 : Hid (StU1 br (or + i) (kr.v i) (X.alloc (.cells #[kr.v i] 28)).drew) := LC.out _ BR1
            have BR2 : Below X.heap.size X ((X.alloc (.cells #[kr.v i] 28)).alloc (.cells #[.slice (some ⟨X.heap.size, 0, none⟩) 1 1] 23)).drew := ((fr X _).alloc (by simp) _).drew
            have UR2 : Hid (StU1 br (or + i) (kr.v i) ((X.alloc (.cells #[kr.v i] 28)).alloc (.cells #[.slice (some ⟨X.heap.size, 0, none⟩) 1 1] 23)).drew) := LC.out _ BR2
            have HF : Hid ((OwnL w3a w.heap.size v3a kr (A ++ [i] :: C) ∧ v3a ≠ .slice none 0 0 ∧ Below w.heap.size w w3a) ∧ (OwnL w3b w.heap.size v3b kr (A ++ [i] :: C) ∧ v3b ≠ .slice none 0 0 ∧ Below w.heap.size w w3b) ∧ (OwnL w3c w.heap.size v3c kr (A ++ [i] :: C) ∧ v3c ≠ .slice none 0 0 ∧ Below w.heap.size w w3c) ∧ (OwnL w3d w.heap.size v3d kr (A ++ [i] :: C) ∧ v3d ≠ .slice none 0 0 ∧ Below w.heap.size w w3d) ∧ (OwnL w3e w.heap.size v3e kr (A ++ [i] :: C) ∧ v3e ≠ .slice none 0 0 ∧ Below w.heap.size w w3e) ∧ (OwnL w3f w.heap.size v3f kr (A ++ [i] :: C) ∧ v3f ≠ .slice none 0 0 ∧ Below w.heap.size w w3f)) := ⟨⟨o3a.base HWX.out.1, h3a, HWX.out.2 _ b3a⟩, ⟨o3b.base HWX.out.1, h3b, HWX.out.2 _ b3b⟩, ⟨o3c.base HWX.out.1, h3c, HWX.out.2 _ b3c⟩, ⟨o3d.base HWX.out.1, h3d, HWX.out.2 _ b3d⟩, ⟨o3e.base HWX.out.1, h3e, HWX.out.2 _ b3e⟩, ⟨o3f.base HWX.out.1, h3f, HWX.out.2 _ b3f⟩⟩
            clear fr Ba Za o1a b1a g1a o2a b2a Bb Zb o1b b1b g1b o2b b2b yb yb' Bc Zc o1c b1c g1c o2c b2c yc yc' qc qc' Bd Zd o1d b1d g1d o2d b2d yd yd' Be Ze o1e b1e g1e o2e b2e ye ye' qe qe' Bf Zf o1f b1f g1f o2f b2f yf yf' qf qf' BR1 BR2 o3a b3a h3a o3b b3b h3b o3c b3c h3c o3d b3d h3d o3e b3e h3e o3f b3f h3f P1 P2 P3 LC
            go_wp2_with fail
            go_region_held3 (StU1 br (or + i) (kr.v i)) (first | exact U0.out | exact UR1.out | exact UR2.out | exact Ua1.out | exact Ua2.out | exact Ua3.out | exact Ua4.out | exact Ub1.out | exact Ub2.out | exact Ub3.out | exact Ub4.out | exact Uc1.out | exact Uc2.out | exact Uc3.out | exact Uc4.out | exact Ud1.out | exact Ud2.out | exact Ud3.out | exact Ud4.out | exact Ue1.out | exact Ue2.out | exact Ue3.out | exact Ue4.out | exact Uf1.out | exact Uf2.out | exact Uf3.out | exact Uf4.out | exact Ua5.out | exact Ua6.out | exact Ub5.out | exact Ud5.out) (first
              | ((with_reducible change (if _ = true then Oper.wp _ _ _ ((X.alloc (.cells #[] 23)).drew) _ _ else _)); refine step_append_run (by rfl) _ _ _ _ (by rfl) _ _ (by rfl) (by rfl) _ _ r1a ?_)
              | ((with_reducible change (if _ = true then Oper.wp _ _ _ (((w1a.alloc (.cells #[kr.v i] 28)).alloc (.cells #[.slice (some ⟨w1a.heap.size, 0, none⟩) 1 1] 23))) _ _ else _)); refine step_append_run (by rfl) _ _ _ _ (by rfl) _ _ (by rfl) (by rfl) _ _ r2a ?_)
              | ((with_reducible change (if _ = true then Oper.wp _ _ _ (w2a) _ _ else _)); refine step_append_run (by rfl) _ _ _ _ (by rfl) _ _ (by rfl) (by rfl) _ _ r3a ?_)
              | ((with_reducible change (if _ = true then Oper.wp _ _ _ (((X.alloc (.cells #[] 23)).alloc (.cells #[kr.v i] 28)).drew) _ _ else _)); refine step_append_run (by rfl) _ _ _ _ (by rfl) _ _ (by rfl) (by rfl) _ _ r1b ?_)
              | ((with_reducible change (if _ = true then Oper.wp _ _ _ ((w1b.alloc (.cells #[.slice (some ⟨X.heap.size + 1, 0, none⟩) 1 1] 23))) _ _ else _)); refine step_append_run (by rfl) _ _ _ _ (by rfl) _ _ (by rfl) (by rfl) _ _ r2b ?_)
              | ((with_reducible change (if _ = true then Oper.wp _ _ _ (w2b) _ _ else _)); refine step_append_run (by rfl) _ _ _ _ (by rfl) _ _ (by rfl) (by rfl) _ _ r3b ?_)
              | ((with_reducible change (if _ = true then Oper.wp _ _ _ ((((X.alloc (.cells #[] 23)).alloc (.cells #[kr.v i] 28)).alloc (.cells #[.slice (some ⟨X.heap.size + 1, 0, none⟩) 1 1] 23)).drew) _ _ else _)); refine step_append_run (by rfl) _ _ _ _ (by rfl) _ _ (by rfl) (by rfl) _ _ r1c ?_)
              | ((with_reducible change (if _ = true then Oper.wp _ _ _ (w1c) _ _ else _)); refine step_append_run (by rfl) _ _ _ _ (by rfl) _ _ (by rfl) (by rfl) _ _ r2c ?_)
              | ((with_reducible change (if _ = true then Oper.wp _ _ _ (w2c) _ _ else _)); refine step_append_run (by rfl) _ _ _ _ (by rfl) _ _ (by rfl) (by rfl) _ _ r3c ?_)
              | ((with_reducible change (if _ = true then Oper.wp _ _ _ (((X.alloc (.cells #[kr.v i] 28)).alloc (.cells #[] 23)).drew) _ _ else _)); refine step_append_run (by rfl) _ _ _ _ (by rfl) _ _ (by rfl) (by rfl) _ _ r1d ?_)
              | ((with_reducible change (if _ = true then Oper.wp _ _ _ ((w1d.alloc (.cells #[.slice (some ⟨X.heap.size, 0, none⟩) 1 1] 23))) _ _ else _)); refine step_append_run (by rfl) _ _ _ _ (by rfl) _ _ (by rfl) (by rfl) _ _ r2d ?_)
              | ((with_reducible change (if _ = true then Oper.wp _ _ _ (w2d) _ _ else _)); refine step_append_run (by rfl) _ _ _ _ (by rfl) _ _ (by rfl) (by rfl) _ _ r3d ?_)
              | ((with_reducible change (if _ = true then Oper.wp _ _ _ ((((X.alloc (.cells #[kr.v i] 28)).alloc (.cells #[] 23)).alloc (.cells #[.slice (some ⟨X.heap.size, 0, none⟩) 1 1] 23)).drew) _ _ else _)); refine step_append_run (by rfl) _ _ _ _ (by rfl) _ _ (by rfl) (by rfl) _ _ r1e ?_)
              | ((with_reducible change (if _ = true then Oper.wp _ _ _ (w1e) _ _ else _)); refine step_append_run (by rfl) _ _ _ _ (by rfl) _ _ (by rfl) (by rfl) _ _ r2e ?_)
              | ((with_reducible change (if _ = true then Oper.wp _ _ _ (w2e) _ _ else _)); refine step_append_run (by rfl) _ _ _ _ (by rfl) _ _ (by rfl) (by rfl) _ _ r3e ?_)
              | ((with_reducible change (if _ = true then Oper.wp _ _ _ ((((X.alloc (.cells #[kr.v i] 28)).alloc (.cells #[.slice (some ⟨X.heap.size, 0, none⟩) 1 1] 23)).alloc (.cells #[] 23)).drew) _ _ else _)); refine step_append_run (by rfl) _ _ _ _ (by rfl) _ _ (by rfl) (by rfl) _ _ r1f ?_)
              | ((with_reducible change (if _ = true then Oper.wp _ _ _ (w1f) _ _ else _)); refine step_append_run (by rfl) _ _ _ _ (by rfl) _ _ (by rfl) (by rfl) _ _ r2f ?_)
              | ((with_reducible change (if _ = true then Oper.wp _ _ _ (w2f) _ _ else _)); refine step_append_run (by rfl) _ _ _ _ (by rfl) _ _ (by rfl) (by rfl) _ _ r3f ?_)
              | fail)
            all_goals
              (try simp only [List.getElem_toArray, List.getElem_cons_succ, List.getElem_cons_zero, Act.put, List.setIfInBounds_toArray, List.set_cons_succ, List.set_cons_zero])
              go_wp2
              go_roundw
              case rel =>
                first
                | exact ⟨i + 1, _, by omega, by go_num, HNX.out _ _ HF.out.1.1 HF.out.1.2.1 HF.out.1.2.2⟩
                | exact ⟨i + 1, _, by omega, by go_num, HNX.out _ _ HF.out.2.1.1 HF.out.2.1.2.1 HF.out.2.1.2.2⟩
                | exact ⟨i + 1, _, by omega, by go_num, HNX.out _ _ HF.out.2.2.1.1 HF.out.2.2.1.2.1 HF.out.2.2.1.2.2⟩
                | exact ⟨i + 1, _, by omega, by go_num, HNX.out _ _ HF.out.2.2.2.1.1 HF.out.2.2.2.1.2.1 HF.out.2.2.2.1.2.2⟩
                | exact ⟨i + 1, _, by omega, by go_num, HNX.out _ _ HF.out.2.2.2.2.1.1 HF.out.2.2.2.2.1.2.1 HF.out.2.2.2.2.1.2.2⟩
                | exact ⟨i + 1, _, by omega, by go_num, HNX.out _ _ HF.out.2.2.2.2.2.1 HF.out.2.2.2.2.2.2.1 HF.out.2.2.2.2.2.2.2⟩
              case measure => simp [intOf]; omega
        | cons gy C =>
          obtain ⟨y, b, rfl⟩ : ∃ y b, gy = y :: b := by
            cases gy with
            | nil => exact absurd rfl (HG.out.1.2.ne [] (by rw [← hAC]; simp))
            | cons y b => exact ⟨y, b, rfl⟩
          have hkl : k0 < gn := by rw [← hk0, ← HG.out.2.2.1, ← hAC]; simp
          have enk : nthL G k0 = y :: b := by
            rw [← hAC, ← hk0]
            unfold nthL
            rw [List.getD_eq_getElem?_getD, List.getElem?_append_right (Nat.le_refl _)]
            simp
          have hyn : y < n := HG.out.2.2.2.2.2 (y :: b) (by rw [← hAC]; simp) y (by simp)
          obtain ⟨lb, hlb⟩ : ∃ lb, (y :: b).length = lb := ⟨_, rfl⟩
          have lb0 : 0 < lb := by rw [← hlb]; simp
          have LK : Hid (∀ W, Below wo.heap.size wo W → W.cell? ⟨go, k0, none⟩ = some (.slice (some ⟨gg k0, 0, none⟩) lb (cc k0)) ∧ W.cell? ⟨gg k0, 0, none⟩ = some (kr.v y) ∧ GrpB W (gg k0) kr (y :: b)) := fun W hW => by
            obtain ⟨q1, q2⟩ := HL.out W hW k0 hkl
            rw [enk] at q1 q2
            rw [hlb] at q1
            exact ⟨q1, q2.cell (j := 0) (by simp), q2⟩
          obtain ⟨d1, d2, _⟩ := LK.out wr hboq
          have hklI : (k0 : Int) < (gn : Int) := by omega
          have P1 := PK.out wr y hBq hyn
          have HAC : Hid (A ++ (y :: b) :: C = G ∧ A.length = k0 ∧ (y :: b).length = lb) := ⟨hAC, hk0, hlb⟩
          have HPK : Hid (∀ W, Below wr.heap.size wr W → Calls Try.prog 85 #[.slice ai m ci, kr.v y] W fun e w' => ∃ au cu, e = .returned (.slice au m cu) ∧ RowV w' au (pickR cs (nthR rs y)) ∧ Below W.heap.size W w') := fun W hW => PK.out W y (below_step hBq (Nat.le_refl _) hW) hyn
          clear hAC hk0 hlb enk
          go_wp2_with fail
          refine P1.mono ?_
          rintro e w2 ⟨a2, c2, rfl, r2, b2⟩
          have L2 := LR.out w2 a2 c2 am cm y i r2 ((HM.out.1.below hbq).below b2)
          clear P1 r2 d1 d2
          by_cases hlt : cfG cs rs y i < 0
          · have HA2 : Hid (∀ g ∈ A ++ [y :: b], ∀ z c, g = z :: c → ltG cs rs z i = true) := fun g hg z c e => by
              rcases List.mem_append.1 hg with h | h
              · exact HA.out g h z c e
              · simp at h; rw [h] at e; cases e; exact decide_eq_true hlt
            clear HA
            generalize cfG cs rs y i = cf at *
            go_wp2_with fail
            refine L2.mono ?_
            rintro e w3 ⟨rfl, b3⟩
            have hB3 : Below w1.heap.size w1 w3 := below_step (below_step hbq (Nat.le_refl _) b2) (Nat.le_refl _) b3
            clear L2 b2 b3
            go_wp2
            go_roundw
            case rel => exact ⟨A ++ [y :: b], C, k0 + 1, by have := HAC.out.1; simpa using this, by have := HAC.out.2.1; simp; omega, by go_num, HA2, hB3⟩
            case measure => simp [intOf]; omega
          · by_cases heq : cfG cs rs y i = 0
            · have HGN : Hid (Grp (ltG cs rs) (i + 1) (A ++ ((y :: b) ++ [i]) :: C)) := Grp.into HLT.out (by rw [HAC.out.1]; exact HG.out.1) (alk_of heq)
              rw [heq] at L2
              have LQ : Hid (∀ W a1 c1, RowV W a1 (pickR cs (nthR rs y)) → RowV W am (pickR cs (nthR rs i)) → Calls Try.prog 86 #[.slice a1 m c1, .slice am m cm] W fun e w' => e = .returned (.int .i64 0) ∧ Below W.heap.size W w') := fun W a1 c1 h1 h2 => by have := LR.out W a1 c1 am cm y i h1 h2; rw [heq] at this; exact this
              clear HA hlt heq
              go_wp2_with fail
              refine L2.mono ?_
              rintro e w3 ⟨rfl, b3⟩
              have B3 : Below wr.heap.size wr w3 := below_step b2 (Nat.le_refl _) b3
              obtain ⟨d1, d2, _⟩ := LK.out w3 (below_step hboq (Nat.le_refl _) B3)
              have P3 := HPK.out w3 B3
              clear L2 b2 b3
              go_wp2_with fail
              refine P3.mono ?_
              rintro e w4 ⟨a4, c4, rfl, r4, b4⟩
              have B4 : Below wr.heap.size wr w4 := below_step B3 (Nat.le_refl _) b4
              have L4 := LQ.out w4 a4 c4 r4 ((HM.out.1.below hbq).below B4)
              clear P3 r4 d1 d2 b4 HPK B3
              go_wp2_with fail
              refine L4.mono ?_
              rintro e X ⟨rfl, b5⟩
              have B5 : Below wr.heap.size wr X := below_step B4 (Nat.le_refl _) b5
              have BX : Below wo.heap.size wo X := below_step hboq (Nat.le_refl _) B5
              clear L4 LQ b5 B4
              have hAC := HAC.out.1
              have hk0 := HAC.out.2.1
              have hlb := HAC.out.2.2
              have HWX : Hid (w.heap.size ≤ X.heap.size ∧ ∀ W, Below X.heap.size X W → Below w.heap.size w W) := ⟨Nat.le_trans hbo.size BX.size, fun W hW => below_step (below_step hbo (Nat.le_refl _) BX) (Nat.le_refl _) hW⟩
              have hlb4 : lb ≤ 400 := by
                have h1 := HG.out.1.1.length_eq
                rw [List.length_range, ← hAC] at h1
                simp at h1 hlb
                omega
              have P1 : Hid (∀ v W, Below X.heap.size X W → OwnE W X.heap.size v kr [] → ∃ v' w', (Builtin.append_ #[23, 23] 23 #[v, .slice (some ⟨gg k0, 0, none⟩) lb (cc k0)]).run Try.prog W = .ok v' w' ∧ OwnE w' X.heap.size v' kr (y :: b) ∧ Below X.heap.size X w' ∧ W.grownBy w' v.ownBlock) := fun v W hW ho => by
                obtain ⟨v', w', r, o, g, bl⟩ := app_En (c := cc k0) (b := gg k0) (o := 0) (ys := y :: b) ho hW.size (by rw [hlb]; simp; omega) (fun j hj => by
                  rw [Nat.zero_add]
                  exact (LK.out W (below_step BX (Nat.le_refl _) hW)).2.2.cell hj)
                rw [hlb] at r
                exact ⟨v', w', r, o, bl X hW, g⟩
              have P2 : Hid (∀ v W gi, Below X.heap.size X W → OwnE W X.heap.size v kr (y :: b) → W.cell? ⟨gi, 0, none⟩ = some (kr.v i) → ∃ v' w', (Builtin.append_ #[23, 23] 23 #[v, .slice (some ⟨gi, 0, none⟩) 1 1]).run Try.prog W = .ok v' w' ∧ OwnE w' X.heap.size v' kr ((y :: b) ++ [i]) ∧ Below X.heap.size X w' ∧ W.grownBy w' v.ownBlock) := fun v W gi hW ho hc => by
                obtain ⟨v', w', r, o, g, bl⟩ := app_En (c := 1) (b := gi) (o := 0) (ys := [i]) ho hW.size (by rw [hlb]; simp; omega) (fun j hj => by
                  have : j = 0 := by simpa using hj
                  subst this
                  exact hc)
                exact ⟨v', w', r, o, bl X hW, g⟩
              have PF : Hid (∀ v W, Below X.heap.size X W → OwnE W X.heap.size v kr ((y :: b) ++ [i]) → ∃ gl cl, v = .slice (some ⟨gl, 0, none⟩) (lb + 1) cl ∧ OwnL (W.setCell ⟨go, k0, none⟩ (.slice (some ⟨gl, 0, none⟩) (lb + 1) cl)) w.heap.size (.slice (some ⟨go, 0, none⟩) gn co) kr (A ++ ((y :: b) ++ [i]) :: C) ∧ Below w.heap.size w (W.setCell ⟨go, k0, none⟩ (.slice (some ⟨gl, 0, none⟩) (lb + 1) cl)) ∧ (W.cell? ⟨go, k0, none⟩ = some (.slice (some ⟨gg k0, 0, none⟩) lb (cc k0)) ∧ W.frozen? ⟨go, k0, none⟩ = false)) := fun v W hW ho => by
                obtain ⟨gl, cl, e, _, hD⟩ := ho.dat (by simp)
                have hl1 : ((y :: b) ++ [i]).length = lb + 1 := by rw [List.length_append, hlb]; rfl
                rw [hl1] at e
                have hBW := below_step BX (Nat.le_refl _) hW
                have hOW := HG.out.2.1.below hBW
                have hgB : GrpB W gl kr ((y :: b) ++ [i]) := by
                  obtain ⟨cur, q1, _, _, q4⟩ := hD
                  exact ⟨cur, q1, q4⟩
                refine ⟨gl, cl, e, ?_, (HWX.out.2 W hW).setCell (p := ⟨go, k0, none⟩) HG.out.2.2.2.1 _, (LK.out W hBW).1, ?_⟩
                · have := OwnL.set (cl := cl) (by rw [hAC]; exact hOW) (by rw [hAC]; exact HG.out.2.2.1) hk0 hgB
                  rw [hl1] at this
                  exact this
                · obtain ⟨g9, c9, _, _, e9, _, _, _, ⟨cur9, h9, _⟩, _⟩ := hOW.at (by simp)
                  simp only [Value.slice.injEq, Option.some.injEq, Addr.mk.injEq] at e9
                  obtain ⟨⟨rfl, _⟩, _⟩ := e9
                  exact slab_free h9
              have LC : Hid (∀ W, Below X.heap.size X W → W.cell? ⟨go, k0, none⟩ = some (.slice (some ⟨gg k0, 0, none⟩) lb (cc k0)) ∧ W.cell? ⟨br, or + i, none⟩ = some (kr.v i)) := fun W hW => ⟨(LK.out W (below_step BX (Nat.le_refl _) hW)).1, LCW.out i hiN W (HWX.out.2 W hW)⟩
              have HNX : Hid (∀ v W, OwnL W w.heap.size v kr (A ++ ((y :: b) ++ [i]) :: C) → v ≠ .slice none 0 0 → Below w.heap.size w W → Hid (OwnL W w.heap.size v kr (A ++ ((y :: b) ++ [i]) :: C) ∧ v ≠ .slice none 0 0 ∧ Grp (ltG cs rs) (i + 1) (A ++ ((y :: b) ++ [i]) :: C)) ∧ Below w.heap.size w W) := fun v W h1 h2 h3 => ⟨⟨h1, h2, HGN.out⟩, h3⟩
              clear hAC hk0 hlb HAC LK HGN HWX BX B5 hBq hboq hbq
              have fr : ∀ (W : World) (o : Obj), Below W.heap.size W (W.alloc o) := fun W o => (Below.refl _ _).alloc (Nat.le_refl _) _
              have BA : Below X.heap.size X (X.alloc (.cells #[] 28)).drew := (fr X _).drew
              have BR : Below X.heap.size X (X.alloc (.cells #[kr.v i] 28)).drew := (fr X _).drew
              have BAR : Below X.heap.size X ((X.alloc (.cells #[] 28)).alloc (.cells #[kr.v i] 28)).drew := ((fr X _).alloc (by simp) _).drew
              have BRA : Below X.heap.size X ((X.alloc (.cells #[kr.v i] 28)).alloc (.cells #[] 28)).drew := ((fr X _).alloc (by simp) _).drew
              have OA : OwnE (X.alloc (.cells #[] 28)).drew X.heap.size (.slice (some ⟨X.heap.size, 0, none⟩) 0 0) kr [] := OwnE.made (Nat.le_refl _)
              have OAR : OwnE ((X.alloc (.cells #[] 28)).alloc (.cells #[kr.v i] 28)).drew X.heap.size (.slice (some ⟨X.heap.size, 0, none⟩) 0 0) kr [] := OwnE.below (OwnE.made (Nat.le_refl _)) (fr _ _).drew
              have ORA : OwnE ((X.alloc (.cells #[kr.v i] 28)).alloc (.cells #[] 28)).drew X.heap.size (.slice (some ⟨X.heap.size + 1, 0, none⟩) 0 0) kr [] := by
                have := OwnE.made (w := X.alloc (.cells #[kr.v i] 28)) (B := X.heap.size) (k := kr) (by simp)
                simp only [World.size_alloc] at this
                exact this
              obtain ⟨v1, w1, r1, o1, b1, g1⟩ := P1.out _ _ BA OA
              obtain ⟨v2, w2, r2, o2, b2, _⟩ := P2.out v1 (w1.alloc (.cells #[kr.v i] 28)) w1.heap.size (b1.alloc b1.size _) (o1.below (fr _ _)) (by simp)
              obtain ⟨v4, w4, r4, o4, b4, g4⟩ := P1.out _ _ BAR OAR
              have e4 : ((X.alloc (.cells #[] 28)).alloc (.cells #[kr.v i] 28)).drew.heap[X.heap.size + 1]? = some (.cells #[kr.v i] 28 (0, 0)) := heap_new' _ _ _ (by simp)
              have e4' : w4.heap[X.heap.size + 1]? = some (.cells #[kr.v i] 28 (0, 0)) := (g4.block _ (slab_lt e4) (fun h => by simp [Value.ownBlock] at h)).trans e4
              obtain ⟨v5, w5, r5, o5, b5, _⟩ := P2.out v4 w4 (X.heap.size + 1) b4 o4 (by rw [slab_cell e4']; rfl)
              obtain ⟨v7, w7, r7, o7, b7, g7⟩ := P1.out _ _ BRA ORA
              have e7 : ((X.alloc (.cells #[kr.v i] 28)).alloc (.cells #[] 28)).drew.heap[X.heap.size]? = some (.cells #[kr.v i] 28 (0, 0)) := (heap_old _ _ _ (by simp)).trans (heap_new' _ _ _ rfl)
              have e7' : w7.heap[X.heap.size]? = some (.cells #[kr.v i] 28 (0, 0)) := (g7.block _ (slab_lt e7) (fun h => by simp [Value.ownBlock] at h)).trans e7
              obtain ⟨v8, w8, r8, o8, b8, _⟩ := P2.out v7 w7 X.heap.size b7 o7 (by rw [slab_cell e7']; rfl)
              obtain ⟨x2, y2, rfl, z2⟩ := PF.out v2 w2 b2 o2
              obtain ⟨x5, y5, rfl, z5⟩ := PF.out v5 w5 b5 o5
              obtain ⟨x8, y8, rfl, z8⟩ := PF.out v8 w8 b8 o8
              have HF : Hid ((OwnL (w2.setCell ⟨go, k0, none⟩ (.slice (some ⟨x2, 0, none⟩) (lb + 1) y2)) w.heap.size (.slice (some ⟨go, 0, none⟩) gn co) kr (A ++ ((y :: b) ++ [i]) :: C) ∧ Below w.heap.size w (w2.setCell ⟨go, k0, none⟩ (.slice (some ⟨x2, 0, none⟩) (lb + 1) y2))) ∧ (OwnL (w5.setCell ⟨go, k0, none⟩ (.slice (some ⟨x5, 0, none⟩) (lb + 1) y5)) w.heap.size (.slice (some ⟨go, 0, none⟩) gn co) kr (A ++ ((y :: b) ++ [i]) :: C) ∧ Below w.heap.size w (w5.setCell ⟨go, k0, none⟩ (.slice (some ⟨x5, 0, none⟩) (lb + 1) y5))) ∧ OwnL (w8.setCell ⟨go, k0, none⟩ (.slice (some ⟨x8, 0, none⟩) (lb + 1) y8)) w.heap.size (.slice (some ⟨go, 0, none⟩) gn co) kr (A ++ ((y :: b) ++ [i]) :: C) ∧ Below w.heap.size w (w8.setCell ⟨go, k0, none⟩ (.slice (some ⟨x8, 0, none⟩) (lb + 1) y8))) := ⟨⟨z2.1, z2.2.1⟩, ⟨z5.1, z5.2.1⟩, z8.1, z8.2.1⟩
              obtain ⟨t2, t2'⟩ := z2.2.2
              obtain ⟨t5, t5'⟩ := z5.2.2
              obtain ⟨t8, t8'⟩ := z8.2.2
              obtain ⟨m0, n0⟩ := LC.out X.drew (Below.refl _ _).drew
              obtain ⟨m1, n1⟩ := LC.out _ BA
              obtain ⟨m2, n2⟩ := LC.out _ BR
              obtain ⟨m3, n3⟩ := LC.out _ BAR
              obtain ⟨m4, n4⟩ := LC.out _ BRA
              obtain ⟨m5, n5⟩ := LC.out w1 b1
              clear fr BA BR BAR BRA OA OAR ORA o1 b1 g1 o2 b2 o4 b4 g4 e4 e4' o5 b5 o7 b7 g7 e7 e7' o8 b8 P1 P2 PF LC z2 z5 z8
              go_wp2_with fail
              go_region_law (first
                | ((with_reducible change (if _ = true then Oper.wp _ _ _ ((X.alloc (.cells #[] 28)).drew) _ _ else _)); refine step_append_run (by rfl) _ _ _ _ (by rfl) _ _ (by rfl) (by rfl) _ _ r1 ?_)
                | ((with_reducible change (if _ = true then Oper.wp _ _ _ ((w1.alloc (.cells #[kr.v i] 28))) _ _ else _)); refine step_append_run (by rfl) _ _ _ _ (by rfl) _ _ (by rfl) (by rfl) _ _ r2 ?_)
                | ((with_reducible change (if _ = true then Oper.wp _ _ _ (((X.alloc (.cells #[] 28)).alloc (.cells #[kr.v i] 28)).drew) _ _ else _)); refine step_append_run (by rfl) _ _ _ _ (by rfl) _ _ (by rfl) (by rfl) _ _ r4 ?_)
                | ((with_reducible change (if _ = true then Oper.wp _ _ _ (w4) _ _ else _)); refine step_append_run (by rfl) _ _ _ _ (by rfl) _ _ (by rfl) (by rfl) _ _ r5 ?_)
                | ((with_reducible change (if _ = true then Oper.wp _ _ _ (((X.alloc (.cells #[kr.v i] 28)).alloc (.cells #[] 28)).drew) _ _ else _)); refine step_append_run (by rfl) _ _ _ _ (by rfl) _ _ (by rfl) (by rfl) _ _ r7 ?_)
                | ((with_reducible change (if _ = true then Oper.wp _ _ _ (w7) _ _ else _)); refine step_append_run (by rfl) _ _ _ _ (by rfl) _ _ (by rfl) (by rfl) _ _ r8 ?_))
              all_goals
                (try simp only [List.getElem_toArray, List.getElem_cons_succ, List.getElem_cons_zero, Act.put, List.setIfInBounds_toArray, List.set_cons_succ, List.set_cons_zero])
                go_wp2
                go_roundw
                case rel =>
                  first
                  | exact ⟨i + 1, _, by omega, by go_num, HNX.out _ _ HF.out.1.1 (by simp) HF.out.1.2⟩
                  | exact ⟨i + 1, _, by omega, by go_num, HNX.out _ _ HF.out.2.1.1 (by simp) HF.out.2.1.2⟩
                  | exact ⟨i + 1, _, by omega, by go_num, HNX.out _ _ HF.out.2.2.1 (by simp) HF.out.2.2.2⟩
                case measure => simp [intOf]; omega
            · have hgt : ¬ cfG cs rs y i < 0 := hlt
              have hGK : Grp (ltG cs rs) (i + 1) (A ++ [i] :: ((y :: b) :: C)) := Grp.among HLT.out (by rw [HAC.out.1]; exact HG.out.1) HA.out (Grp.rest (A := A) HLT.out (by rw [HAC.out.1]; exact HG.out.1) (decide_eq_true (by have := cfG_neg cs rs y i; omega)))
              have hneq : (cfG cs rs y i == 0) = false := by simp [heq]
              have LQ : Hid (∀ W a1 c1, RowV W a1 (pickR cs (nthR rs y)) → RowV W am (pickR cs (nthR rs i)) → Calls Try.prog 86 #[.slice a1 m c1, .slice am m cm] W fun e w' => e = .returned (.int .i64 (cfG cs rs y i)) ∧ Below W.heap.size W w') := fun W a1 c1 h1 h2 => LR.out W a1 c1 am cm y i h1 h2
              clear HA heq hlt
              generalize cfG cs rs y i = cf at *
              go_wp2_with fail
              refine L2.mono ?_
              rintro e w3 ⟨rfl, b3⟩
              have B3 : Below wr.heap.size wr w3 := below_step b2 (Nat.le_refl _) b3
              obtain ⟨d1, d2, _⟩ := LK.out w3 (below_step hboq (Nat.le_refl _) B3)
              have P3 := HPK.out w3 B3
              clear L2 b2 b3
              go_wp2_with fail
              refine P3.mono ?_
              rintro e w4 ⟨a4, c4, rfl, r4, b4⟩
              have B4 : Below wr.heap.size wr w4 := below_step B3 (Nat.le_refl _) b4
              have L4 := LQ.out w4 a4 c4 r4 ((HM.out.1.below hbq).below B4)
              clear P3 r4 d1 d2 b4 HPK B3
              go_wp2_with fail
              refine L4.mono ?_
              rintro e X ⟨rfl, b5⟩
              have B5 : Below wr.heap.size wr X := below_step B4 (Nat.le_refl _) b5
              have BX : Below wo.heap.size wo X := below_step hboq (Nat.le_refl _) B5
              clear L4 LQ b5 B4
              have hAC := HAC.out.1
              have hk0 := HAC.out.2.1
              generalize (y :: b) :: C = D at *
              clear HAC LK B5
              have hck : ¬ co = k0 := by omega
              have HWX : Hid (w.heap.size ≤ X.heap.size ∧ ∀ W, Below X.heap.size X W → Below w.heap.size w W) := ⟨Nat.le_trans hbo.size BX.size, fun W hW => below_step (below_step hbo (Nat.le_refl _) BX) (Nat.le_refl _) hW⟩
              have hgl4 : gn ≤ 400 := by omega
              have HLX : Hid (∀ W, Below X.heap.size X W → ∀ j, j < gn → W.cell? ⟨go, j, none⟩ = some (.slice (some ⟨gg j, 0, none⟩) (nthL G j).length (cc j)) ∧ GrpB W (gg j) kr (nthL G j)) := fun W hW j hj => HL.out W (below_step BX (Nat.le_refl _) hW) j hj
              have hDl : D.length = gn - k0 := by have := HG.out.2.2.1; rw [← hAC, List.length_append] at this; omega
              have P1 : Hid (∀ v W, Below X.heap.size X W → OwnL W X.heap.size v kr [] → ∃ v' w', (Builtin.append_ #[40, 40] 40 #[v, .slice (some ⟨go, 0, none⟩) k0 co]).run Try.prog W = .ok v' w' ∧ OwnL w' X.heap.size v' kr A ∧ Below X.heap.size X w' ∧ W.grownBy w' v.ownBlock) := fun v W hW ho => by
                obtain ⟨v', w', r, o, _, g, bl⟩ := app_L (c := co) (b := go) (o := 0) (H := A) (gg := gg) (cc := cc) ho hW.size (by simp; omega) (fun j hj => by
                  have := HLX.out W hW j (by omega)
                  rw [← hAC, nthL_left hj] at this
                  rw [Nat.zero_add]
                  exact this)
                rw [hk0] at r
                exact ⟨v', w', r, o, bl X hW, g⟩
              have P2 : Hid (∀ v W gr gq, Below X.heap.size X W → OwnL W X.heap.size v kr A → W.heap[gr]? = some (.cells #[kr.v i] 28 (0, 0)) → W.cell? ⟨gq, 0, none⟩ = some (.slice (some ⟨gr, 0, none⟩) 1 1) → ∃ v' w', (Builtin.append_ #[40, 40] 40 #[v, .slice (some ⟨gq, 0, none⟩) 1 1]).run Try.prog W = .ok v' w' ∧ OwnL w' X.heap.size v' kr (A ++ [[i]]) ∧ Below X.heap.size X w') := fun v W gr gq hW ho h1 h2 => by
                obtain ⟨v', w', r, o, _, _, bl⟩ := app_L (c := 1) (b := gq) (o := 0) (H := [[i]]) (gg := fun _ => gr) (cc := fun _ => 1) ho hW.size (by simp; omega) (fun j hj => by
                  have : j = 0 := by simpa using hj
                  subst this
                  exact ⟨h2, ⟨_, h1, fun j hj => by
                    have : j = 0 := by simpa [nthL] using hj
                    subst this
                    rfl⟩⟩)
                exact ⟨v', w', r, o, bl X hW⟩
              have P3 : Hid (∀ v W, Below X.heap.size X W → OwnL W X.heap.size v kr (A ++ [[i]]) → ∃ v' w', (Builtin.append_ #[40, 40] 40 #[v, .slice (some ⟨go, k0, none⟩) (gn - k0) (co - k0)]).run Try.prog W = .ok v' w' ∧ OwnL w' X.heap.size v' kr (A ++ [i] :: D) ∧ Below X.heap.size X w' ∧ v' ≠ .slice none 0 0) := fun v W hW ho => by
                obtain ⟨v', w', r, o, nn, _, bl⟩ := app_L (c := co - k0) (b := go) (o := k0) (H := D) (gg := fun j => gg (k0 + j)) (cc := fun j => cc (k0 + j)) ho hW.size (by simp; omega) (fun j hj => by
                  have := HLX.out W hW (k0 + j) (by omega)
                  have e : nthL G (k0 + j) = nthL D j := by rw [← hAC, ← hk0, nthL_right]
                  rw [e] at this
                  rw [show k0 + j = k0 + j by omega]
                  exact this)
                rw [hDl] at r
                rw [List.append_assoc] at o
                refine ⟨v', w', r, o, bl X hW, fun e => ?_⟩
                have := nn e
                subst this
                obtain ⟨xs, _, _, ⟨hx, hq⟩, _⟩ := ho
                rcases hq with ⟨_, h0⟩ | ⟨g9, c9, cu9, e9, _⟩
                · simp at h0
                · cases e9
              have LC : Hid (∀ W, Below X.heap.size X W → StU1 br (or + i) (kr.v i) W) := fun W hW => LCW.out i hiN W (HWX.out.2 W hW)
              have HNX : Hid (∀ v W, OwnL W w.heap.size v kr (A ++ [i] :: D) → v ≠ .slice none 0 0 → Below w.heap.size w W → Hid (OwnL W w.heap.size v kr (A ++ [i] :: D) ∧ v ≠ .slice none 0 0 ∧ Grp (ltG cs rs) (i + 1) (A ++ [i] :: D)) ∧ Below w.heap.size w W) := fun v W h1 h2 h3 => ⟨⟨h1, h2, hGK⟩, h3⟩
              clear hAC hk0 hDl HLX hGK BX hBq hboq hbq
              have hkc : k0 ≤ co := by omega
              have hkgI : (k0 : Int) ≤ (gn : Int) := by omega
              have fr : ∀ (W : World) (o : Obj), Below W.heap.size W (W.alloc o) := fun W o => (Below.refl _ _).alloc (Nat.le_refl _) _
              have Ba : Below X.heap.size X (X.alloc (.cells #[] 23)).drew := (fr X _).drew
              have Za : (X.alloc (.cells #[] 23)).drew.heap[X.heap.size]? = some (.cells #[] 23 (0, 0)) := by
                show (X.alloc (.cells #[] 23)).heap[X.heap.size]? = _
                exact heap_new' _ _ _ (by simp)
              obtain ⟨v1a, w1a, r1a, o1a, b1a, g1a⟩ := P1.out (.slice (some ⟨X.heap.size, 0, none⟩) 0 0) _ Ba (OwnL.mt (by omega) Za)
              obtain ⟨v2a, w2a, r2a, o2a, b2a⟩ := P2.out v1a ((w1a.alloc (.cells #[kr.v i] 28)).alloc (.cells #[.slice (some ⟨w1a.heap.size, 0, none⟩) 1 1] 23)) (w1a.heap.size) (w1a.heap.size + 1) ((b1a.alloc b1a.size _).alloc (Nat.le_trans b1a.size (by simp)) _) ((o1a.below (fr _ _)).below (fr _ _)) ((heap_old _ _ _ (by simp <;> omega)).trans (heap_new' _ _ _ rfl)) (by simp)
              obtain ⟨v3a, w3a, r3a, o3a, b3a, h3a⟩ := P3.out v2a w2a b2a o2a
              have Ua1 : Hid (StU1 br (or + i) (kr.v i) (X.alloc (.cells #[] 23)).drew) := LC.out _ Ba
              have Ua2 : Hid (StU1 br (or + i) (kr.v i) w1a) := LC.out _ b1a
              have Ua3 : Hid (StU1 br (or + i) (kr.v i) w2a) := LC.out _ b2a
              have Ua4 : Hid (StU1 br (or + i) (kr.v i) w3a) := LC.out _ b3a
              have Ua5 : Hid (StU1 br (or + i) (kr.v i) (w1a.alloc (.cells #[kr.v i] 28))) := LC.out _ (b1a.alloc b1a.size _)
              have Ua6 : Hid (StU1 br (or + i) (kr.v i) ((w1a.alloc (.cells #[kr.v i] 28)).alloc (.cells #[.slice (some ⟨w1a.heap.size, 0, none⟩) 1 1] 23))) := LC.out _ ((b1a.alloc b1a.size _).alloc (Nat.le_trans b1a.size (by simp)) _)
              have Bb : Below X.heap.size X ((X.alloc (.cells #[] 23)).alloc (.cells #[kr.v i] 28)).drew := ((fr X _).alloc (by simp <;> omega) _).drew
              have Zb : ((X.alloc (.cells #[] 23)).alloc (.cells #[kr.v i] 28)).drew.heap[X.heap.size]? = some (.cells #[] 23 (0, 0)) := by
                show ((X.alloc (.cells #[] 23)).alloc (.cells #[kr.v i] 28)).heap[X.heap.size]? = _
                exact (heap_old _ _ _ (by simp <;> omega)).trans (heap_new' _ _ _ (by simp))
              obtain ⟨v1b, w1b, r1b, o1b, b1b, g1b⟩ := P1.out (.slice (some ⟨X.heap.size, 0, none⟩) 0 0) _ Bb (OwnL.mt (by omega) Zb)
              have yb : ((X.alloc (.cells #[] 23)).alloc (.cells #[kr.v i] 28)).drew.heap[X.heap.size + 1]? = some (.cells #[kr.v i] 28 (0, 0)) := by
                show ((X.alloc (.cells #[] 23)).alloc (.cells #[kr.v i] 28)).heap[X.heap.size + 1]? = _
                exact heap_new' _ _ _ (by simp)
              have yb' : w1b.heap[X.heap.size + 1]? = some (.cells #[kr.v i] 28 (0, 0)) := (g1b.block _ (slab_lt yb) (fun h => by simp [Value.ownBlock] at h)).trans yb
              obtain ⟨v2b, w2b, r2b, o2b, b2b⟩ := P2.out v1b (w1b.alloc (.cells #[.slice (some ⟨X.heap.size + 1, 0, none⟩) 1 1] 23)) (X.heap.size + 1) w1b.heap.size (b1b.alloc b1b.size _) (o1b.below (fr _ _)) ((heap_old _ _ _ (slab_lt yb')).trans yb') (by simp)
              obtain ⟨v3b, w3b, r3b, o3b, b3b, h3b⟩ := P3.out v2b w2b b2b o2b
              have Ub1 : Hid (StU1 br (or + i) (kr.v i) ((X.alloc (.cells #[] 23)).alloc (.cells #[kr.v i] 28)).drew) := LC.out _ Bb
              have Ub2 : Hid (StU1 br (or + i) (kr.v i) w1b) := LC.out _ b1b
              have Ub3 : Hid (StU1 br (or + i) (kr.v i) w2b) := LC.out _ b2b
              have Ub4 : Hid (StU1 br (or + i) (kr.v i) w3b) := LC.out _ b3b
              have Ub5 : Hid (StU1 br (or + i) (kr.v i) (w1b.alloc (.cells #[.slice (some ⟨X.heap.size + 1, 0, none⟩) 1 1] 23))) := LC.out _ (b1b.alloc b1b.size _)
              have Bc : Below X.heap.size X (((X.alloc (.cells #[] 23)).alloc (.cells #[kr.v i] 28)).alloc (.cells #[.slice (some ⟨X.heap.size + 1, 0, none⟩) 1 1] 23)).drew := (((fr X _).alloc (by simp <;> omega) _).alloc (by simp <;> omega) _).drew
              have Zc : (((X.alloc (.cells #[] 23)).alloc (.cells #[kr.v i] 28)).alloc (.cells #[.slice (some ⟨X.heap.size + 1, 0, none⟩) 1 1] 23)).drew.heap[X.heap.size]? = some (.cells #[] 23 (0, 0)) := by
                show (((X.alloc (.cells #[] 23)).alloc (.cells #[kr.v i] 28)).alloc (.cells #[.slice (some ⟨X.heap.size + 1, 0, none⟩) 1 1] 23)).heap[X.heap.size]? = _
                exact (heap_old _ _ _ (by simp <;> omega)).trans ((heap_old _ _ _ (by simp <;> omega)).trans (heap_new' _ _ _ (by simp)))
              obtain ⟨v1c, w1c, r1c, o1c, b1c, g1c⟩ := P1.out (.slice (some ⟨X.heap.size, 0, none⟩) 0 0) _ Bc (OwnL.mt (by omega) Zc)
              have yc : (((X.alloc (.cells #[] 23)).alloc (.cells #[kr.v i] 28)).alloc (.cells #[.slice (some ⟨X.heap.size + 1, 0, none⟩) 1 1] 23)).drew.heap[X.heap.size + 1]? = some (.cells #[kr.v i] 28 (0, 0)) := by
                show (((X.alloc (.cells #[] 23)).alloc (.cells #[kr.v i] 28)).alloc (.cells #[.slice (some ⟨X.heap.size + 1, 0, none⟩) 1 1] 23)).heap[X.heap.size + 1]? = _
                exact (heap_old _ _ _ (by simp <;> omega)).trans (heap_new' _ _ _ (by simp))
              have yc' : w1c.heap[X.heap.size + 1]? = some (.cells #[kr.v i] 28 (0, 0)) := (g1c.block _ (slab_lt yc) (fun h => by simp [Value.ownBlock] at h)).trans yc
              have qc : (((X.alloc (.cells #[] 23)).alloc (.cells #[kr.v i] 28)).alloc (.cells #[.slice (some ⟨X.heap.size + 1, 0, none⟩) 1 1] 23)).drew.heap[X.heap.size + 2]? = some (.cells #[.slice (some ⟨X.heap.size + 1, 0, none⟩) 1 1] 23 (0, 0)) := by
                show (((X.alloc (.cells #[] 23)).alloc (.cells #[kr.v i] 28)).alloc (.cells #[.slice (some ⟨X.heap.size + 1, 0, none⟩) 1 1] 23)).heap[X.heap.size + 2]? = _
                exact heap_new' _ _ _ (by simp)
              have qc' : w1c.heap[X.heap.size + 2]? = some (.cells #[.slice (some ⟨X.heap.size + 1, 0, none⟩) 1 1] 23 (0, 0)) := (g1c.block _ (slab_lt qc) (fun h => by simp [Value.ownBlock] at h)).trans qc
              obtain ⟨v2c, w2c, r2c, o2c, b2c⟩ := P2.out v1c w1c (X.heap.size + 1) (X.heap.size + 2) b1c o1c yc' (by rw [slab_cell qc']; rfl)
              obtain ⟨v3c, w3c, r3c, o3c, b3c, h3c⟩ := P3.out v2c w2c b2c o2c
              have Uc1 : Hid (StU1 br (or + i) (kr.v i) (((X.alloc (.cells #[] 23)).alloc (.cells #[kr.v i] 28)).alloc (.cells #[.slice (some ⟨X.heap.size + 1, 0, none⟩) 1 1] 23)).drew) := LC.out _ Bc
              have Uc2 : Hid (StU1 br (or + i) (kr.v i) w1c) := LC.out _ b1c
              have Uc3 : Hid (StU1 br (or + i) (kr.v i) w2c) := LC.out _ b2c
              have Uc4 : Hid (StU1 br (or + i) (kr.v i) w3c) := LC.out _ b3c
              have Bd : Below X.heap.size X ((X.alloc (.cells #[kr.v i] 28)).alloc (.cells #[] 23)).drew := ((fr X _).alloc (by simp <;> omega) _).drew
              have Zd : ((X.alloc (.cells #[kr.v i] 28)).alloc (.cells #[] 23)).drew.heap[X.heap.size + 1]? = some (.cells #[] 23 (0, 0)) := by
                show ((X.alloc (.cells #[kr.v i] 28)).alloc (.cells #[] 23)).heap[X.heap.size + 1]? = _
                exact heap_new' _ _ _ (by simp)
              obtain ⟨v1d, w1d, r1d, o1d, b1d, g1d⟩ := P1.out (.slice (some ⟨X.heap.size + 1, 0, none⟩) 0 0) _ Bd (OwnL.mt (by omega) Zd)
              have yd : ((X.alloc (.cells #[kr.v i] 28)).alloc (.cells #[] 23)).drew.heap[X.heap.size]? = some (.cells #[kr.v i] 28 (0, 0)) := by
                show ((X.alloc (.cells #[kr.v i] 28)).alloc (.cells #[] 23)).heap[X.heap.size]? = _
                exact (heap_old _ _ _ (by simp <;> omega)).trans (heap_new' _ _ _ (by simp))
              have yd' : w1d.heap[X.heap.size]? = some (.cells #[kr.v i] 28 (0, 0)) := (g1d.block _ (slab_lt yd) (fun h => by simp [Value.ownBlock] at h)).trans yd
              obtain ⟨v2d, w2d, r2d, o2d, b2d⟩ := P2.out v1d (w1d.alloc (.cells #[.slice (some ⟨X.heap.size, 0, none⟩) 1 1] 23)) (X.heap.size) w1d.heap.size (b1d.alloc b1d.size _) (o1d.below (fr _ _)) ((heap_old _ _ _ (slab_lt yd')).trans yd') (by simp)
              obtain ⟨v3d, w3d, r3d, o3d, b3d, h3d⟩ := P3.out v2d w2d b2d o2d
              have Ud1 : Hid (StU1 br (or + i) (kr.v i) ((X.alloc (.cells #[kr.v i] 28)).alloc (.cells #[] 23)).drew) := LC.out _ Bd
              have Ud2 : Hid (StU1 br (or + i) (kr.v i) w1d) := LC.out _ b1d
              have Ud3 : Hid (StU1 br (or + i) (kr.v i) w2d) := LC.out _ b2d
              have Ud4 : Hid (StU1 br (or + i) (kr.v i) w3d) := LC.out _ b3d
              have Ud5 : Hid (StU1 br (or + i) (kr.v i) (w1d.alloc (.cells #[.slice (some ⟨X.heap.size, 0, none⟩) 1 1] 23))) := LC.out _ (b1d.alloc b1d.size _)
              have Be : Below X.heap.size X (((X.alloc (.cells #[kr.v i] 28)).alloc (.cells #[] 23)).alloc (.cells #[.slice (some ⟨X.heap.size, 0, none⟩) 1 1] 23)).drew := (((fr X _).alloc (by simp <;> omega) _).alloc (by simp <;> omega) _).drew
              have Ze : (((X.alloc (.cells #[kr.v i] 28)).alloc (.cells #[] 23)).alloc (.cells #[.slice (some ⟨X.heap.size, 0, none⟩) 1 1] 23)).drew.heap[X.heap.size + 1]? = some (.cells #[] 23 (0, 0)) := by
                show (((X.alloc (.cells #[kr.v i] 28)).alloc (.cells #[] 23)).alloc (.cells #[.slice (some ⟨X.heap.size, 0, none⟩) 1 1] 23)).heap[X.heap.size + 1]? = _
                exact (heap_old _ _ _ (by simp <;> omega)).trans (heap_new' _ _ _ (by simp))
              obtain ⟨v1e, w1e, r1e, o1e, b1e, g1e⟩ := P1.out (.slice (some ⟨X.heap.size + 1, 0, none⟩) 0 0) _ Be (OwnL.mt (by omega) Ze)
              have ye : (((X.alloc (.cells #[kr.v i] 28)).alloc (.cells #[] 23)).alloc (.cells #[.slice (some ⟨X.heap.size, 0, none⟩) 1 1] 23)).drew.heap[X.heap.size]? = some (.cells #[kr.v i] 28 (0, 0)) := by
                show (((X.alloc (.cells #[kr.v i] 28)).alloc (.cells #[] 23)).alloc (.cells #[.slice (some ⟨X.heap.size, 0, none⟩) 1 1] 23)).heap[X.heap.size]? = _
                exact (heap_old _ _ _ (by simp <;> omega)).trans ((heap_old _ _ _ (by simp <;> omega)).trans (heap_new' _ _ _ (by simp)))
              have ye' : w1e.heap[X.heap.size]? = some (.cells #[kr.v i] 28 (0, 0)) := (g1e.block _ (slab_lt ye) (fun h => by simp [Value.ownBlock] at h)).trans ye
              have qe : (((X.alloc (.cells #[kr.v i] 28)).alloc (.cells #[] 23)).alloc (.cells #[.slice (some ⟨X.heap.size, 0, none⟩) 1 1] 23)).drew.heap[X.heap.size + 2]? = some (.cells #[.slice (some ⟨X.heap.size, 0, none⟩) 1 1] 23 (0, 0)) := by
                show (((X.alloc (.cells #[kr.v i] 28)).alloc (.cells #[] 23)).alloc (.cells #[.slice (some ⟨X.heap.size, 0, none⟩) 1 1] 23)).heap[X.heap.size + 2]? = _
                exact heap_new' _ _ _ (by simp)
              have qe' : w1e.heap[X.heap.size + 2]? = some (.cells #[.slice (some ⟨X.heap.size, 0, none⟩) 1 1] 23 (0, 0)) := (g1e.block _ (slab_lt qe) (fun h => by simp [Value.ownBlock] at h)).trans qe
              obtain ⟨v2e, w2e, r2e, o2e, b2e⟩ := P2.out v1e w1e (X.heap.size) (X.heap.size + 2) b1e o1e ye' (by rw [slab_cell qe']; rfl)
              obtain ⟨v3e, w3e, r3e, o3e, b3e, h3e⟩ := P3.out v2e w2e b2e o2e
              have Ue1 : Hid (StU1 br (or + i) (kr.v i) (((X.alloc (.cells #[kr.v i] 28)).alloc (.cells #[] 23)).alloc (.cells #[.slice (some ⟨X.heap.size, 0, none⟩) 1 1] 23)).drew) := LC.out _ Be
              have Ue2 : Hid (StU1 br (or + i) (kr.v i) w1e) := LC.out _ b1e
              have Ue3 : Hid (StU1 br (or + i) (kr.v i) w2e) := LC.out _ b2e
              have Ue4 : Hid (StU1 br (or + i) (kr.v i) w3e) := LC.out _ b3e
              have Bf : Below X.heap.size X (((X.alloc (.cells #[kr.v i] 28)).alloc (.cells #[.slice (some ⟨X.heap.size, 0, none⟩) 1 1] 23)).alloc (.cells #[] 23)).drew := (((fr X _).alloc (by simp <;> omega) _).alloc (by simp <;> omega) _).drew
              have Zf : (((X.alloc (.cells #[kr.v i] 28)).alloc (.cells #[.slice (some ⟨X.heap.size, 0, none⟩) 1 1] 23)).alloc (.cells #[] 23)).drew.heap[X.heap.size + 2]? = some (.cells #[] 23 (0, 0)) := by
                show (((X.alloc (.cells #[kr.v i] 28)).alloc (.cells #[.slice (some ⟨X.heap.size, 0, none⟩) 1 1] 23)).alloc (.cells #[] 23)).heap[X.heap.size + 2]? = _
                exact heap_new' _ _ _ (by simp)
              obtain ⟨v1f, w1f, r1f, o1f, b1f, g1f⟩ := P1.out (.slice (some ⟨X.heap.size + 2, 0, none⟩) 0 0) _ Bf (OwnL.mt (by omega) Zf)
              have yf : (((X.alloc (.cells #[kr.v i] 28)).alloc (.cells #[.slice (some ⟨X.heap.size, 0, none⟩) 1 1] 23)).alloc (.cells #[] 23)).drew.heap[X.heap.size]? = some (.cells #[kr.v i] 28 (0, 0)) := by
                show (((X.alloc (.cells #[kr.v i] 28)).alloc (.cells #[.slice (some ⟨X.heap.size, 0, none⟩) 1 1] 23)).alloc (.cells #[] 23)).heap[X.heap.size]? = _
                exact (heap_old _ _ _ (by simp <;> omega)).trans ((heap_old _ _ _ (by simp <;> omega)).trans (heap_new' _ _ _ (by simp)))
              have yf' : w1f.heap[X.heap.size]? = some (.cells #[kr.v i] 28 (0, 0)) := (g1f.block _ (slab_lt yf) (fun h => by simp [Value.ownBlock] at h)).trans yf
              have qf : (((X.alloc (.cells #[kr.v i] 28)).alloc (.cells #[.slice (some ⟨X.heap.size, 0, none⟩) 1 1] 23)).alloc (.cells #[] 23)).drew.heap[X.heap.size + 1]? = some (.cells #[.slice (some ⟨X.heap.size, 0, none⟩) 1 1] 23 (0, 0)) := by
                show (((X.alloc (.cells #[kr.v i] 28)).alloc (.cells #[.slice (some ⟨X.heap.size, 0, none⟩) 1 1] 23)).alloc (.cells #[] 23)).heap[X.heap.size + 1]? = _
                exact (heap_old _ _ _ (by simp <;> omega)).trans (heap_new' _ _ _ (by simp))
              have qf' : w1f.heap[X.heap.size + 1]? = some (.cells #[.slice (some ⟨X.heap.size, 0, none⟩) 1 1] 23 (0, 0)) := (g1f.block _ (slab_lt qf) (fun h => by simp [Value.ownBlock] at h)).trans qf
              obtain ⟨v2f, w2f, r2f, o2f, b2f⟩ := P2.out v1f w1f (X.heap.size) (X.heap.size + 1) b1f o1f yf' (by rw [slab_cell qf']; rfl)
              obtain ⟨v3f, w3f, r3f, o3f, b3f, h3f⟩ := P3.out v2f w2f b2f o2f
              have Uf1 : Hid (StU1 br (or + i) (kr.v i) (((X.alloc (.cells #[kr.v i] 28)).alloc (.cells #[.slice (some ⟨X.heap.size, 0, none⟩) 1 1] 23)).alloc (.cells #[] 23)).drew) := LC.out _ Bf
              have Uf2 : Hid (StU1 br (or + i) (kr.v i) w1f) := LC.out _ b1f
              have Uf3 : Hid (StU1 br (or + i) (kr.v i) w2f) := LC.out _ b2f
              have Uf4 : Hid (StU1 br (or + i) (kr.v i) w3f) := LC.out _ b3f
              have U0 : Hid (StU1 br (or + i) (kr.v i) X.drew) := LC.out _ (Below.refl _ _).drew
              have BR1 : Below X.heap.size X (X.alloc (.cells #[kr.v i] 28)).drew := (fr X _).drew
              have UR1 : Hid (StU1 br (or + i) (kr.v i) (X.alloc (.cells #[kr.v i] 28)).drew) := LC.out _ BR1
              have BR2 : Below X.heap.size X ((X.alloc (.cells #[kr.v i] 28)).alloc (.cells #[.slice (some ⟨X.heap.size, 0, none⟩) 1 1] 23)).drew := ((fr X _).alloc (by simp) _).drew
              have UR2 : Hid (StU1 br (or + i) (kr.v i) ((X.alloc (.cells #[kr.v i] 28)).alloc (.cells #[.slice (some ⟨X.heap.size, 0, none⟩) 1 1] 23)).drew) := LC.out _ BR2
              have HF : Hid ((OwnL w3a w.heap.size v3a kr (A ++ [i] :: D) ∧ v3a ≠ .slice none 0 0 ∧ Below w.heap.size w w3a) ∧ (OwnL w3b w.heap.size v3b kr (A ++ [i] :: D) ∧ v3b ≠ .slice none 0 0 ∧ Below w.heap.size w w3b) ∧ (OwnL w3c w.heap.size v3c kr (A ++ [i] :: D) ∧ v3c ≠ .slice none 0 0 ∧ Below w.heap.size w w3c) ∧ (OwnL w3d w.heap.size v3d kr (A ++ [i] :: D) ∧ v3d ≠ .slice none 0 0 ∧ Below w.heap.size w w3d) ∧ (OwnL w3e w.heap.size v3e kr (A ++ [i] :: D) ∧ v3e ≠ .slice none 0 0 ∧ Below w.heap.size w w3e) ∧ (OwnL w3f w.heap.size v3f kr (A ++ [i] :: D) ∧ v3f ≠ .slice none 0 0 ∧ Below w.heap.size w w3f)) := ⟨⟨o3a.base HWX.out.1, h3a, HWX.out.2 _ b3a⟩, ⟨o3b.base HWX.out.1, h3b, HWX.out.2 _ b3b⟩, ⟨o3c.base HWX.out.1, h3c, HWX.out.2 _ b3c⟩, ⟨o3d.base HWX.out.1, h3d, HWX.out.2 _ b3d⟩, ⟨o3e.base HWX.out.1, h3e, HWX.out.2 _ b3e⟩, ⟨o3f.base HWX.out.1, h3f, HWX.out.2 _ b3f⟩⟩
              clear fr Ba Za o1a b1a g1a o2a b2a Bb Zb o1b b1b g1b o2b b2b yb yb' Bc Zc o1c b1c g1c o2c b2c yc yc' qc qc' Bd Zd o1d b1d g1d o2d b2d yd yd' Be Ze o1e b1e g1e o2e b2e ye ye' qe qe' Bf Zf o1f b1f g1f o2f b2f yf yf' qf qf' BR1 BR2 o3a b3a h3a o3b b3b h3b o3c b3c h3c o3d b3d h3d o3e b3e h3e o3f b3f h3f P1 P2 P3 LC
              go_wp2_with fail
              go_region_held3 (StU1 br (or + i) (kr.v i)) (first | exact U0.out | exact UR1.out | exact UR2.out | exact Ua1.out | exact Ua2.out | exact Ua3.out | exact Ua4.out | exact Ub1.out | exact Ub2.out | exact Ub3.out | exact Ub4.out | exact Uc1.out | exact Uc2.out | exact Uc3.out | exact Uc4.out | exact Ud1.out | exact Ud2.out | exact Ud3.out | exact Ud4.out | exact Ue1.out | exact Ue2.out | exact Ue3.out | exact Ue4.out | exact Uf1.out | exact Uf2.out | exact Uf3.out | exact Uf4.out | exact Ua5.out | exact Ua6.out | exact Ub5.out | exact Ud5.out) (first
                | ((with_reducible change (if _ = true then Oper.wp _ _ _ ((X.alloc (.cells #[] 23)).drew) _ _ else _)); refine step_append_run (by rfl) _ _ _ _ (by rfl) _ _ (by rfl) (by rfl) _ _ r1a ?_)
                | ((with_reducible change (if _ = true then Oper.wp _ _ _ (((w1a.alloc (.cells #[kr.v i] 28)).alloc (.cells #[.slice (some ⟨w1a.heap.size, 0, none⟩) 1 1] 23))) _ _ else _)); refine step_append_run (by rfl) _ _ _ _ (by rfl) _ _ (by rfl) (by rfl) _ _ r2a ?_)
                | ((with_reducible change (if _ = true then Oper.wp _ _ _ (w2a) _ _ else _)); refine step_append_run (by rfl) _ _ _ _ (by rfl) _ _ (by rfl) (by rfl) _ _ r3a ?_)
                | ((with_reducible change (if _ = true then Oper.wp _ _ _ (((X.alloc (.cells #[] 23)).alloc (.cells #[kr.v i] 28)).drew) _ _ else _)); refine step_append_run (by rfl) _ _ _ _ (by rfl) _ _ (by rfl) (by rfl) _ _ r1b ?_)
                | ((with_reducible change (if _ = true then Oper.wp _ _ _ ((w1b.alloc (.cells #[.slice (some ⟨X.heap.size + 1, 0, none⟩) 1 1] 23))) _ _ else _)); refine step_append_run (by rfl) _ _ _ _ (by rfl) _ _ (by rfl) (by rfl) _ _ r2b ?_)
                | ((with_reducible change (if _ = true then Oper.wp _ _ _ (w2b) _ _ else _)); refine step_append_run (by rfl) _ _ _ _ (by rfl) _ _ (by rfl) (by rfl) _ _ r3b ?_)
                | ((with_reducible change (if _ = true then Oper.wp _ _ _ ((((X.alloc (.cells #[] 23)).alloc (.cells #[kr.v i] 28)).alloc (.cells #[.slice (some ⟨X.heap.size + 1, 0, none⟩) 1 1] 23)).drew) _ _ else _)); refine step_append_run (by rfl) _ _ _ _ (by rfl) _ _ (by rfl) (by rfl) _ _ r1c ?_)
                | ((with_reducible change (if _ = true then Oper.wp _ _ _ (w1c) _ _ else _)); refine step_append_run (by rfl) _ _ _ _ (by rfl) _ _ (by rfl) (by rfl) _ _ r2c ?_)
                | ((with_reducible change (if _ = true then Oper.wp _ _ _ (w2c) _ _ else _)); refine step_append_run (by rfl) _ _ _ _ (by rfl) _ _ (by rfl) (by rfl) _ _ r3c ?_)
                | ((with_reducible change (if _ = true then Oper.wp _ _ _ (((X.alloc (.cells #[kr.v i] 28)).alloc (.cells #[] 23)).drew) _ _ else _)); refine step_append_run (by rfl) _ _ _ _ (by rfl) _ _ (by rfl) (by rfl) _ _ r1d ?_)
                | ((with_reducible change (if _ = true then Oper.wp _ _ _ ((w1d.alloc (.cells #[.slice (some ⟨X.heap.size, 0, none⟩) 1 1] 23))) _ _ else _)); refine step_append_run (by rfl) _ _ _ _ (by rfl) _ _ (by rfl) (by rfl) _ _ r2d ?_)
                | ((with_reducible change (if _ = true then Oper.wp _ _ _ (w2d) _ _ else _)); refine step_append_run (by rfl) _ _ _ _ (by rfl) _ _ (by rfl) (by rfl) _ _ r3d ?_)
                | ((with_reducible change (if _ = true then Oper.wp _ _ _ ((((X.alloc (.cells #[kr.v i] 28)).alloc (.cells #[] 23)).alloc (.cells #[.slice (some ⟨X.heap.size, 0, none⟩) 1 1] 23)).drew) _ _ else _)); refine step_append_run (by rfl) _ _ _ _ (by rfl) _ _ (by rfl) (by rfl) _ _ r1e ?_)
                | ((with_reducible change (if _ = true then Oper.wp _ _ _ (w1e) _ _ else _)); refine step_append_run (by rfl) _ _ _ _ (by rfl) _ _ (by rfl) (by rfl) _ _ r2e ?_)
                | ((with_reducible change (if _ = true then Oper.wp _ _ _ (w2e) _ _ else _)); refine step_append_run (by rfl) _ _ _ _ (by rfl) _ _ (by rfl) (by rfl) _ _ r3e ?_)
                | ((with_reducible change (if _ = true then Oper.wp _ _ _ ((((X.alloc (.cells #[kr.v i] 28)).alloc (.cells #[.slice (some ⟨X.heap.size, 0, none⟩) 1 1] 23)).alloc (.cells #[] 23)).drew) _ _ else _)); refine step_append_run (by rfl) _ _ _ _ (by rfl) _ _ (by rfl) (by rfl) _ _ r1f ?_)
                | ((with_reducible change (if _ = true then Oper.wp _ _ _ (w1f) _ _ else _)); refine step_append_run (by rfl) _ _ _ _ (by rfl) _ _ (by rfl) (by rfl) _ _ r2f ?_)
                | ((with_reducible change (if _ = true then Oper.wp _ _ _ (w2f) _ _ else _)); refine step_append_run (by rfl) _ _ _ _ (by rfl) _ _ (by rfl) (by rfl) _ _ r3f ?_)
                | fail)
              all_goals
                (try simp only [List.getElem_toArray, List.getElem_cons_succ, List.getElem_cons_zero, Act.put, List.setIfInBounds_toArray, List.set_cons_succ, List.set_cons_zero])
                go_wp2
                go_roundw
                case rel =>
                  first
                  | exact ⟨i + 1, _, by omega, by go_num, HNX.out _ _ HF.out.1.1 HF.out.1.2.1 HF.out.1.2.2⟩
                  | exact ⟨i + 1, _, by omega, by go_num, HNX.out _ _ HF.out.2.1.1 HF.out.2.1.2.1 HF.out.2.1.2.2⟩
                  | exact ⟨i + 1, _, by omega, by go_num, HNX.out _ _ HF.out.2.2.1.1 HF.out.2.2.1.2.1 HF.out.2.2.1.2.2⟩
                  | exact ⟨i + 1, _, by omega, by go_num, HNX.out _ _ HF.out.2.2.2.1.1 HF.out.2.2.2.1.2.1 HF.out.2.2.2.1.2.2⟩
                  | exact ⟨i + 1, _, by omega, by go_num, HNX.out _ _ HF.out.2.2.2.2.1.1 HF.out.2.2.2.2.1.2.1 HF.out.2.2.2.2.1.2.2⟩
                  | exact ⟨i + 1, _, by omega, by go_num, HNX.out _ _ HF.out.2.2.2.2.2.1 HF.out.2.2.2.2.2.2.1 HF.out.2.2.2.2.2.2.2⟩
                case measure => simp [intOf]; omega
    · obtain rfl : i = n := by omega
      have HE : Hid (OwnL wo w.heap.size (.slice (some ⟨go, 0, none⟩) G.length co) kr (grpN cs rs)) := by
        have : G = grpN cs rs := grpN_eq (by rw [HNR.out]; exact HO.out.2.2)
        rw [← this]
        exact HO.out.1
      generalize G.length = gn at *
      clear HO hgl
      go_wp2
      go_ret
      exact ⟨_, rfl, by simp, HE.out, hbo⟩
end Go.Proofs.Ytmcjgncpblbhpaa
