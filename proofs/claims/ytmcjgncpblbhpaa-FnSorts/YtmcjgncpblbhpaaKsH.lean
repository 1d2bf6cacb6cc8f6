/- The specification's sort by keys (stage 13). -/
import Derived.Test.YtmcjgncpblbhpaaKsG
namespace Go.Proofs.Ytmcjgncpblbhpaa
open Go.RowKit

theorem infoI : (Try.prog.info? 3).map (fun i => (i.zero, i.size, i.bytes)) = some (some (.int .i64 0), 1, 8) := by kernel_rfl
/-- A list of places as values. -/
abbrev intV (zs : List Nat) : List Value := zs.map fun (x : Nat) => .int .i64 x
/-- A list of places of the call's own. -/
abbrev OwnI (w : World) (B : Nat) (v : Value) (zs : List Nat) : Prop := w.ownsRow B 3 1 v zs.length (intV zs)
theorem OwnI.empty {w : World} {B : Nat} (hB : B ≤ w.heap.size) : OwnI (w.alloc (.cells #[] 3)) B (.slice (some ⟨w.heap.size, 0, none⟩) 0 0) [] :=
  ⟨rfl, .inr ⟨w.heap.size, 0, #[], rfl, hB, heap_alloc_new w _, by simp, by simp, by simp, by simp⟩⟩
theorem OwnI.below {w w' : World} {B : Nat} {v : Value} {zs : List Nat} (h : OwnI w B v zs) (hb : Below w.heap.size w w') : OwnI w' B v zs := by
  obtain ⟨h1, h2⟩ := h
  refine ⟨h1, ?_⟩
  rcases h2 with h | ⟨g, cap, cur, e, hg, hh, r⟩
  · exact .inl h
  · exact .inr ⟨g, cap, cur, e, hg, (hb.block g (slab_lt hh)).trans hh, r⟩
/-- A list of places that can be read. -/
def OrdI (w : World) (v : Value) (zs : List Nat) : Prop := ∃ g c, v = .slice (some ⟨g, 0, none⟩) zs.length c ∧ zs.length ≤ c ∧ g < w.heap.size ∧ ∀ j, j < zs.length → w.cell? ⟨g, j, none⟩ = some (.int .i64 (nthN zs j))
theorem OrdI.below {w w' : World} {v : Value} {zs : List Nat} (h : OrdI w v zs) (hb : Below w.heap.size w w') : OrdI w' v zs := by
  obtain ⟨g, c, e, h1, h2, h3⟩ := h
  exact ⟨g, c, e, h1, Nat.lt_of_lt_of_le h2 hb.size, fun j hj => (hb.cell (p := ⟨g, j, none⟩) h2).trans (h3 j hj)⟩
theorem OwnI.ord {w : World} {B : Nat} {v : Value} {zs : List Nat} (h : OwnI w B v zs) (h0 : 0 < zs.length) : OrdI w v zs := by
  obtain ⟨q1, q2⟩ := h
  rcases q2 with ⟨e, e0⟩ | ⟨g, c, cur, e, hg, hh, hcap, _, hs, ht⟩
  · omega
  · refine ⟨g, c, e, hcap, slab_lt hh, fun i hi => ?_⟩
    have h9 : (intV zs)[i]? = some (.int .i64 (nthN zs i)) := by rw [List.getElem?_map, List.getElem?_eq_getElem hi, nthN_get hi]; rfl
    rw [← ht, List.getElem?_take] at h9
    rw [slab_cell hh]
    split at h9
    · rw [← Array.getElem?_toList]; exact h9
    · cases h9
set_option maxRecDepth 100000 in
theorem app_I {w : World} {B b o c : Nat} {v : Value} {zs ys : List Nat} (h : OwnI w B v zs) (hB : B ≤ w.heap.size) (hl : zs.length + ys.length ≤ 4096) (hc : ∀ j, j < ys.length → w.cell? ⟨b, o + j, none⟩ = some (.int .i64 (nthN ys j))) :
    ∃ v' w', (Builtin.append_ #[43, 43] 43 #[v, .slice (some ⟨b, o, none⟩) ys.length c]).run Try.prog w = .ok v' w' ∧ OwnI w' B v' (zs ++ ys) ∧ w.grownBy w' v.ownBlock ∧ ∀ w0, Below B w0 w → Below B w0 w' := by
  obtain ⟨i0, hi1, hz0, hz1, hz2⟩ := info_parts infoI
  obtain ⟨v', w', h1, h2, h3, _⟩ := run_append_own (P := Try.prog) w B 43 43 3 i0 _ 1 8 Try.underlying43 hi1 hz0 hz1 hz2 rfl (by decide) v zs.length (intV zs) h ⟨b, o, none⟩ ys.length c (intV ys) (by simp) (fun j u hj => by
    rw [List.getElem?_map] at hj
    obtain ⟨x, hx, rfl⟩ := Option.map_eq_some_iff.1 hj
    obtain ⟨hjn, e⟩ := List.getElem?_eq_some_iff.1 hx
    rw [add_plain, hc j hjn, nthN_get hjn, e]) (by intro u hu; obtain ⟨x, _, rfl⟩ := List.mem_map.1 hu; rfl) (by unfold maxLen; omega) (by omega) hB
  refine ⟨v', w', h1, by rw [OwnI, List.length_append, intV, List.map_append]; exact h2, h3, fun w0 hb => hb.grown h3 hB fun j e => ?_⟩
  obtain ⟨_, q2⟩ := h
  rcases q2 with ⟨rfl, _⟩ | ⟨g, cap, cur, rfl, hg', _⟩
  · simp [Value.ownBlock] at e
  · simp [Value.ownBlock] at e
    omega
/-- A key, a place, and the key at that place. -/
abbrev StO (W : World) (b1 o1 : Nat) (v1 : Value) (b2 o2 : Nat) (v2 : Value) (b3 o3 : Nat) (v3 : Value) (w' : World) : Prop := w'.cell? ⟨b1, o1, none⟩ = some v1 ∧ w'.cell? ⟨b2, o2, none⟩ = some v2 ∧ w'.cell? ⟨b3, o3, none⟩ = some v3 ∧ Below W.heap.size W w'
theorem StO.keep {W : World} {b1 o1 : Nat} {v1 : Value} {b2 o2 : Nat} {v2 : Value} {b3 o3 : Nat} {v3 : Value} {w1 w2 : World} (h : StO W b1 o1 v1 b2 o2 v2 b3 o3 v3 w1) (l1 : b1 < W.heap.size) (l2 : b2 < W.heap.size) (l3 : b3 < W.heap.size) (hb : Below w1.heap.size w1 w2) : StO W b1 o1 v1 b2 o2 v2 b3 o3 v3 w2 :=
  ⟨(hb.cell (p := ⟨b1, o1, none⟩) (Nat.lt_of_lt_of_le l1 h.2.2.2.size)).trans h.1, (hb.cell (p := ⟨b2, o2, none⟩) (Nat.lt_of_lt_of_le l2 h.2.2.2.size)).trans h.2.1, (hb.cell (p := ⟨b3, o3, none⟩) (Nat.lt_of_lt_of_le l3 h.2.2.2.size)).trans h.2.2.1, below_step h.2.2.2 (Nat.le_refl _) hb⟩
/-- What has been sorted: the first i places. -/
def SrtI (ks : Rs) (ds : List Bool) (i : Nat) (zs : List Nat) : Prop := zs.Perm (List.range i) ∧ zs.Pairwise (RO (ltK ks ds))
theorem SrtI.put {ks : Rs} {ds : List Bool} {i : Nat} {A G : List Nat} (h : SrtI ks ds i (A ++ G)) (hA : ∀ x ∈ A, ltK ks ds i x = false) (hG : ∀ x ∈ G, ltK ks ds i x = true) : SrtI ks ds (i + 1) (A ++ i :: G) := by
  refine ⟨?_, put_in (keys_lto ds ks) h.2 (fun x hx => List.mem_range.1 (h.1.mem_iff.1 hx)) hA hG⟩
  rw [List.range_succ]
  exact (List.perm_middle).trans ((h.1.cons i).trans (List.perm_append_singleton _ _).symm)
theorem SrtI.head {ks : Rs} {ds : List Bool} {i z : Nat} {L G : List Nat} (h : SrtI ks ds i ((L ++ [z]) ++ G)) (hz : ltK ks ds i z = false) : ∀ x ∈ L ++ [z], ltK ks ds i x = false := fun x hx => by
  have pL := (List.pairwise_append.1 h.2).1
  rcases List.mem_append.1 hx with h' | h'
  · exact (keys_lto ds ks).trans x z i ((List.pairwise_append.1 pL).2.2 x h' z (by simp)).1 hz
  · simp at h'; subst h'; exact hz
theorem OwnE.base {w : World} {B B' : Nat} {v : Value} {k : Cel} {zs : List Nat} (h : OwnE w B v k zs) (hB : B' ≤ B) : OwnE w B' v k zs := by
  obtain ⟨h1, h2⟩ := h
  refine ⟨h1, ?_⟩
  rcases h2 with h | ⟨g, cap, cur, e, hg, r⟩
  · exact .inl h
  · exact .inr ⟨g, cap, cur, e, by omega, r⟩
set_option maxRecDepth 100000 in
set_option maxHeartbeats 16000000 in
theorem l13Sort_any (ak ad ar : Option Addr) (ck cd cr n : Nat) (ks : Rs) (ds : List Bool) (rs : Rs) (kr : Cel) (br or : Nat) (w : World) (hk : RowA w ak ks) (hd : BoA w ad ds) (ha : 0 < n → ar = some ⟨br, or, none⟩ ∧ br < w.heap.size) (hc : ∀ x, x < n → w.cell? ⟨br, or + x, none⟩ = some (kr.v x)) (hkn : ks.length = n) (hrn : rs.length = n) (hN : n ≤ 400) (hl : ∀ i, i < n → (nthR ks i).length = ds.length) (hdl : ds.length ≤ 4096) :
    Calls Try.prog 51 #[.slice ak n ck, .slice ad ds.length cd, .slice ar n cr] w fun e w' => ∃ v, e = .returned v ∧ OwnE w' w.heap.size v kr (srtN ks ds) ∧ Below w.heap.size w w' := by
  have HR : Hid (RowA w ak ks ∧ BoA w ad ds ∧ (∀ i, i < n → (nthR ks i).length = ds.length) ∧ ds.length ≤ 4096) := ⟨hk, hd, hl, hdl⟩
  have HC : Hid ((0 < n → ar = some ⟨br, or, none⟩ ∧ br < w.heap.size) ∧ ∀ x, x < n → w.cell? ⟨br, or + x, none⟩ = some (kr.v x)) := ⟨ha, hc⟩
  have HKN : Hid (ks.length = n ∧ rs.length = n) := ⟨hkn, hrn⟩
  clear hk hd ha hc hkn hrn hl hdl
  have B0 : Below w.heap.size w (w.alloc (.cells #[] 3)) := (Below.refl _ _).alloc (Nat.le_refl _) _
  have O0 : Hid (OrdI (w.alloc (.cells #[] 3)) (.slice (some ⟨w.heap.size, 0, none⟩) 0 0) [] ∧ SrtI ks ds 0 []) := ⟨⟨w.heap.size, 0, rfl, by simp, by simp, fun j hj => by simp at hj⟩, by simp, List.Pairwise.nil⟩
  go_enter Try.func51, Try.ntmps51
  go_wp2
  go_loopw [7, 8] (fun v i wr => ∃ (q : Nat) (zs : List Nat), q ≤ n ∧ i = .int .i64 q ∧ Hid (OrdI wr v zs ∧ SrtI ks ds q zs) ∧ Below w.heap.size w wr) (fun _ i _ => n - (intOf i).toNat)
  case atStart => exact ⟨0, [], by omega, rfl, O0.out, B0⟩
  case round =>
    clear O0 B0
    rename World => wo
    obtain ⟨i, zs, hi, rfl, HO, hbl⟩ := hrel
    obtain ⟨go, co, rfl, hco, lgo, ogo⟩ := HO.out.1
    have hzl : zs.length = i := by rw [HO.out.2.1.length_eq, List.length_range]
    by_cases hin : i < n
    · have hiI : (i : Int) < (n : Int) := by omega
      have HZ : Hid (SrtI ks ds i zs ∧ zs.length = i ∧ (∀ W, Below wo.heap.size wo W → ∀ j, j < zs.length → W.cell? ⟨go, j, none⟩ = some (.int .i64 (nthN zs j))) ∧ go < wo.heap.size) := ⟨HO.out.2, hzl, fun W hW j hj => (hW.cell (p := ⟨go, j, none⟩) lgo).trans (ogo j hj), lgo⟩
      rw [hzl] at hco ⊢
      clear HO ogo hzl lgo
      go_wp2
      go_loopw [9] (fun k wq => ∃ (A G : List Nat) (k0 : Nat), A ++ G = zs ∧ A.length = k0 ∧ k = .int .i64 k0 ∧ Hid (∀ x ∈ G, ltK ks ds i x = true) ∧ Below wo.heap.size wo wq) (fun k _ => (intOf k).toNat)
      case atStart => exact ⟨zs, [], i, by simp, HZ.out.2.1, rfl, fun x hx => by simp at hx, Below.refl _ _⟩
      case round =>
        obtain ⟨A, G, k0, hAG, hk0, rfl, HG, hbq⟩ := hrel
        have hk0i : k0 ≤ i := by rw [← hk0, ← HZ.out.2.1, ← hAG, List.length_append]; omega
        rcases nil_or_end A with rfl | ⟨L, z, rfl⟩
        · obtain rfl : 0 = k0 := by simpa using hk0
          have HSI : Hid (SrtI ks ds (i + 1) ([] ++ i :: G)) := SrtI.put (by rw [hAG]; exact HZ.out.1) (fun x hx => by simp at hx) HG.out
          obtain ⟨A, hA0⟩ : ∃ A : List Nat, A = [] := ⟨_, rfl⟩
          rw [← hA0] at hAG hk0 HSI
          clear hA0
          go_wp2_with fail
          refine wp_region_class (C := fun W => Below wo.heap.size wo W) (by kernel_rfl) (by kernel_rfl) hbq.drew ?_
          repeat (first | go_big_quiet_skip | (go_big_quiet_want; apply Exists.intro; refine ⟨?_, ?_⟩; (focus (intro w' hw'; (go_simp; with_reducible rfl))); (try simp only [Act.put, List.setIfInBounds_toArray, List.set_cons_zero, List.set_cons_succ]); go_big_quiet_on))
          refine wpQuiet_nil ?_
          intro wx hwx
          have hbx : Below wo.heap.size wo wx := hwx
          clear hwx hbq HG
          have P1 : Hid (∀ v W, Below wx.heap.size wx W → OwnI W wx.heap.size v [] → ∃ v' w', (Builtin.append_ #[43, 43] 43 #[v, .slice (some ⟨go, 0, none⟩) 0 co]).run Try.prog W = .ok v' w' ∧ OwnI w' wx.heap.size v' A ∧ Below wx.heap.size wx w' ∧ W.grownBy w' v.ownBlock) := fun v W hW ho => by
            obtain ⟨v', w', r, o, g, b⟩ := app_I (c := co) (b := go) (o := 0) (ys := A) ho hW.size (by simp; omega) (fun j hj => by
              rw [Nat.zero_add, HZ.out.2.2.1 W (below_step hbx (Nat.le_refl _) hW) j (by rw [← hAG, List.length_append]; omega), ← hAG, nth_left hj])
            rw [hk0] at r
            exact ⟨v', w', r, o, b wx hW, g⟩
          have P2 : Hid (∀ v W gi, Below wx.heap.size wx W → OwnI W wx.heap.size v A → W.cell? ⟨gi, 0, none⟩ = some (.int .i64 i) → ∃ v' w', (Builtin.append_ #[43, 43] 43 #[v, .slice (some ⟨gi, 0, none⟩) 1 1]).run Try.prog W = .ok v' w' ∧ OwnI w' wx.heap.size v' (A ++ [i]) ∧ Below wx.heap.size wx w' ∧ W.grownBy w' v.ownBlock) := fun v W gi hW ho hc => by
            obtain ⟨v', w', r, o, g, b⟩ := app_I (c := 1) (b := gi) (o := 0) (ys := [i]) ho hW.size (by simp; omega) (fun j hj => by
              have : j = 0 := by simpa using hj
              subst this
              exact hc)
            exact ⟨v', w', r, o, b wx hW, g⟩
          have hGl : G.length = i := by have := HZ.out.2.1; rw [← hAG, List.length_append] at this; omega
          have P3 : Hid (∀ v W, Below wx.heap.size wx W → OwnI W wx.heap.size v (A ++ [i]) → ∃ v' w', (Builtin.append_ #[43, 43] 43 #[v, .slice (some ⟨go, 0, none⟩) i co]).run Try.prog W = .ok v' w' ∧ OwnI w' wx.heap.size v' (A ++ i :: G) ∧ Below wx.heap.size wx w' ∧ W.grownBy w' v.ownBlock) := fun v W hW ho => by
            obtain ⟨v', w', r, o, g, b⟩ := app_I (c := co) (b := go) (o := 0) (ys := G) ho hW.size (by simp; omega) (fun j hj => by
              rw [HZ.out.2.2.1 W (below_step hbx (Nat.le_refl _) hW) (0 + j) (by rw [← hAG, List.length_append]; omega), ← hAG, show 0 + j = A.length + j by omega, nth_right])
            rw [hGl] at r
            rw [List.append_assoc] at o
            exact ⟨v', w', r, o, b wx hW, g⟩
          have HE : Hid (∀ W v, OwnI W wx.heap.size v (A ++ i :: G) → OrdI W v (A ++ i :: G)) := fun W v ho => ho.ord (by simp; omega)
          have HNX : Hid (∀ v W, OrdI W v (A ++ i :: G) → Below wx.heap.size wx W → Hid (OrdI W v (A ++ i :: G) ∧ SrtI ks ds (i + 1) (A ++ i :: G)) ∧ Below w.heap.size w W) := fun v W ho hW => ⟨⟨ho, HSI.out⟩, below_step (below_step hbl (Nat.le_refl _) hbx) (Nat.le_refl _) hW⟩
          clear hAG hk0 hGl
          have fr : ∀ (W : World) (o : Obj), Below W.heap.size W (W.alloc o) := fun W o => (Below.refl _ _).alloc (Nat.le_refl _) _
          have BA : Below wx.heap.size wx (wx.alloc (.cells #[] 3)).drew := (fr wx _).drew
          have BAI : Below wx.heap.size wx ((wx.alloc (.cells #[] 3)).alloc (.cells #[.int .i64 i] 3)).drew := ((fr wx _).alloc (by simp) _).drew
          have BIA : Below wx.heap.size wx ((wx.alloc (.cells #[.int .i64 i] 3)).alloc (.cells #[] 3)).drew := ((fr wx _).alloc (by simp) _).drew
          have OA : OwnI (wx.alloc (.cells #[] 3)).drew wx.heap.size (.slice (some ⟨wx.heap.size, 0, none⟩) 0 0) [] := OwnI.empty (Nat.le_refl _)
          have OAI : OwnI ((wx.alloc (.cells #[] 3)).alloc (.cells #[.int .i64 i] 3)).drew wx.heap.size (.slice (some ⟨wx.heap.size, 0, none⟩) 0 0) [] := OwnI.below (OwnI.empty (Nat.le_refl _)) (fr _ _).drew
          have OIA : OwnI ((wx.alloc (.cells #[.int .i64 i] 3)).alloc (.cells #[] 3)).drew wx.heap.size (.slice (some ⟨wx.heap.size + 1, 0, none⟩) 0 0) [] := by
            have := OwnI.empty (w := wx.alloc (.cells #[.int .i64 i] 3)) (B := wx.heap.size) (by simp)
            simp only [World.size_alloc] at this
            exact this
          obtain ⟨v1, w1, r1, o1, b1, g1⟩ := P1.out _ _ BA OA
          obtain ⟨v2, w2, r2, o2, b2, _⟩ := P2.out v1 (w1.alloc (.cells #[.int .i64 i] 3)) w1.heap.size (b1.alloc b1.size _) (o1.below (fr _ _)) (by simp)
          obtain ⟨v3, w3, r3, o3, b3, _⟩ := P3.out v2 w2 b2 o2
          obtain ⟨v4, w4, r4, o4, b4, g4⟩ := P1.out _ _ BAI OAI
          have e4 : ((wx.alloc (.cells #[] 3)).alloc (.cells #[.int .i64 i] 3)).drew.heap[wx.heap.size + 1]? = some (.cells #[.int .i64 i] 3 (0, 0)) := heap_new' _ _ _ (by simp)
          have e4' : w4.heap[wx.heap.size + 1]? = some (.cells #[.int .i64 i] 3 (0, 0)) := (g4.block _ (slab_lt e4) (fun h => by simp [Value.ownBlock] at h)).trans e4
          obtain ⟨v5, w5, r5, o5, b5, _⟩ := P2.out v4 w4 (wx.heap.size + 1) b4 o4 (by rw [slab_cell e4']; rfl)
          obtain ⟨v6, w6, r6, o6, b6, _⟩ := P3.out v5 w5 b5 o5
          obtain ⟨v7, w7, r7, o7, b7, g7⟩ := P1.out _ _ BIA OIA
          have e7 : ((wx.alloc (.cells #[.int .i64 i] 3)).alloc (.cells #[] 3)).drew.heap[wx.heap.size]? = some (.cells #[.int .i64 i] 3 (0, 0)) := (heap_old _ _ _ (by simp)).trans (heap_new' _ _ _ rfl)
          have e7' : w7.heap[wx.heap.size]? = some (.cells #[.int .i64 i] 3 (0, 0)) := (g7.block _ (slab_lt e7) (fun h => by simp [Value.ownBlock] at h)).trans e7
          obtain ⟨v8, w8, r8, o8, b8, _⟩ := P2.out v7 w7 wx.heap.size b7 o7 (by rw [slab_cell e7']; rfl)
          obtain ⟨v9, w9, r9, o9, b9, _⟩ := P3.out v8 w8 b8 o8
          have HF : Hid ((OrdI w3 v3 (A ++ i :: G) ∧ Below wx.heap.size wx w3) ∧ (OrdI w6 v6 (A ++ i :: G) ∧ Below wx.heap.size wx w6) ∧ OrdI w9 v9 (A ++ i :: G) ∧ Below wx.heap.size wx w9) := ⟨⟨HE.out _ _ o3, b3⟩, ⟨HE.out _ _ o6, b6⟩, HE.out _ _ o9, b9⟩
          clear fr BA BAI BIA OA OAI OIA o1 b1 g1 o2 b2 o3 b3 o4 b4 g4 e4 e4' o5 b5 o6 b6 o7 b7 g7 e7 e7' o8 b8 o9 b9 P1 P2 P3 HE
          go_wp2_with fail
          go_region_law (first
            | ((with_reducible change (if _ = true then Oper.wp _ _ _ ((wx.alloc (.cells #[] 3)).drew) _ _ else _)); refine step_append_run (by rfl) _ _ _ _ (by rfl) _ _ (by rfl) (by rfl) _ _ r1 ?_)
            | ((with_reducible change (if _ = true then Oper.wp _ _ _ ((w1.alloc (.cells #[.int .i64 i] 3))) _ _ else _)); refine step_append_run (by rfl) _ _ _ _ (by rfl) _ _ (by rfl) (by rfl) _ _ r2 ?_)
            | ((with_reducible change (if _ = true then Oper.wp _ _ _ (w2) _ _ else _)); refine step_append_run (by rfl) _ _ _ _ (by rfl) _ _ (by rfl) (by rfl) _ _ r3 ?_)
            | ((with_reducible change (if _ = true then Oper.wp _ _ _ (((wx.alloc (.cells #[] 3)).alloc (.cells #[.int .i64 i] 3)).drew) _ _ else _)); refine step_append_run (by rfl) _ _ _ _ (by rfl) _ _ (by rfl) (by rfl) _ _ r4 ?_)
            | ((with_reducible change (if _ = true then Oper.wp _ _ _ (w4) _ _ else _)); refine step_append_run (by rfl) _ _ _ _ (by rfl) _ _ (by rfl) (by rfl) _ _ r5 ?_)
            | ((with_reducible change (if _ = true then Oper.wp _ _ _ (w5) _ _ else _)); refine step_append_run (by rfl) _ _ _ _ (by rfl) _ _ (by rfl) (by rfl) _ _ r6 ?_)
            | ((with_reducible change (if _ = true then Oper.wp _ _ _ (((wx.alloc (.cells #[.int .i64 i] 3)).alloc (.cells #[] 3)).drew) _ _ else _)); refine step_append_run (by rfl) _ _ _ _ (by rfl) _ _ (by rfl) (by rfl) _ _ r7 ?_)
            | ((with_reducible change (if _ = true then Oper.wp _ _ _ (w7) _ _ else _)); refine step_append_run (by rfl) _ _ _ _ (by rfl) _ _ (by rfl) (by rfl) _ _ r8 ?_)
            | ((with_reducible change (if _ = true then Oper.wp _ _ _ (w8) _ _ else _)); refine step_append_run (by rfl) _ _ _ _ (by rfl) _ _ (by rfl) (by rfl) _ _ r9 ?_))
          all_goals
            simp only [List.getElem_toArray, List.getElem_cons_succ, List.getElem_cons_zero, Act.put, List.setIfInBounds_toArray, List.set_cons_succ, List.set_cons_zero]
            go_wp2
            go_roundw
            case rel =>
              first
              | exact ⟨i + 1, _, by omega, by go_num, HNX.out _ _ HF.out.1.1 HF.out.1.2⟩
              | exact ⟨i + 1, _, by omega, by go_num, HNX.out _ _ HF.out.2.1.1 HF.out.2.1.2⟩
              | exact ⟨i + 1, _, by omega, by go_num, HNX.out _ _ HF.out.2.2.1 HF.out.2.2.2⟩
            case measure => simp [intOf]; omega
        · obtain ⟨j, hj⟩ : ∃ j, L.length = j := ⟨_, rfl⟩
          have hj1 : j + 1 = k0 := by rw [← hk0, List.length_append, hj]; rfl
          have hzz : z ∈ zs := by rw [← hAG]; simp
          have hzi : z < i := List.mem_range.1 (HZ.out.1.1.mem_iff.1 hzz)
          have hBq : Below w.heap.size w wr := below_step hbl (Nat.le_refl _) hbq
          obtain ⟨bk, ok, p1, s1, d1, rfl, lb1, c1, r1, _⟩ := (HR.out.1.below hBq) i (by rw [HKN.out.1]; exact hin)
          obtain ⟨bk', ok', p2, s2, d2, e2, lb2, c2, r2, _⟩ := (HR.out.1.below hBq) z (by rw [HKN.out.1]; omega)
          cases e2
          have c3 : wr.cell? ⟨go, j, none⟩ = some (.int .i64 z) := by
            have := HZ.out.2.2.1 wr hbq j (by rw [HZ.out.2.1]; omega)
            have e : nthN zs j = z := by
              rw [← hAG, List.append_assoc, ← hj]
              exact nthN_mid L G z
            rw [e] at this
            exact this
          rw [HR.out.2.2.1 i hin] at c1
          rw [HR.out.2.2.1 z (by omega)] at c2
          have CL : Hid (∀ W, Below wr.heap.size wr W → Calls Try.prog 80 #[.slice (some ⟨p1, s1, none⟩) ds.length d1, .slice (some ⟨p2, s2, none⟩) ds.length d2, .slice ad ds.length cd] W fun e w' => e = .returned (.bool (ltK ks ds i z)) ∧ Below W.heap.size W w') := fun W hW => by
            have := l13Less_any (some ⟨p1, s1, none⟩) (some ⟨p2, s2, none⟩) ad d1 d2 cd ds (nthR ks i) (nthR ks z) W (r1.below hW) (r2.below hW) (HR.out.2.2.1 i hin) (HR.out.2.2.1 z (by omega)) HR.out.2.2.2 ((HR.out.2.1.below hBq).below hW)
            rw [HR.out.2.2.1 i hin, HR.out.2.2.1 z (by omega)] at this
            exact this
          have HLL : Hid (bk < wr.heap.size ∧ go < wr.heap.size) := ⟨lb1, Nat.lt_of_lt_of_le HZ.out.2.2.2 hbq.size⟩
          have hS : Hid (StO wr bk (ok + i) (.slice (some ⟨p1, s1, none⟩) ds.length d1) go j (.int .i64 z) bk (ok + z) (.slice (some ⟨p2, s2, none⟩) ds.length d2) wr.drew) := ⟨c1, c3, c2, (Below.refl _ _).drew⟩
          have HBX : Hid (∀ W, Below wr.heap.size wr W → Below wo.heap.size wo W) := fun W hW => below_step hbq (Nat.le_refl _) hW
          have hk0p : (0 : Int) < (k0 : Int) := by omega
          have hk0n : 0 < k0 := by omega
          have hjI : (k0 : Int) - 1 = (j : Int) := by omega
          have hji : j < i := by omega
          have hwj : IntKind.i64.wrap (j : Int) = (j : Int) := wrap_nat (by omega)
          have hzn : z < n := by omega
          have HJ : Hid (L.length = j ∧ j + 1 = k0 ∧ (L ++ [z]) ++ G = zs ∧ (L ++ [z]).length = k0) := ⟨hj, hj1, hAG, hk0⟩
          have HSF : Hid (ltK ks ds i z = false → SrtI ks ds (i + 1) ((L ++ [z]) ++ i :: G)) := fun h => SrtI.put (by rw [hAG]; exact HZ.out.1) (SrtI.head (by rw [hAG]; exact HZ.out.1) h) HG.out
          have HGT : Hid (ltK ks ds i z = true → ∀ x ∈ z :: G, ltK ks ds i x = true) := fun h x hx => by
            rcases List.mem_cons.1 hx with rfl | hx
            · exact h
            · exact HG.out x hx
          clear c1 c2 c3 r1 r2 lb1 lb2 hj hj1 hAG hk0 hzz HG hBq hbq
          cases hlt : ltK ks ds i z with
          | true =>
            rw [hlt] at CL
            have HG2 : Hid (∀ x ∈ z :: G, ltK ks ds i x = true) := HGT.out hlt
            clear HGT HSF hlt
            go_wp2_with fail
            refine wp_region_class (C := StO wr bk (ok + i) (.slice (some ⟨p1, s1, none⟩) ds.length d1) go j (.int .i64 z) bk (ok + z) (.slice (some ⟨p2, s2, none⟩) ds.length d2)) (by kernel_rfl) (by kernel_rfl) hS.out ?_
            repeat (first | go_big_quiet_skip | (go_big_quiet_want; apply Exists.intro; refine ⟨?_, ?_⟩; (focus (intro w' hw'; first | (obtain ⟨m0, m1, m2, m3⟩ := hw'; go_simp; with_reducible rfl) | (go_simp; refine (CL.out w' hw'.2.2.2).mono ?_; rintro e w'' ⟨rfl, hb⟩; exact ⟨rfl, hw'.keep HLL.out.1 HLL.out.2 HLL.out.1 hb⟩))); (try simp only [Act.put, List.setIfInBounds_toArray, List.set_cons_zero, List.set_cons_succ]); go_big_quiet_on))
            refine wpQuiet_nil ?_
            intro wx hwx
            have hbx : Below wo.heap.size wo wx := HBX.out wx hwx.2.2.2
            clear hwx CL hS HBX
            go_wp2
            go_roundw
            case rel => exact ⟨L, z :: G, j, by have := HJ.out.2.2.1; simpa using this, HJ.out.1, by go_num, HG2, hbx⟩
            case measure => have := HJ.out.2.1; simp [intOf]; omega
          | false =>
            rw [hlt] at CL
            have HSI : Hid (SrtI ks ds (i + 1) ((L ++ [z]) ++ i :: G)) := HSF.out hlt
            clear HGT HSF hlt
            go_wp2_with fail
            refine wp_region_class (C := StO wr bk (ok + i) (.slice (some ⟨p1, s1, none⟩) ds.length d1) go j (.int .i64 z) bk (ok + z) (.slice (some ⟨p2, s2, none⟩) ds.length d2)) (by kernel_rfl) (by kernel_rfl) hS.out ?_
            repeat (first | go_big_quiet_skip | (go_big_quiet_want; apply Exists.intro; refine ⟨?_, ?_⟩; (focus (intro w' hw'; first | (obtain ⟨m0, m1, m2, m3⟩ := hw'; go_simp; with_reducible rfl) | (go_simp; refine (CL.out w' hw'.2.2.2).mono ?_; rintro e w'' ⟨rfl, hb⟩; exact ⟨rfl, hw'.keep HLL.out.1 HLL.out.2 HLL.out.1 hb⟩))); (try simp only [Act.put, List.setIfInBounds_toArray, List.set_cons_zero, List.set_cons_succ]); go_big_quiet_on))
            refine wpQuiet_nil ?_
            intro wx hwx
            have hbx : Below wo.heap.size wo wx := HBX.out wx hwx.2.2.2
            have hAG := HJ.out.2.2.1
            have hk0 := HJ.out.2.2.2
            generalize L ++ [z] = A at *
            clear hwx CL hS HBX HJ hk0p hjI hji hzn hzi HLL hwj
            by_cases hck : co = k0
            · obtain rfl : i = k0 := by omega
              obtain rfl : i = co := by omega
              have P1 : Hid (∀ v W, Below wx.heap.size wx W → OwnI W wx.heap.size v [] → ∃ v' w', (Builtin.append_ #[43, 43] 43 #[v, .slice (some ⟨go, 0, none⟩) i i]).run Try.prog W = .ok v' w' ∧ OwnI w' wx.heap.size v' A ∧ Below wx.heap.size wx w' ∧ W.grownBy w' v.ownBlock) := fun v W hW ho => by
                obtain ⟨v', w', r, o, g, b⟩ := app_I (c := i) (b := go) (o := 0) (ys := A) ho hW.size (by simp; omega) (fun j hj => by
                  rw [Nat.zero_add, HZ.out.2.2.1 W (below_step hbx (Nat.le_refl _) hW) j (by rw [← hAG, List.length_append]; omega), ← hAG, nth_left hj])
                rw [hk0] at r
                exact ⟨v', w', r, o, b wx hW, g⟩
              have P2 : Hid (∀ v W gi, Below wx.heap.size wx W → OwnI W wx.heap.size v A → W.cell? ⟨gi, 0, none⟩ = some (.int .i64 i) → ∃ v' w', (Builtin.append_ #[43, 43] 43 #[v, .slice (some ⟨gi, 0, none⟩) 1 1]).run Try.prog W = .ok v' w' ∧ OwnI w' wx.heap.size v' (A ++ [i]) ∧ Below wx.heap.size wx w' ∧ W.grownBy w' v.ownBlock) := fun v W gi hW ho hc => by
                obtain ⟨v', w', r, o, g, b⟩ := app_I (c := 1) (b := gi) (o := 0) (ys := [i]) ho hW.size (by simp; omega) (fun j hj => by
                  have : j = 0 := by simpa using hj
                  subst this
                  exact hc)
                exact ⟨v', w', r, o, b wx hW, g⟩
              have hGl : G.length = 0 := by have := HZ.out.2.1; rw [← hAG, List.length_append] at this; omega
              have P3 : Hid (∀ v W, Below wx.heap.size wx W → OwnI W wx.heap.size v (A ++ [i]) → ∃ v' w', (Builtin.append_ #[43, 43] 43 #[v, .slice (some ⟨go, 0, none⟩) 0 0]).run Try.prog W = .ok v' w' ∧ OwnI w' wx.heap.size v' (A ++ i :: G) ∧ Below wx.heap.size wx w' ∧ W.grownBy w' v.ownBlock) := fun v W hW ho => by
                obtain ⟨v', w', r, o, g, b⟩ := app_I (c := 0) (b := go) (o := 0) (ys := G) ho hW.size (by simp; omega) (fun j hj => by
                  rw [HZ.out.2.2.1 W (below_step hbx (Nat.le_refl _) hW) (0 + j) (by rw [← hAG, List.length_append]; omega), ← hAG, show 0 + j = A.length + j by omega, nth_right])
                rw [hGl] at r
                rw [List.append_assoc] at o
                exact ⟨v', w', r, o, b wx hW, g⟩
              have HE : Hid (∀ W v, OwnI W wx.heap.size v (A ++ i :: G) → OrdI W v (A ++ i :: G)) := fun W v ho => ho.ord (by simp; omega)
              have HNX : Hid (∀ v W, OrdI W v (A ++ i :: G) → Below wx.heap.size wx W → Hid (OrdI W v (A ++ i :: G) ∧ SrtI ks ds (i + 1) (A ++ i :: G)) ∧ Below w.heap.size w W) := fun v W ho hW => ⟨⟨ho, HSI.out⟩, below_step (below_step hbl (Nat.le_refl _) hbx) (Nat.le_refl _) hW⟩
              clear hAG hk0 hGl
              have fr : ∀ (W : World) (o : Obj), Below W.heap.size W (W.alloc o) := fun W o => (Below.refl _ _).alloc (Nat.le_refl _) _
              have BA : Below wx.heap.size wx (wx.alloc (.cells #[] 3)).drew := (fr wx _).drew
              have BAI : Below wx.heap.size wx ((wx.alloc (.cells #[] 3)).alloc (.cells #[.int .i64 i] 3)).drew := ((fr wx _).alloc (by simp) _).drew
              have BIA : Below wx.heap.size wx ((wx.alloc (.cells #[.int .i64 i] 3)).alloc (.cells #[] 3)).drew := ((fr wx _).alloc (by simp) _).drew
              have OA : OwnI (wx.alloc (.cells #[] 3)).drew wx.heap.size (.slice (some ⟨wx.heap.size, 0, none⟩) 0 0) [] := OwnI.empty (Nat.le_refl _)
              have OAI : OwnI ((wx.alloc (.cells #[] 3)).alloc (.cells #[.int .i64 i] 3)).drew wx.heap.size (.slice (some ⟨wx.heap.size, 0, none⟩) 0 0) [] := OwnI.below (OwnI.empty (Nat.le_refl _)) (fr _ _).drew
              have OIA : OwnI ((wx.alloc (.cells #[.int .i64 i] 3)).alloc (.cells #[] 3)).drew wx.heap.size (.slice (some ⟨wx.heap.size + 1, 0, none⟩) 0 0) [] := by
                have := OwnI.empty (w := wx.alloc (.cells #[.int .i64 i] 3)) (B := wx.heap.size) (by simp)
                simp only [World.size_alloc] at this
                exact this
              obtain ⟨v1, w1, r1, o1, b1, g1⟩ := P1.out _ _ BA OA
              obtain ⟨v2, w2, r2, o2, b2, _⟩ := P2.out v1 (w1.alloc (.cells #[.int .i64 i] 3)) w1.heap.size (b1.alloc b1.size _) (o1.below (fr _ _)) (by simp)
              obtain ⟨v3, w3, r3, o3, b3, _⟩ := P3.out v2 w2 b2 o2
              obtain ⟨v4, w4, r4, o4, b4, g4⟩ := P1.out _ _ BAI OAI
              have e4 : ((wx.alloc (.cells #[] 3)).alloc (.cells #[.int .i64 i] 3)).drew.heap[wx.heap.size + 1]? = some (.cells #[.int .i64 i] 3 (0, 0)) := heap_new' _ _ _ (by simp)
              have e4' : w4.heap[wx.heap.size + 1]? = some (.cells #[.int .i64 i] 3 (0, 0)) := (g4.block _ (slab_lt e4) (fun h => by simp [Value.ownBlock] at h)).trans e4
              obtain ⟨v5, w5, r5, o5, b5, _⟩ := P2.out v4 w4 (wx.heap.size + 1) b4 o4 (by rw [slab_cell e4']; rfl)
              obtain ⟨v6, w6, r6, o6, b6, _⟩ := P3.out v5 w5 b5 o5
              obtain ⟨v7, w7, r7, o7, b7, g7⟩ := P1.out _ _ BIA OIA
              have e7 : ((wx.alloc (.cells #[.int .i64 i] 3)).alloc (.cells #[] 3)).drew.heap[wx.heap.size]? = some (.cells #[.int .i64 i] 3 (0, 0)) := (heap_old _ _ _ (by simp)).trans (heap_new' _ _ _ rfl)
              have e7' : w7.heap[wx.heap.size]? = some (.cells #[.int .i64 i] 3 (0, 0)) := (g7.block _ (slab_lt e7) (fun h => by simp [Value.ownBlock] at h)).trans e7
              obtain ⟨v8, w8, r8, o8, b8, _⟩ := P2.out v7 w7 wx.heap.size b7 o7 (by rw [slab_cell e7']; rfl)
              obtain ⟨v9, w9, r9, o9, b9, _⟩ := P3.out v8 w8 b8 o8
              have HF : Hid ((OrdI w3 v3 (A ++ i :: G) ∧ Below wx.heap.size wx w3) ∧ (OrdI w6 v6 (A ++ i :: G) ∧ Below wx.heap.size wx w6) ∧ OrdI w9 v9 (A ++ i :: G) ∧ Below wx.heap.size wx w9) := ⟨⟨HE.out _ _ o3, b3⟩, ⟨HE.out _ _ o6, b6⟩, HE.out _ _ o9, b9⟩
              clear fr BA BAI BIA OA OAI OIA o1 b1 g1 o2 b2 o3 b3 o4 b4 g4 e4 e4' o5 b5 o6 b6 o7 b7 g7 e7 e7' o8 b8 o9 b9 P1 P2 P3 HE
              go_wp2_with fail
              go_region_law (first
                | ((with_reducible change (if _ = true then Oper.wp _ _ _ ((wx.alloc (.cells #[] 3)).drew) _ _ else _)); refine step_append_run (by rfl) _ _ _ _ (by rfl) _ _ (by rfl) (by rfl) _ _ r1 ?_)
                | ((with_reducible change (if _ = true then Oper.wp _ _ _ ((w1.alloc (.cells #[.int .i64 i] 3))) _ _ else _)); refine step_append_run (by rfl) _ _ _ _ (by rfl) _ _ (by rfl) (by rfl) _ _ r2 ?_)
                | ((with_reducible change (if _ = true then Oper.wp _ _ _ (w2) _ _ else _)); refine step_append_run (by rfl) _ _ _ _ (by rfl) _ _ (by rfl) (by rfl) _ _ r3 ?_)
                | ((with_reducible change (if _ = true then Oper.wp _ _ _ (((wx.alloc (.cells #[] 3)).alloc (.cells #[.int .i64 i] 3)).drew) _ _ else _)); refine step_append_run (by rfl) _ _ _ _ (by rfl) _ _ (by rfl) (by rfl) _ _ r4 ?_)
                | ((with_reducible change (if _ = true then Oper.wp _ _ _ (w4) _ _ else _)); refine step_append_run (by rfl) _ _ _ _ (by rfl) _ _ (by rfl) (by rfl) _ _ r5 ?_)
                | ((with_reducible change (if _ = true then Oper.wp _ _ _ (w5) _ _ else _)); refine step_append_run (by rfl) _ _ _ _ (by rfl) _ _ (by rfl) (by rfl) _ _ r6 ?_)
                | ((with_reducible change (if _ = true then Oper.wp _ _ _ (((wx.alloc (.cells #[.int .i64 i] 3)).alloc (.cells #[] 3)).drew) _ _ else _)); refine step_append_run (by rfl) _ _ _ _ (by rfl) _ _ (by rfl) (by rfl) _ _ r7 ?_)
                | ((with_reducible change (if _ = true then Oper.wp _ _ _ (w7) _ _ else _)); refine step_append_run (by rfl) _ _ _ _ (by rfl) _ _ (by rfl) (by rfl) _ _ r8 ?_)
                | ((with_reducible change (if _ = true then Oper.wp _ _ _ (w8) _ _ else _)); refine step_append_run (by rfl) _ _ _ _ (by rfl) _ _ (by rfl) (by rfl) _ _ r9 ?_))
              all_goals
                simp only [List.getElem_toArray, List.getElem_cons_succ, List.getElem_cons_zero, Act.put, List.setIfInBounds_toArray, List.set_cons_succ, List.set_cons_zero]
                go_wp2
                go_roundw
                case rel =>
                  first
                  | exact ⟨i + 1, _, by omega, by go_num, HNX.out _ _ HF.out.1.1 HF.out.1.2⟩
                  | exact ⟨i + 1, _, by omega, by go_num, HNX.out _ _ HF.out.2.1.1 HF.out.2.1.2⟩
                  | exact ⟨i + 1, _, by omega, by go_num, HNX.out _ _ HF.out.2.2.1 HF.out.2.2.2⟩
                case measure => simp [intOf]; omega
            · have P1 : Hid (∀ v W, Below wx.heap.size wx W → OwnI W wx.heap.size v [] → ∃ v' w', (Builtin.append_ #[43, 43] 43 #[v, .slice (some ⟨go, 0, none⟩) k0 co]).run Try.prog W = .ok v' w' ∧ OwnI w' wx.heap.size v' A ∧ Below wx.heap.size wx w' ∧ W.grownBy w' v.ownBlock) := fun v W hW ho => by
                obtain ⟨v', w', r, o, g, b⟩ := app_I (c := co) (b := go) (o := 0) (ys := A) ho hW.size (by simp; omega) (fun j hj => by
                  rw [Nat.zero_add, HZ.out.2.2.1 W (below_step hbx (Nat.le_refl _) hW) j (by rw [← hAG, List.length_append]; omega), ← hAG, nth_left hj])
                rw [hk0] at r
                exact ⟨v', w', r, o, b wx hW, g⟩
              have P2 : Hid (∀ v W gi, Below wx.heap.size wx W → OwnI W wx.heap.size v A → W.cell? ⟨gi, 0, none⟩ = some (.int .i64 i) → ∃ v' w', (Builtin.append_ #[43, 43] 43 #[v, .slice (some ⟨gi, 0, none⟩) 1 1]).run Try.prog W = .ok v' w' ∧ OwnI w' wx.heap.size v' (A ++ [i]) ∧ Below wx.heap.size wx w' ∧ W.grownBy w' v.ownBlock) := fun v W gi hW ho hc => by
                obtain ⟨v', w', r, o, g, b⟩ := app_I (c := 1) (b := gi) (o := 0) (ys := [i]) ho hW.size (by simp; omega) (fun j hj => by
                  have : j = 0 := by simpa using hj
                  subst this
                  exact hc)
                exact ⟨v', w', r, o, b wx hW, g⟩
              have hGl : G.length = i - k0 := by have := HZ.out.2.1; rw [← hAG, List.length_append] at this; omega
              have P3 : Hid (∀ v W, Below wx.heap.size wx W → OwnI W wx.heap.size v (A ++ [i]) → ∃ v' w', (Builtin.append_ #[43, 43] 43 #[v, .slice (some ⟨go, k0, none⟩) (i - k0) (co - k0)]).run Try.prog W = .ok v' w' ∧ OwnI w' wx.heap.size v' (A ++ i :: G) ∧ Below wx.heap.size wx w' ∧ W.grownBy w' v.ownBlock) := fun v W hW ho => by
                obtain ⟨v', w', r, o, g, b⟩ := app_I (c := co - k0) (b := go) (o := k0) (ys := G) ho hW.size (by simp; omega) (fun j hj => by
                  rw [HZ.out.2.2.1 W (below_step hbx (Nat.le_refl _) hW) (k0 + j) (by rw [← hAG, List.length_append]; omega), ← hAG, show k0 + j = A.length + j by omega, nth_right])
                rw [hGl] at r
                rw [List.append_assoc] at o
                exact ⟨v', w', r, o, b wx hW, g⟩
              have HE : Hid (∀ W v, OwnI W wx.heap.size v (A ++ i :: G) → OrdI W v (A ++ i :: G)) := fun W v ho => ho.ord (by simp; omega)
              have HNX : Hid (∀ v W, OrdI W v (A ++ i :: G) → Below wx.heap.size wx W → Hid (OrdI W v (A ++ i :: G) ∧ SrtI ks ds (i + 1) (A ++ i :: G)) ∧ Below w.heap.size w W) := fun v W ho hW => ⟨⟨ho, HSI.out⟩, below_step (below_step hbl (Nat.le_refl _) hbx) (Nat.le_refl _) hW⟩
              have hkc : k0 ≤ co := by omega
              have hki : (k0 : Int) ≤ (i : Int) := by omega
              clear hAG hk0 hGl
              have fr : ∀ (W : World) (o : Obj), Below W.heap.size W (W.alloc o) := fun W o => (Below.refl _ _).alloc (Nat.le_refl _) _
              have BA : Below wx.heap.size wx (wx.alloc (.cells #[] 3)).drew := (fr wx _).drew
              have BAI : Below wx.heap.size wx ((wx.alloc (.cells #[] 3)).alloc (.cells #[.int .i64 i] 3)).drew := ((fr wx _).alloc (by simp) _).drew
              have BIA : Below wx.heap.size wx ((wx.alloc (.cells #[.int .i64 i] 3)).alloc (.cells #[] 3)).drew := ((fr wx _).alloc (by simp) _).drew
              have OA : OwnI (wx.alloc (.cells #[] 3)).drew wx.heap.size (.slice (some ⟨wx.heap.size, 0, none⟩) 0 0) [] := OwnI.empty (Nat.le_refl _)
              have OAI : OwnI ((wx.alloc (.cells #[] 3)).alloc (.cells #[.int .i64 i] 3)).drew wx.heap.size (.slice (some ⟨wx.heap.size, 0, none⟩) 0 0) [] := OwnI.below (OwnI.empty (Nat.le_refl _)) (fr _ _).drew
              have OIA : OwnI ((wx.alloc (.cells #[.int .i64 i] 3)).alloc (.cells #[] 3)).drew wx.heap.size (.slice (some ⟨wx.heap.size + 1, 0, none⟩) 0 0) [] := by
                have := OwnI.empty (w := wx.alloc (.cells #[.int .i64 i] 3)) (B := wx.heap.size) (by simp)
                simp only [World.size_alloc] at this
                exact this
              obtain ⟨v1, w1, r1, o1, b1, g1⟩ := P1.out _ _ BA OA
              obtain ⟨v2, w2, r2, o2, b2, _⟩ := P2.out v1 (w1.alloc (.cells #[.int .i64 i] 3)) w1.heap.size (b1.alloc b1.size _) (o1.below (fr _ _)) (by simp)
              obtain ⟨v3, w3, r3, o3, b3, _⟩ := P3.out v2 w2 b2 o2
              obtain ⟨v4, w4, r4, o4, b4, g4⟩ := P1.out _ _ BAI OAI
              have e4 : ((wx.alloc (.cells #[] 3)).alloc (.cells #[.int .i64 i] 3)).drew.heap[wx.heap.size + 1]? = some (.cells #[.int .i64 i] 3 (0, 0)) := heap_new' _ _ _ (by simp)
              have e4' : w4.heap[wx.heap.size + 1]? = some (.cells #[.int .i64 i] 3 (0, 0)) := (g4.block _ (slab_lt e4) (fun h => by simp [Value.ownBlock] at h)).trans e4
              obtain ⟨v5, w5, r5, o5, b5, _⟩ := P2.out v4 w4 (wx.heap.size + 1) b4 o4 (by rw [slab_cell e4']; rfl)
              obtain ⟨v6, w6, r6, o6, b6, _⟩ := P3.out v5 w5 b5 o5
              obtain ⟨v7, w7, r7, o7, b7, g7⟩ := P1.out _ _ BIA OIA
              have e7 : ((wx.alloc (.cells #[.int .i64 i] 3)).alloc (.cells #[] 3)).drew.heap[wx.heap.size]? = some (.cells #[.int .i64 i] 3 (0, 0)) := (heap_old _ _ _ (by simp)).trans (heap_new' _ _ _ rfl)
              have e7' : w7.heap[wx.heap.size]? = some (.cells #[.int .i64 i] 3 (0, 0)) := (g7.block _ (slab_lt e7) (fun h => by simp [Value.ownBlock] at h)).trans e7
              obtain ⟨v8, w8, r8, o8, b8, _⟩ := P2.out v7 w7 wx.heap.size b7 o7 (by rw [slab_cell e7']; rfl)
              obtain ⟨v9, w9, r9, o9, b9, _⟩ := P3.out v8 w8 b8 o8
              have HF : Hid ((OrdI w3 v3 (A ++ i :: G) ∧ Below wx.heap.size wx w3) ∧ (OrdI w6 v6 (A ++ i :: G) ∧ Below wx.heap.size wx w6) ∧ OrdI w9 v9 (A ++ i :: G) ∧ Below wx.heap.size wx w9) := ⟨⟨HE.out _ _ o3, b3⟩, ⟨HE.out _ _ o6, b6⟩, HE.out _ _ o9, b9⟩
              clear fr BA BAI BIA OA OAI OIA o1 b1 g1 o2 b2 o3 b3 o4 b4 g4 e4 e4' o5 b5 o6 b6 o7 b7 g7 e7 e7' o8 b8 o9 b9 P1 P2 P3 HE
              go_wp2_with fail
              go_region_law (first
                | ((with_reducible change (if _ = true then Oper.wp _ _ _ ((wx.alloc (.cells #[] 3)).drew) _ _ else _)); refine step_append_run (by rfl) _ _ _ _ (by rfl) _ _ (by rfl) (by rfl) _ _ r1 ?_)
                | ((with_reducible change (if _ = true then Oper.wp _ _ _ ((w1.alloc (.cells #[.int .i64 i] 3))) _ _ else _)); refine step_append_run (by rfl) _ _ _ _ (by rfl) _ _ (by rfl) (by rfl) _ _ r2 ?_)
                | ((with_reducible change (if _ = true then Oper.wp _ _ _ (w2) _ _ else _)); refine step_append_run (by rfl) _ _ _ _ (by rfl) _ _ (by rfl) (by rfl) _ _ r3 ?_)
                | ((with_reducible change (if _ = true then Oper.wp _ _ _ (((wx.alloc (.cells #[] 3)).alloc (.cells #[.int .i64 i] 3)).drew) _ _ else _)); refine step_append_run (by rfl) _ _ _ _ (by rfl) _ _ (by rfl) (by rfl) _ _ r4 ?_)
                | ((with_reducible change (if _ = true then Oper.wp _ _ _ (w4) _ _ else _)); refine step_append_run (by rfl) _ _ _ _ (by rfl) _ _ (by rfl) (by rfl) _ _ r5 ?_)
                | ((with_reducible change (if _ = true then Oper.wp _ _ _ (w5) _ _ else _)); refine step_append_run (by rfl) _ _ _ _ (by rfl) _ _ (by rfl) (by rfl) _ _ r6 ?_)
                | ((with_reducible change (if _ = true then Oper.wp _ _ _ (((wx.alloc (.cells #[.int .i64 i] 3)).alloc (.cells #[] 3)).drew) _ _ else _)); refine step_append_run (by rfl) _ _ _ _ (by rfl) _ _ (by rfl) (by rfl) _ _ r7 ?_)
                | ((with_reducible change (if _ = true then Oper.wp _ _ _ (w7) _ _ else _)); refine step_append_run (by rfl) _ _ _ _ (by rfl) _ _ (by rfl) (by rfl) _ _ r8 ?_)
                | ((with_reducible change (if _ = true then Oper.wp _ _ _ (w8) _ _ else _)); refine step_append_run (by rfl) _ _ _ _ (by rfl) _ _ (by rfl) (by rfl) _ _ r9 ?_))
              all_goals
                simp only [List.getElem_toArray, List.getElem_cons_succ, List.getElem_cons_zero, Act.put, List.setIfInBounds_toArray, List.set_cons_succ, List.set_cons_zero]
                go_wp2
                go_roundw
                case rel =>
                  first
                  | exact ⟨i + 1, _, by omega, by go_num, HNX.out _ _ HF.out.1.1 HF.out.1.2⟩
                  | exact ⟨i + 1, _, by omega, by go_num, HNX.out _ _ HF.out.2.1.1 HF.out.2.1.2⟩
                  | exact ⟨i + 1, _, by omega, by go_num, HNX.out _ _ HF.out.2.2.1 HF.out.2.2.2⟩
                case measure => simp [intOf]; omega
    · obtain rfl : i = n := by omega
      have HZ : Hid (zs = srtN ks ds ∧ zs.length = i ∧ (∀ W, Below wo.heap.size wo W → ∀ j, j < zs.length → W.cell? ⟨go, j, none⟩ = some (.int .i64 (nthN zs j))) ∧ ∀ x ∈ zs, x < i) := ⟨srtN_eq (by rw [HKN.out.1]; exact HO.out.2.1) HO.out.2.2, hzl, fun W hW j hj => (hW.cell (p := ⟨go, j, none⟩) lgo).trans (ogo j hj), fun x hx => List.mem_range.1 (HO.out.2.1.mem_iff.1 hx)⟩
      rw [hzl]
      clear HO ogo hzl hco lgo
      have BZ : Below wo.heap.size wo (wo.alloc (.cells #[] 28)) := (Below.refl _ _).alloc (Nat.le_refl _) _
      have OZ : Hid (OwnE (wo.alloc (.cells #[] 28)) wo.heap.size (.slice (some ⟨wo.heap.size, 0, none⟩) 0 0) kr (zs.take 0)) := ⟨rfl, .inr ⟨wo.heap.size, 0, #[], rfl, Nat.le_refl _, heap_alloc_new wo _, by simp, by simp, by simp, by simp⟩⟩
      go_wp2
      go_loopw [10, 11] (fun v q wr => ∃ k : Nat, k ≤ i ∧ q = .int .i64 k ∧ Hid (OwnE wr wo.heap.size v kr (zs.take k)) ∧ Below wo.heap.size wo wr) (fun _ q _ => i - (intOf q).toNat)
      case atStart => exact ⟨0, by omega, rfl, OZ.out, BZ⟩
      case round =>
        clear BZ OZ
        obtain ⟨k, hk, rfl, HE, hbq⟩ := hrel
        by_cases hkn : k < i
        · have hkI : (k : Int) < (i : Int) := by omega
          have hkz : k < zs.length := by rw [HZ.out.2.1]; exact hkn
          have c1 := HZ.out.2.2.1 wr hbq k hkz
          have hzx : nthN zs k < i := HZ.out.2.2.2 _ (by rw [nthN_get hkz]; exact List.getElem_mem hkz)
          obtain ⟨rfl, lbr⟩ := HC.out.1 (by omega)
          have hBq : Below w.heap.size w wr := below_step hbl (Nat.le_refl _) hbq
          have c2 : wr.cell? ⟨br, or + nthN zs k, none⟩ = some (kr.v (nthN zs k)) := (hBq.cell (p := ⟨br, or + nthN zs k, none⟩) lbr).trans (HC.out.2 _ hzx)
          have hbA : Below wr.heap.size wr (wr.alloc (.cells #[kr.v (nthN zs k)] 28)) := (Below.refl _ _).alloc (Nat.le_refl _) _
          have B3A := below_step hbq (Nat.le_refl _) hbA
          obtain ⟨v', w', hr, hO2, hB2⟩ := app_E (b := wr.heap.size) (c := 1) (x := nthN zs k) (OwnE.below HE.out hbA) B3A.size (by rw [List.length_take]; omega) (by simp)
          have hr' : Sem.run Try.prog (Builtin.append_ #[23, 23] 23 #[u10, .slice (some ⟨wr.heap.size, 0, none⟩) 1 1]) (wr.alloc (.cells #[kr.v (nthN zs k)] 28)) = .ok v' w' := hr
          have HO2 : Hid (OwnE w' wo.heap.size v' kr (zs.take (k + 1)) ∧ Below wo.heap.size wo w') := ⟨by rw [take_nextN hkz]; exact hO2, hB2 wo B3A⟩
          clear hr hO2 hB2 hbA B3A HE hkz hBq
          generalize nthN zs k = x at *
          go_wp2_with (at_builtin; refine Lib.wpList_append_run _ rfl _ _ _ _ rfl _ _ rfl rfl _ _ hr' ?_)
          go_roundw
          case rel => exact ⟨k + 1, by omega, by go_num, HO2.out.1, HO2.out.2⟩
          case measure => simp [intOf]; omega
        · obtain rfl : k = i := by omega
          have hE : OwnE wr wo.heap.size u10 kr zs := by
            have := HE.out
            rw [List.take_of_length_le (by rw [HZ.out.2.1]; omega)] at this
            exact this
          have HF : Hid (OwnE wr w.heap.size u10 kr (srtN ks ds) ∧ Below w.heap.size w wr) := ⟨by rw [← HZ.out.1]; exact OwnE.base hE hbl.size, below_step hbl (Nat.le_refl _) hbq⟩
          clear hE HE
          go_wp2
          go_ret
          exact ⟨_, rfl, HF.out.1, HF.out.2⟩
end Go.Proofs.Ytmcjgncpblbhpaa
