/- impl's groups own their memory (stage 13). -/
import Derived.Test.YtmcjgncpblbhpaaGpD
import Derived.Test.YtmcjgncpblbhpaaGpY
namespace Go.Proofs.Ytmcjgncpblbhpaa
open Go.RowKit

/-- The groups of the rows. -/
noncomputable def gsOf (cs : List Int) (rs : Rs) : Gs := (grpN cs rs).map fun g => g.map (nthR rs)
abbrev rowsG (rs : Rs) (G : List (List Nat)) : Gs := G.map fun g => g.map (nthR rs)
theorem nthG_map {rs : Rs} {G : List (List Nat)} {i : Nat} (h : i < G.length) : nthG (rowsG rs G) i = (nthL G i).map (nthR rs) := by
  rw [nthG_get (by simpa using h), List.getElem_map, nthL_get h]
theorem nthR_mapN {rs : Rs} {g : List Nat} {j : Nat} (h : j < g.length) : nthR (g.map (nthR rs)) j = nthR rs (nthN g j) := by
  rw [nthR_get (by simpa using h), List.getElem_map, nthN_get h]
theorem mem_nthN {g : List Nat} {j : Nat} (h : j < g.length) : nthN g j ∈ g := by rw [nthN_get h]; exact List.getElem_mem h
theorem mem_nthL {G : List (List Nat)} {i : Nat} (h : i < G.length) : nthL G i ∈ G := by rw [nthL_get h]; exact List.getElem_mem h
theorem PtI.own {w : World} {B B2 : Nat} {v : Value} {k : Cel} {G : List (List Nat)} {rs : Rs} {gsb ns : Nat → Nat} (h : PtI w B2 v k G) (hB : B ≤ B2) (hk : ∀ x, x < rs.length → k.l x = (nthR rs x).length ∧ (0 < (nthR rs x).length → k.a x = some ⟨gsb x, 0, none⟩ ∧ B ≤ gsb x ∧ (nthR rs x).length ≤ ns x ∧ SlabK w (gsb x) (ns x) (nthR rs x) (nthR rs x).length))
    (hd : ∀ x y, x < y → y < rs.length → 0 < (nthR rs x).length → 0 < (nthR rs y).length → gsb x ≠ gsb y) (hG : ∀ l ∈ G, ∀ x ∈ l, x < rs.length) (hnd : G.flatten.Nodup) : ∃ a c, v = .slice a (rowsG rs G).length c ∧ OwnG w B w.heap.size a (rowsG rs G) := by
  obtain ⟨xs, gb, gc, ⟨hx, ho⟩, hr, hgd⟩ := h
  rcases ho with ⟨rfl, h0⟩ | ⟨go, co, cur, rfl, hgo, hho, hnc, hcm, hcs, hct⟩
  · exact ⟨none, 0, by rw [List.length_map, h0], .inl (by rw [List.length_map]; exact h0)⟩
  have hne : ∀ x y, x < rs.length → y < rs.length → x ≠ y → 0 < (nthR rs x).length → 0 < (nthR rs y).length → gsb x ≠ gsb y := fun x y h1 h2 h3 p1 p2 => by
    rcases Nat.lt_or_ge x y with h | h
    · exact hd x y h h2 p1 p2
    · exact fun e => hd y x (by omega) h1 p2 p1 e.symm
  have hndl := List.pairwise_flatten.1 hnd
  refine ⟨some ⟨go, 0, none⟩, co, by rw [List.length_map], .inr ⟨go, cur, gc, fun i => some ⟨gb i, 0, none⟩, fun i b => b = gb i ∨ ∃ x ∈ nthL G i, 0 < (nthR rs x).length ∧ b = gsb x, rfl, by omega, slab_lt hho, hho, fun i hi => ?_, fun i j b hij hj hbi hbj => ?_⟩⟩
  · rw [List.length_map] at hi
    obtain ⟨e1, og⟩ := hr i hi
    obtain ⟨q1, q2, q3, q4, curg, hhg, q6, q7⟩ := owns_at og
    have hcell : cur[i]? = some (.slice (some ⟨gb i, 0, none⟩) (nthL G i).length (gc i)) := by
      rw [← hct, List.getElem?_take, if_pos (by omega)] at e1
      rw [← Array.getElem?_toList]; exact e1
    have en := nthG_map (rs := rs) hi
    have hS : OwnS w (fun b => b = gb i ∨ ∃ x ∈ nthL G i, 0 < (nthR rs x).length ∧ b = gsb x) (Rng B w.heap.size) (some ⟨gb i, 0, none⟩) ((nthL G i).map (nthR rs)) := by
      refine .inr ⟨gb i, curg, fun j => gsb (nthN (nthL G i) j), fun j => ns (nthN (nthL G i) j), fun j => k.c (nthN (nthL G i) j), fun j => k.a (nthN (nthL G i) j), rfl, .inl rfl, ⟨by omega, slab_lt hhg⟩, hhg, fun j hj => ?_, fun j j' hjj hj' p1 p2 => ?_⟩
      · rw [List.length_map] at hj
        have hxl : nthN (nthL G i) j < rs.length := hG _ (mem_nthL hi) _ (mem_nthN hj)
        obtain ⟨k1, k2⟩ := hk _ hxl
        rw [nthR_mapN hj]
        refine ⟨?_, fun p => ?_⟩
        · have h9 : ((nthL G i).map k.v)[j]? = some (k.v (nthN (nthL G i) j)) := by rw [List.getElem?_map, List.getElem?_eq_getElem hj, nthN_get hj]; rfl
          rw [← q7, List.getElem?_take, if_pos hj] at h9
          rw [← Array.getElem?_toList, h9, Cel.v, k1]
        · obtain ⟨m1, m2, m3, m4⟩ := k2 p
          refine ⟨m1, fun e => ?_, .inr ⟨_, mem_nthN hj, p, rfl⟩, ⟨m2, m4.lt⟩, m3, by show SlabK _ _ _ (nthR _ j) _; rw [nthR_mapN hj]; exact m4⟩
          obtain ⟨cu, hq, _⟩ := m4
          exact blk_ne hhg hq (by decide) e.symm
      · rw [List.length_map] at hj'
        rw [nthR_mapN (by omega)] at p1
        rw [nthR_mapN hj'] at p2
        refine hne _ _ (hG _ (mem_nthL hi) _ (mem_nthN (by omega))) (hG _ (mem_nthL hi) _ (mem_nthN hj')) (fun e => ?_) p1 p2
        have hn := hndl.1 _ (mem_nthL hi)
        rw [nthN_get hj', nthN_get (show j < (nthL G i).length by omega)] at e
        exact (List.pairwise_iff_getElem.1 hn j j' (by omega) hj' hjj) e
    refine ⟨by rw [en, List.length_map]; exact hcell, by show OwnS _ _ _ _ (nthG _ i); rw [en]; exact hS, fun hs => ?_⟩
    · rcases hs with e | ⟨x, hxm, p, e⟩
      · exact blk_ne hho hhg (by decide) e
      · obtain ⟨_, _, _, m4⟩ := (hk x (hG _ (mem_nthL hi) x hxm)).2 p
        obtain ⟨cu, hq, _⟩ := m4
        exact blk_ne hho hq (by decide) e
  · rw [List.length_map] at hj
    have hi : i < G.length := by omega
    obtain ⟨_, _, _, _, ci, hhi, _⟩ := owns_at (hr i hi).2
    obtain ⟨_, _, _, _, cj, hhj, _⟩ := owns_at (hr j hj).2
    rcases hbi with e1 | ⟨x, hxm, p1, e1⟩
    · rcases hbj with e2 | ⟨y, hym, p2, e2⟩
      · exact hgd i j hij hj (by rw [← e1, e2])
      · obtain ⟨_, _, _, m4⟩ := (hk y (hG _ (mem_nthL hj) y hym)).2 p2
        obtain ⟨cu, hq, _⟩ := m4
        exact blk_ne hhi hq (by decide) (by rw [← e1, e2])
    · obtain ⟨_, _, _, m4⟩ := (hk x (hG _ (mem_nthL hi) x hxm)).2 p1
      rcases hbj with e2 | ⟨y, hym, p2, e2⟩
      · obtain ⟨cu, hq, _⟩ := m4
        exact blk_ne hhj hq (by decide) (by rw [← e1, e2])
      · refine hne x y (hG _ (mem_nthL hi) x hxm) (hG _ (mem_nthL hj) y hym) (fun e => ?_) p1 p2 (by rw [← e1, e2])
        have hp := List.pairwise_iff_getElem.1 hndl.2 i j hi hj hij
        subst e
        rw [nthL_get hi] at hxm
        rw [nthL_get hj] at hym
        exact hp x hxm x hym rfl
theorem grp_lt {cs : List Int} {rs : Rs} {G : List (List Nat)} (h : Grp (ltG cs rs) rs.length G) : (∀ l ∈ G, ∀ x ∈ l, x < rs.length) ∧ G.flatten.Nodup :=
  ⟨fun l hl _ hx => List.mem_range.1 (h.1.mem_iff.1 (List.mem_flatten.2 ⟨l, hl, hx⟩)), h.1.nodup_iff.2 List.nodup_range⟩
/-- What partedBy makes of copied rows. -/
theorem parted_own (g c n : Nat) (rs : Rs) (cs : List Int) (gd B hi : Nat) (W : World) (hB : BldR W B hi (.slice (some ⟨g, 0, none⟩) n c) rs) (hBW : B ≤ W.heap.size) (hn : rs.length = n) (hN : n ≤ 400) (hg : g < W.heap.size) (hin : InP W gd cs) (hok : ∀ x, x < n → ∀ i, i < cs.length → 0 ≤ nthC cs i ∧ nthC cs i < (nthR rs x).length) (hcl : cs.length ≤ 4096) (ht : TextR rs) :
    Calls Try.prog 56 #[.slice (some ⟨g, 0, none⟩) n c, .func (.func 84) #[] #[.pointer (some ⟨gd, 0, none⟩)]] W fun e w' => ∃ a c', e = .returned (.slice a (gsOf cs rs).length c') ∧ OwnG w' B w'.heap.size a (gsOf cs rs) ∧ Below W.heap.size W w' := by
  obtain ⟨xs, gs, ns, cc, ax, ho, hr, hd⟩ := hB
  have hrow : ∀ W', Below W.heap.size W W' → ∀ x, x < n → RowV W' (ax x) (nthR rs x) := fun W' hW x hx j hj => by
    obtain ⟨q1, q2, q3, q4, q5⟩ := (hr x (by omega)).2 (by omega)
    have q5' := q5.below hW q5.lt
    obtain ⟨cu, qh, _, qc⟩ := q5'
    have := qc j hj
    refine ⟨gs x, 0, q1, slab_lt qh, ⟨?_, ?_, ?_⟩, ht x (by omega) j hj⟩
    · rw [slab_cell qh, Nat.zero_add]; exact this.1
    · rw [slab_cell qh, Nat.zero_add]; exact this.2.1
    · rw [slab_cell qh, Nat.zero_add]; exact this.2.2
  rw [hn] at ho
  obtain ⟨_, _, _, _, cur, hh, _, hct⟩ := owns_at ho
  have hcells : ∀ x, x < n → W.cell? ⟨g, 0 + x, none⟩ = some ((⟨ax, fun i => (nthR rs i).length, cc⟩ : Cel).v x) := fun x hx => by
    have e1 := (hr x (by omega)).1
    rw [Nat.zero_add, slab_cell hh]
    rw [← hct, List.getElem?_take, if_pos hx] at e1
    rw [← Array.getElem?_toList]; exact e1
  have P := partedBy_any g c n rs ⟨ax, fun i => (nthR rs i).length, cc⟩ (cfG cs rs) (ltG_o cs rs) (cfG_neg cs rs) 84 #[.pointer (some ⟨gd, 0, none⟩)] W hn hN hcells hg ent84 (fun W' hW x y hx hy => columnsOrder1_any (ax x) (ax y) (cc x) (cc y) cs (nthR rs x) (nthR rs y) gd W' (hrow W' hW x hx) (hrow W' hW y hy) (hok x hx) (hok y hy) hcl (hin.below hW))
  refine P.mono ?_
  rintro e w' ⟨v, G, rfl, hG, hP, hb⟩
  have hG' : Grp (ltG cs rs) rs.length G := by rw [hn]; exact hG
  have hGe := grpN_eq hG'
  obtain ⟨a, c', rfl, hO⟩ := PtI.own (B := B) (rs := rs) (gsb := gs) (ns := ns) hP hBW (fun x hx => ⟨rfl, fun p => by
    obtain ⟨q1, q2, q3, q4, q5⟩ := (hr x hx).2 p
    exact ⟨q1, q2, q4, q5.below hb q5.lt⟩⟩) hd.1 (grp_lt hG').1 (grp_lt hG').2
  subst hGe
  exact ⟨a, c', rfl, hO, hb⟩
end Go.Proofs.Ytmcjgncpblbhpaa
