/- impl's compactNodes (stage 5). -/
import Derived.Test.YthflalpapdaidaaCpG
namespace Go.Proofs.Ythflalpapdaidaa
open Go.RowKit

/-- Who is reached. -/
noncomputable def fR (ns : List Nd) (rs : List Int) : Nat → Bool := fun j => asB (Rch ns rs j)
theorem rchL_fR (ns : List Nd) (rs : List Int) : rchL ns rs = upL (fR ns rs) ns.length := rfl
theorem fR_kid {ns : List Nd} {rs : List Int} {m j : Nat} (h : fR ns rs m = true) (hm : m < ns.length) (hk : KidOf ns m j) : fR ns rs j = true := (asB_true (Rch.kid (asB_is h) hm hk)).symm
theorem fR_root {ns : List Nd} {rs : List Int} {j : Nat} (h : RootOf rs j) : fR ns rs j = true := (asB_true (Rch.root h)).symm
/-- Places when k of them are told. -/
def pk (f : Nat → Bool) (k : Nat) : Nat → Nat := fun j => if f j = true ∧ rk f j < k then rk f j else 0
theorem pk_step {f : Nat → Bool} {j0 k : Nat} (hf : f j0 = true) (hr : rk f j0 = k) : (fun j => if j = j0 then k else pk f k j) = pk f (k + 1) := by
  funext j
  unfold pk
  by_cases e : j = j0
  · subst e
    rw [if_pos rfl, if_pos ⟨hf, by omega⟩, hr]
  · rw [if_neg e]
    by_cases h : f j = true ∧ rk f j < k
    · rw [if_pos h, if_pos ⟨h.1, by omega⟩]
    · rw [if_neg h, if_neg]
      rintro ⟨h1, h2⟩
      refine e (rk_inj h1 hf ?_)
      have : ¬ rk f j < k := fun h3 => h ⟨h1, h3⟩
      omega
theorem pm_pk {f : Nat → Bool} {k : Nat} {x : Int} (h : 0 ≤ x → f x.toNat = true ∧ rk f x.toNat < k) : pm (pk f k) x = mv f x := by
  unfold pm mv
  by_cases hx : x < 0
  · rw [if_pos hx, if_pos hx]
  · rw [if_neg hx, if_neg hx]
    unfold pk
    rw [if_pos (h (by omega))]
theorem map_pm {f : Nat → Bool} {k : Nat} {l : List Int} (h : ∀ i, i < l.length → 0 ≤ nthI l i → f (nthI l i).toNat = true ∧ rk f (nthI l i).toNat < k) : l.map (pm (pk f k)) = l.map (mv f) := by
  apply List.map_congr_left
  intro x hx
  obtain ⟨i, hi, rfl⟩ := List.mem_iff_getElem.1 hx
  rw [← nthI_get hi]
  exact pm_pk (h i hi)
theorem kids_pm {ns : List Nd} {rs : List Int} (hk : KidsLt ns) {m k : Nat} (hm : m < ns.length) (hf : fR ns rs m = true) (hr : rk (fR ns rs) m = k) : (nthN ns m).2.2.2.map (pm (pk (fR ns rs) (k + 1))) = (nthN ns m).2.2.2.map (mv (fR ns rs)) := map_pm fun i hi _ => by
  obtain ⟨h1, h2⟩ := hk m hm i hi
  have hko : KidOf ns m (nthI (nthN ns m).2.2.2 i).toNat := ⟨i, hi, by omega⟩
  have hfc := fR_kid hf hm hko
  have := rk_lt (f := fR ns rs) (i := (nthI (nthN ns m).2.2.2 i).toNat) (j := m) (by omega) hfc
  exact ⟨hfc, by omega⟩
theorem roots_pm {ns : List Nd} {rs : List Int} (hg : RgP ns rs) : rs.map (pm (pk (fR ns rs) (rk (fR ns rs) ns.length))) = rs.map (mv (fR ns rs)) := map_pm fun i hi h0 => by
  obtain ⟨_, h2⟩ := hg i hi
  have hf : fR ns rs (nthI rs i).toNat = true := fR_root ⟨i, hi, by omega⟩
  exact ⟨hf, rk_lt (by omega) hf⟩
/-- Nodes in block gm, of which the first k are the kept ones; their texts lie in w. -/
def MadeN (w : World) (gm m : Nat) (ns : List Nd) (f : Nat → Bool) (k : Nat) (wr : World) : Prop := ∃ cur : Array Value, wr.heap[gm]? = some (.cells cur 93 (0, 0)) ∧ cur.size = m * 4 ∧ ∀ q, q < k → ∃ j ka kc va vc h, j < ns.length ∧ f j = true ∧ rk f j = q ∧ El4 cur q (.bool (nthN ns j).1) (.slice ka (nthN ns j).2.1.length kc) (.slice va (nthN ns j).2.2.1.length vc) (.slice (some ⟨h, 0, none⟩) (nthN ns j).2.2.2.length (nthN ns j).2.2.2.length) ∧ RowS w ka (nthN ns j).2.1 ∧ RowS w va (nthN ns j).2.2.1 ∧
  OwnL 3 wr (gm + 1) wr.heap.size (.slice (some ⟨h, 0, none⟩) (nthN ns j).2.2.2.length (nthN ns j).2.2.2.length) (vI ((nthN ns j).2.2.2.map (mv f)))
theorem MadeN.below {w wr w' : World} {gm m k : Nat} {ns : List Nd} {f : Nat → Bool} (h : MadeN w gm m ns f k wr) (hb : Below wr.heap.size wr w') : MadeN w gm m ns f k w' := by
  obtain ⟨cur, hh, hs, hc⟩ := h
  refine ⟨cur, (hb.block gm (slab_lt hh)).trans hh, hs, fun q hq => ?_⟩
  obtain ⟨j, ka, kc, va, vc, h, h1, h2, h3, h4, h5, h6, h7⟩ := hc q hq
  exact ⟨j, ka, kc, va, vc, h, h1, h2, h3, h4, h5, h6, (h7.same fun b _ _ r => hb.block b r).mono (Nat.le_refl _) hb.size⟩
theorem MadeN.set {w wr : World} {gm m k gp o : Nat} {ns : List Nd} {f : Nat → Bool} (h : MadeN w gm m ns f k wr) (v : Value) (hp : gp < gm) : MadeN w gm m ns f k (wr.setCell ⟨gp, o, none⟩ v) := by
  obtain ⟨cur, hh, hs, hc⟩ := h
  have e : (wr.setCell ⟨gp, o, none⟩ v).heap.size = wr.heap.size := by simp [World.setCell]
  refine ⟨cur, (set_other _ (by show gp ≠ gm; omega)).trans hh, hs, fun q hq => ?_⟩
  obtain ⟨j, ka, kc, va, vc, h, h1, h2, h3, h4, h5, h6, h7⟩ := hc q hq
  exact ⟨j, ka, kc, va, vc, h, h1, h2, h3, h4, h5, h6, by rw [e]; exact h7.same fun b p _ _ => set_other _ (by show gp ≠ b; omega)⟩
/-- The k-th one's cells are written. -/
theorem MadeN.over {w wr : World} {gm m k o : Nat} {ns : List Nd} {f : Nat → Bool} (h : MadeN w gm m ns f k wr) (v : Value) (ho : k * 4 ≤ o) : MadeN w gm m ns f k (wr.setCell ⟨gm, o, none⟩ v) := by
  obtain ⟨cur, hh, hs, hc⟩ := h
  have e : (wr.setCell ⟨gm, o, none⟩ v).heap.size = wr.heap.size := by simp [World.setCell]
  refine ⟨_, slab_set hh _, by simpa using hs, fun q hq => ?_⟩
  obtain ⟨j, ka, kc, va, vc, h, h1, h2, h3, h4, h5, h6, h7⟩ := hc q hq
  exact ⟨j, ka, kc, va, vc, h, h1, h2, h3, h4.same fun x x1 x2 => Array.getElem?_setIfInBounds_ne (by omega), h5, h6, by rw [e]; exact h7.same fun b p _ _ => set_other _ (by show gm ≠ b; omega)⟩
theorem MadeN.next {w wr : World} {gm m k j : Nat} {ns : List Nd} {f : Nat → Bool} {ka va : Option Addr} {kc vc h : Nat} (H : MadeN w gm m ns f k wr) (hj : j < ns.length) (hf : f j = true) (hr : rk f j = k) (h1 : RowS w ka (nthN ns j).2.1) (h2 : RowS w va (nthN ns j).2.2.1)
    (ho : OwnL 3 wr (gm + 1) wr.heap.size (.slice (some ⟨h, 0, none⟩) (nthN ns j).2.2.2.length (nthN ns j).2.2.2.length) (vI ((nthN ns j).2.2.2.map (mv f))))
    (hc : Cell4 wr gm (k * 4) (.bool (nthN ns j).1) (.slice ka (nthN ns j).2.1.length kc) (.slice va (nthN ns j).2.2.1.length vc) (.slice (some ⟨h, 0, none⟩) (nthN ns j).2.2.2.length (nthN ns j).2.2.2.length)) : MadeN w gm m ns f (k + 1) wr := by
  obtain ⟨cur, hh, hs, hq⟩ := H
  refine ⟨cur, hh, hs, fun q hq' => ?_⟩
  by_cases e : q = k
  · subst e
    obtain ⟨c0, c1, c2, c3⟩ := hc
    rw [slab_cell hh] at c0 c1 c2 c3
    exact ⟨j, ka, kc, va, vc, h, hj, hf, hr, ⟨c0, c1, c2, c3⟩, h1, h2, ho⟩
  · exact hq q (by omega)
theorem MadeN.lt {w wr : World} {gm m k : Nat} {ns : List Nd} {f : Nat → Bool} (h : MadeN w gm m ns f k wr) : gm < wr.heap.size := by
  obtain ⟨cur, hh, _⟩ := h
  exact slab_lt hh
theorem MadeN.there {w wr : World} {gm m k o : Nat} {ns : List Nd} {f : Nat → Bool} (h : MadeN w gm m ns f k wr) (ho : o < m * 4) : ∃ v, wr.cell? ⟨gm, o, none⟩ = some v := by
  obtain ⟨cur, hh, hs, _⟩ := h
  exact blk_there hh (by omega)
theorem MadeN.free {w wr : World} {gm m k : Nat} {ns : List Nd} {f : Nat → Bool} (h : MadeN w gm m ns f k wr) (o : Nat) : wr.frozen? ⟨gm, o, none⟩ = false := by
  obtain ⟨cur, hh, hs, _⟩ := h
  exact slab_free hh
theorem MadeN.row {w wr : World} {gm m : Nat} {ns : List Nd} {f : Nat → Bool} (H : MadeN w gm m ns f (rk f ns.length) wr) (hb : Below w.heap.size w wr) (hsm : ∀ i, i < ns.length → SmallN (nthN ns i)) : RowN wr (some ⟨gm, 0, none⟩) (cmpL ns f ns.length) := fun q hq => by
  rw [cmpL_len] at hq
  obtain ⟨cur, hh, _, hc⟩ := H
  obtain ⟨j, ka, kc, va, vc, h, h1, h2, h3, ⟨e0, e1, e2, e3⟩, h5, h6, h7⟩ := hc q hq
  obtain ⟨a', c', e, r⟩ := h7.rowI
  rw [List.length_map] at e
  cases e
  refine ⟨gm, 0, rfl, slab_lt hh, ?_⟩
  rw [Nat.zero_add, ← h3, cmpL_at h1 h2, h3]
  obtain ⟨s1, s2, s3⟩ := hsm j h1
  exact ⟨ka, kc, va, vc, _, _, (slab_cell hh).trans e0, (slab_cell hh).trans e1, (slab_cell hh).trans e2, by have e3' := (slab_cell hh).trans e3; have el : ((nthN ns j).2.2.2.map (mv f)).length = (nthN ns j).2.2.2.length := List.length_map _; rw [← el] at e3'; exact e3', h5.below hb, h6.below hb, r, by show (nthN ns j).2.1.length ≤ _; unfold maxLen; omega, by show (nthN ns j).2.2.1.length ≤ _; unfold maxLen; omega, by show (List.map _ _).length ≤ _; rw [List.length_map]; unfold maxLen; omega⟩
end Go.Proofs.Ythflalpapdaidaa
