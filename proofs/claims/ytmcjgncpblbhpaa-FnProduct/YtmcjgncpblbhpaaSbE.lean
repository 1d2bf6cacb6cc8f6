/- The specification's l13Same (stage 13). -/
import Derived.Test.YtmcjgncpblbhpaaSbD
namespace Go.Proofs.Ytmcjgncpblbhpaa
open Go.RowKit

/-- A list of rows of the call's own, named by zs. -/
def OwnD (w : World) (B : Nat) (v : Value) (k : Cel) (zs : List Nat) : Prop := w.ownsRow B 28 1 v zs.length (zs.map k.v) ∧ v ≠ .slice none 0 0
theorem OwnD.dat {w : World} {B : Nat} {v : Value} {k : Cel} {zs : List Nat} (h : OwnD w B v k zs) : ∃ g c, v = .slice (some ⟨g, 0, none⟩) zs.length c ∧ B ≤ g ∧ zs.length ≤ c ∧ Dat w g c k zs := by
  obtain ⟨⟨q1, q2⟩, hne⟩ := h
  rcases q2 with ⟨e, _⟩ | ⟨g, c, cur, e, hg, hh, hcap, _, hs, ht⟩
  · exact absurd e hne
  · refine ⟨g, c, e, hg, hcap, cur, hh, by simpa using hs, hcap, fun i hi => ?_⟩
    have h9 : (zs.map k.v)[i]? = some (k.v (nthN zs i)) := by rw [List.getElem?_map, List.getElem?_eq_getElem hi, nthN_get hi]; rfl
    rw [← ht, List.getElem?_take] at h9
    split at h9
    · rw [← Array.getElem?_toList]; exact h9
    · cases h9
theorem OwnD.below {w w' : World} {B : Nat} {v : Value} {k : Cel} {zs : List Nat} (h : OwnD w B v k zs) (hb : Below w.heap.size w w') : OwnD w' B v k zs := by
  obtain ⟨⟨h1, h2⟩, hne⟩ := h
  refine ⟨⟨h1, ?_⟩, hne⟩
  rcases h2 with h | ⟨g, cap, cur, e, hg, hh, r⟩
  · exact .inl h
  · exact .inr ⟨g, cap, cur, e, hg, (hb.block g (slab_lt hh)).trans hh, r⟩
theorem OwnD.empty {w : World} {B : Nat} {k : Cel} (hB : B ≤ w.heap.size) : OwnD (w.alloc (.cells #[] 28)) B (.slice (some ⟨w.heap.size, 0, none⟩) 0 0) k [] :=
  ⟨⟨rfl, .inr ⟨w.heap.size, 0, #[], rfl, hB, heap_alloc_new w _, by simp, by simp, by simp, by simp⟩⟩, by simp⟩
set_option maxRecDepth 100000 in
theorem app_D {w : World} {B b o c : Nat} {v : Value} {k : Cel} {zs ys : List Nat} (h : OwnD w B v k zs) (hB : B ≤ w.heap.size) (hl : zs.length + ys.length ≤ 4096) (hc : ∀ j, j < ys.length → w.cell? ⟨b, o + j, none⟩ = some (k.v (nthN ys j))) :
    ∃ v' w', (Builtin.append_ #[23, 23] 23 #[v, .slice (some ⟨b, o, none⟩) ys.length c]).run Try.prog w = .ok v' w' ∧ OwnD w' B v' k (zs ++ ys) ∧ ∀ w0, Below B w0 w → Below B w0 w' := by
  obtain ⟨i0, hi1, hz0, hz1, hz2⟩ := info_parts infoR
  obtain ⟨h0, hne⟩ := h
  obtain ⟨v', w', h1, h2, h3, h4⟩ := run_append_own (P := Try.prog) w B 23 23 28 i0 _ 1 24 Try.underlying23 hi1 hz0 hz1 hz2 rfl (by decide) v zs.length (zs.map k.v) h0 ⟨b, o, none⟩ ys.length c (ys.map k.v) (by simp) (fun j u hj => by
    rw [List.getElem?_map] at hj
    obtain ⟨x, hx, rfl⟩ := Option.map_eq_some_iff.1 hj
    obtain ⟨hjn, e⟩ := List.getElem?_eq_some_iff.1 hx
    rw [add_plain, hc j hjn, nthN_get hjn, e]) (by intro u hu; obtain ⟨x, _, rfl⟩ := List.mem_map.1 hu; rfl) (by unfold maxLen; omega) (by omega) hB
  refine ⟨v', w', h1, ⟨by rw [List.length_append, List.map_append]; exact h2, fun e => hne (h4.1 e).1⟩, fun w0 hb => hb.grown h3 hB fun j e => ?_⟩
  obtain ⟨_, q2⟩ := h0
  rcases q2 with ⟨rfl, _⟩ | ⟨g, cap, cur, rfl, hg', _⟩
  · simp [Value.ownBlock] at e
  · simp [Value.ownBlock] at e
    omega
/-- Whether the rows of aa from i on are just those that zs names of bb. -/
def SamS (aa bb : Rs) (i : Nat) (zs : List Nat) : Prop := (∀ x ∈ zs, x < bb.length) ∧ zs.length ≤ bb.length ∧ (aa.Perm bb ↔ (aa.drop i).Perm (zs.map (nthR bb)))
theorem SamS.start (aa bb : Rs) : SamS aa bb 0 (List.range bb.length) := ⟨fun x hx => List.mem_range.1 hx, by simp, by
  have : (List.range bb.length).map (nthR bb) = bb := by
    refine List.ext_getElem (by simp) fun i h2 h3 => ?_
    rw [List.getElem_map, List.getElem_range, nthR_get h3]
  rw [this, List.drop_zero]⟩
theorem drop_nthR {rs : Rs} {i : Nat} (h : i < rs.length) : rs.drop i = nthR rs i :: rs.drop (i + 1) := by rw [List.drop_eq_getElem_cons h, nthR_get h]
theorem SamS.hit {aa bb : Rs} {i z : Nat} {L R : List Nat} (h : SamS aa bb i (L ++ z :: R)) (hi : i < aa.length) (hz : nthR aa i = nthR bb z) : SamS aa bb (i + 1) (L ++ R) := by
  obtain ⟨h1, h2, h3⟩ := h
  refine ⟨fun x hx => h1 x (by rcases List.mem_append.1 hx with h | h; exact List.mem_append_left _ h; exact List.mem_append_right _ (List.mem_cons_of_mem _ h)), by simp at h2 ⊢; omega, h3.trans ?_⟩
  rw [drop_nthR hi, hz, List.map_append, List.map_cons, List.map_append]
  constructor
  · intro h
    exact (List.perm_cons _).1 (h.trans List.perm_middle)
  · intro h
    exact (h.cons _).trans List.perm_middle.symm
theorem SamS.miss {aa bb : Rs} {i : Nat} {zs : List Nat} (h : SamS aa bb i zs) (hi : i < aa.length) (hz : ∀ j, j < zs.length → nthR aa i ≠ nthR bb (nthN zs j)) : ¬ aa.Perm bb := fun hp => by
  have := h.2.2.1 hp
  rw [drop_nthR hi] at this
  have hm : nthR aa i ∈ zs.map (nthR bb) := this.mem_iff.1 (by simp)
  obtain ⟨x, hx, e⟩ := List.mem_map.1 hm
  obtain ⟨j, hj, rfl⟩ := List.getElem_of_mem hx
  exact hz j hj (by rw [nthN_get hj]; exact e.symm)
theorem SamS.done {aa bb : Rs} {zs : List Nat} (h : SamS aa bb aa.length zs) : (decide (zs.length = 0) = true ↔ aa.Perm bb) := by
  rw [h.2.2, List.drop_length, decide_eq_true_eq]
  constructor
  · intro e
    rw [List.eq_nil_of_length_eq_zero e]; exact List.Perm.refl _
  · intro e
    have := e.length_eq
    simp at this
    omega
end Go.Proofs.Ytmcjgncpblbhpaa
