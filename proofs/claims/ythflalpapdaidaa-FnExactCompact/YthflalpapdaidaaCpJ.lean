/- impl's Compact (stage 5). -/
import Derived.Test.YthflalpapdaidaaCpI
namespace Go.Proofs.Ythflalpapdaidaa
open Go.RowKit

/-- What Compact answers: nodes, roots. -/
noncomputable def cmF (ns : List Nd) (rs : List Int) : List Nd := if rtC ns rs = 0 then cmpL ns (fR ns rs) ns.length else []
noncomputable def cmR (ns : List Nd) (rs : List Int) : List Int := if rtC ns rs = 0 then rs.map (mv (fR ns rs)) else []
theorem cmF_small {ns : List Nd} {rs : List Int} (h : ∀ i, i < ns.length → SmallN (nthN ns i)) : ∀ i, i < (cmF ns rs).length → SmallN (nthN (cmF ns rs) i) := by
  unfold cmF
  split
  · exact cmpL_small (Nat.le_refl _) h
  · intro i hi; simp at hi
theorem cmF_len (ns : List Nd) (rs : List Int) : (cmF ns rs).length ≤ ns.length := by
  unfold cmF
  split
  · rw [cmpL_len]; exact rk_le _ _
  · simp
theorem cmF_texts {ns : List Nd} {rs : List Int} (h : TextsN ns) : TextsN (cmF ns rs) := by
  unfold cmF
  split
  · intro i hi
    obtain ⟨j, h1, _, _, e⟩ := cmpL_of hi
    rw [e]
    exact h j h1
  · intro i hi; simp at hi
theorem cmR_len (ns : List Nd) (rs : List Int) : (cmR ns rs).length ≤ rs.length := by
  unfold cmR
  split
  · rw [List.length_map]; exact Nat.le_refl _
  · simp
def RetCm (ns : List Nd) (rs : List Int) (w : World) (e : Ending) (w' : World) : Prop := ∃ a n c a2 n2 c2 mid, e = .returned (.tuple #[.agg #[.slice a n c], .slice a2 n2 c2, .int .i64 (rtC ns rs)]) ∧ w.heap.size ≤ mid ∧ mid ≤ w'.heap.size ∧ OwnL 3 w' w.heap.size mid (.slice a2 n2 c2) (vI (cmR ns rs)) ∧ ForD w' mid w'.heap.size (.slice a n c) (cmF ns rs) ∧ Below w.heap.size w w'
set_option maxRecDepth 100000 in
set_option maxHeartbeats 8000000 in
theorem implCompact_any (a ra : Option Addr) (cap rc : Nat) (ns : List Nd) (rs : List Int) (w : World) (h : RowN w a ns) (hr : RowI w ra rs) (hlen : ns.length ≤ 1048576) (hsm : ∀ i, i < ns.length → SmallN (nthN ns i)) (hrl : rs.length ≤ 1048576) :
    Calls Try.prog 31 #[FV (.slice a ns.length cap), .slice ra rs.length rc] w (RetCm ns rs w) := by
  obtain ⟨W0, hW0⟩ : ∃ W0, (w.alloc (.cells #[.slice a ns.length cap] 25)).alloc (.cells #[.slice none 0 0] 25) = W0 := ⟨_, rfl⟩
  have B0 : Below w.heap.size w W0 := hW0 ▸ ((Below.refl _ _).alloc (Nat.le_refl _) _).alloc (by simp) _
  have sz0 : W0.heap.size = w.heap.size + 2 := by rw [← hW0]; simp
  have X0 : Hid (W0.heap[w.heap.size]? = some (.cells #[.slice a ns.length cap] 25 (0, 0)) ∧ W0.heap[w.heap.size + 1]? = some (.cells #[.slice none 0 0] 25 (0, 0))) := ⟨hW0 ▸ (heap_old _ _ _ (by simp)).trans (heap_new' _ _ _ rfl), hW0 ▸ heap_new' _ _ _ (by simp)⟩
  have y0' : W0.cell? ⟨w.heap.size, 0, none⟩ = some (.slice a ns.length cap) := slab_cell X0.out.1
  have hc := rootsCode_any a ra cap rc ns rs W0 (h.below B0) (hr.below B0) hlen hsm hrl
  have HR : Hid (RowN w a ns ∧ RowI w ra rs ∧ ns.length ≤ 1048576 ∧ (∀ i, i < ns.length → SmallN (nthN ns i)) ∧ rs.length ≤ 1048576) := ⟨h, hr, hlen, hsm, hrl⟩
  have HE : Hid (cmF ns rs = (if rtC ns rs = 0 then cmpL ns (fR ns rs) ns.length else []) ∧ cmR ns rs = (if rtC ns rs = 0 then rs.map (mv (fR ns rs)) else [])) := ⟨rfl, rfl⟩
  have HZ : Hid (rtC ns rs = 0 → ForOK ns ∧ RgP ns rs ∧ rs.length ≤ 4096) := rtC_zero
  clear h hr hlen hsm hrl
  unfold RetCm
  generalize rtC ns rs = code at *
  generalize cmF ns rs = cf at *
  generalize cmR ns rs = cr at *
  go_enter Try.func31, Try.ntmps31
  go_wp2_with fail
  refine hc.mono ?_
  rintro e w1 ⟨rfl, b1⟩
  have B1 := B0.trans (b1.mono B0.size)
  have X1 : Hid (w1.heap[w.heap.size]? = some (.cells #[.slice a ns.length cap] 25 (0, 0)) ∧ w1.heap[w.heap.size + 1]? = some (.cells #[.slice none 0 0] 25 (0, 0)) ∧ w.heap.size + 2 ≤ w1.heap.size) := ⟨(b1.block _ (by omega)).trans X0.out.1, (b1.block _ (by omega)).trans X0.out.2, by have := b1.size; omega⟩
  clear hc b1 B0 X0 y0' hW0 sz0
  by_cases hz : code = 0
  · subst hz
    obtain ⟨z1, z2, _⟩ := HZ.out rfl
    have y0 : w1.cell? ⟨w.heap.size, 0, none⟩ = some (.slice a ns.length cap) := slab_cell X1.out.1
    have hcm := compactNodes_any a ra cap rc ns rs w1 (HR.out.1.below B1) (HR.out.2.1.below B1) z1.kids z2 HR.out.2.2.1 HR.out.2.2.2.1 HR.out.2.2.2.2
    have HE2 : Hid (cf = cmpL ns (fR ns rs) ns.length ∧ cr = rs.map (mv (fR ns rs)) ∧ (cmpL ns (fR ns rs) ns.length).length ≤ 1048576 ∧ ∀ i, i < (cmpL ns (fR ns rs) ns.length).length → SmallN (nthN (cmpL ns (fR ns rs) ns.length) i)) := ⟨by rw [HE.out.1, if_pos rfl], by rw [HE.out.2, if_pos rfl], by rw [cmpL_len]; exact Nat.le_trans (rk_le _ _) HR.out.2.2.1, cmpL_small (Nat.le_refl _) HR.out.2.2.2.1⟩
    clear z1 z2 HZ HE
    go_wp2_with fail
    refine hcm.mono ?_
    rintro e w2 ⟨g, hh, m, rfl, rfl, r2, o2, b2⟩
    have B2 := below_step B1 (Nat.le_refl _) b2
    have hcp := copyNodes_any (some ⟨g, 0, none⟩) (cmpL ns (fR ns rs) ns.length).length (cmpL ns (fR ns rs) ns.length) w2 r2 HE2.out.2.2.1 HE2.out.2.2.2
    have HO2 : Hid (OwnL 3 w2 w1.heap.size w2.heap.size (.slice (some ⟨hh, 0, none⟩) rs.length rs.length) (vI (rs.map (mv (fR ns rs)))) ∧ w1.heap.size ≤ w2.heap.size) := ⟨o2, b2.size⟩
    have X2 : Hid (w2.heap[w.heap.size + 1]? = some (.cells #[.slice none 0 0] 25 (0, 0))) := (b2.block _ (by have := X1.out.2.2; omega)).trans X1.out.2.1
    clear hcm r2 o2 b2 y0
    go_wp2_with fail
    refine hcp.mono ?_
    rintro e w3 ⟨v, rfl, f3, b3⟩
    obtain ⟨va, vn, vc, rfl⟩ : ∃ a n c, v = .slice a n c := by
      rcases f3 with ⟨rfl, _⟩ | ⟨_, _, _, _, rfl, _⟩
      · exact ⟨_, _, _, rfl⟩
      · exact ⟨_, _, _, rfl⟩
    have B3 := below_step B2 (Nat.le_refl _) b3
    have hw := B1.size
    have x3 : w3.heap[w.heap.size + 1]? = some (.cells #[.slice none 0 0] 25 (0, 0)) := (b3.block _ (by have := X1.out.2.2; have := HO2.out.2; omega)).trans X2.out
    have c3 : w3.cell? ⟨w.heap.size + 1, 0, none⟩ = some (.slice none 0 0) := slab_cell x3
    have f3' : ∀ o, w3.frozen? ⟨w.heap.size + 1, o, none⟩ = false := fun o => slab_free x3
    have HF : Hid (OwnL 3 (w3.setCell ⟨w.heap.size + 1, 0, none⟩ (.slice va vn vc)) w.heap.size w2.heap.size (.slice (some ⟨hh, 0, none⟩) rs.length rs.length) (vI cr) ∧ ForD (w3.setCell ⟨w.heap.size + 1, 0, none⟩ (.slice va vn vc)) w2.heap.size (w3.setCell ⟨w.heap.size + 1, 0, none⟩ (.slice va vn vc)).heap.size (.slice va vn vc) cf ∧ w.heap.size ≤ w2.heap.size ∧ w2.heap.size ≤ (w3.setCell ⟨w.heap.size + 1, 0, none⟩ (.slice va vn vc)).heap.size ∧ Below w.heap.size w (w3.setCell ⟨w.heap.size + 1, 0, none⟩ (.slice va vn vc))) := by
      have sz : (w3.setCell ⟨w.heap.size + 1, 0, none⟩ (.slice va vn vc)).heap.size = w3.heap.size := by simp [World.setCell]
      have h1 := X1.out.2.2
      have h2 := HO2.out.2
      have h3 := b3.size
      refine ⟨?_, ?_, by omega, by omega, B3.setCell (p := ⟨w.heap.size + 1, 0, none⟩) (by simp) _⟩
      · rw [HE2.out.2.1]
        refine OwnL.mono (lo := w1.heap.size) (hi := w2.heap.size) ?_ (by omega) (Nat.le_refl _)
        exact (HO2.out.1.same fun b _ q r => b3.block b r).same fun b p _ _ => set_other _ (by show w.heap.size + 1 ≠ b; omega)
      · rw [HE2.out.1, sz]
        exact f3.same fun b p _ _ => set_other _ (by show w.heap.size + 1 ≠ b; omega)
    clear hcp f3 b3 B1 B2 B3 x3 HO2 X2
    go_wp2
    refine bodyPost_ret (v := .tuple #[.agg #[.slice va vn vc], .slice (some ⟨hh, 0, none⟩) rs.length rs.length, .int .i64 0]) (by go_simp; simp [results, Try.results31, go_sem, c3]) rfl ⟨_, _, _, _, _, _, w2.heap.size, rfl, HF.out.2.2.1, HF.out.2.2.2.1, HF.out.1, HF.out.2.1, HF.out.2.2.2.2⟩
  · have HE2 : Hid (cf = [] ∧ cr = []) := ⟨by rw [HE.out.1, if_neg hz], by rw [HE.out.2, if_neg hz]⟩
    have c3 : w1.cell? ⟨w.heap.size + 1, 0, none⟩ = some (.slice none 0 0) := slab_cell X1.out.2.1
    have f3' : ∀ o, w1.frozen? ⟨w.heap.size + 1, o, none⟩ = false := fun o => slab_free X1.out.2.1
    have hw := B1.size
    go_wp2
    refine bodyPost_ret (v := .tuple #[.agg #[.slice none 0 0], .slice none 0 0, .int .i64 code]) (by go_simp; simp [results, Try.results31, go_sem, c3]) rfl ⟨_, _, _, _, _, _, w.heap.size, rfl, Nat.le_refl _, by simp [World.setCell]; omega, .inl ⟨rfl, by rw [HE2.out.2]; rfl⟩, .inl ⟨rfl, by rw [HE2.out.1]; rfl⟩, B1.setCell (p := ⟨w.heap.size + 1, 0, none⟩) (by simp) _⟩
end Go.Proofs.Ythflalpapdaidaa
