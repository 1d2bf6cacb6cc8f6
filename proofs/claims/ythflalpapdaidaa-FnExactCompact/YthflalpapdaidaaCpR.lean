/- spec's Compact (stage 5). -/
import Derived.Test.YthflalpapdaidaaCpQ
namespace Go.Proofs.Ythflalpapdaidaa
open Go.RowKit

def RetCs (ns : List Nd) (rs : List Int) (w : World) (e : Ending) (w' : World) : Prop := ∃ a c a2 c2, e = .returned (.tuple #[.agg #[.slice a (cmF ns rs).length c], .slice a2 (cmR ns rs).length c2, .int .i64 (rtC ns rs)]) ∧ RowN w' a (cmF ns rs) ∧ RowI w' a2 (cmR ns rs) ∧ Below w.heap.size w w'
theorem rowN_nil (w : World) : RowN w none [] := fun i hi => by simp at hi
theorem rowI_nil (w : World) (a : Option Addr) : RowI w a [] := fun i hi => by simp at hi
set_option maxRecDepth 100000 in
set_option maxHeartbeats 8000000 in
theorem specCompact_any (a ra : Option Addr) (cap rc : Nat) (ns : List Nd) (rs : List Int) (w : World) (h : RowZ w a ns) (hr : RowI w ra rs) (hlen : ns.length ≤ 1048576) (hsm : ∀ i, i < ns.length → SmallN (nthN ns i)) (hrl : rs.length ≤ 1048576) :
    Calls Try.prog 32 #[FV (.slice a ns.length cap), .slice ra rs.length rc] w (RetCs ns rs w) := by
  obtain ⟨W0, hW0⟩ : ∃ W0, (w.alloc (.cells #[.slice a ns.length cap] 25)).alloc (.cells #[.slice none 0 0] 25) = W0 := ⟨_, rfl⟩
  have B0 : Below w.heap.size w W0 := hW0 ▸ ((Below.refl _ _).alloc (Nat.le_refl _) _).alloc (by simp) _
  have sz0 : W0.heap.size = w.heap.size + 2 := by rw [← hW0]; simp
  have X0 : Hid (W0.heap[w.heap.size]? = some (.cells #[.slice a ns.length cap] 25 (0, 0)) ∧ W0.heap[w.heap.size + 1]? = some (.cells #[.slice none 0 0] 25 (0, 0))) := ⟨hW0 ▸ (heap_old _ _ _ (by simp)).trans (heap_new' _ _ _ rfl), hW0 ▸ heap_new' _ _ _ (by simp)⟩
  have y0' : W0.cell? ⟨w.heap.size, 0, none⟩ = some (.slice a ns.length cap) := slab_cell X0.out.1
  have hc := l05Roots_any a ra cap rc ns rs W0 (h.below B0).row (hr.below B0) hlen hsm hrl
  have HR : Hid (RowZ w a ns ∧ RowI w ra rs ∧ ns.length ≤ 1048576 ∧ (∀ i, i < ns.length → SmallN (nthN ns i)) ∧ rs.length ≤ 1048576) := ⟨h, hr, hlen, hsm, hrl⟩
  have HE : Hid (cmF ns rs = (if rtC ns rs = 0 then cmpL ns (fR ns rs) ns.length else []) ∧ cmR ns rs = (if rtC ns rs = 0 then rs.map (mv (fR ns rs)) else [])) := ⟨rfl, rfl⟩
  have HZ : Hid (rtC ns rs = 0 → ForOK ns ∧ RgP ns rs ∧ rs.length ≤ 4096) := rtC_zero
  have HB : Hid (4096 < rs.length → rtC ns rs = 2) := fun hb => by unfold rtC; rw [if_pos hb]
  clear h hr hlen hsm
  unfold RetCs
  generalize rtC ns rs = code at *
  generalize cmF ns rs = cf at *
  generalize cmR ns rs = cr at *
  by_cases h4 : (4096 : Int) < (rs.length : Int)
  · obtain rfl := HB.out (by omega)
    obtain rfl : cf = [] := by rw [HE.out.1, if_neg (by omega)]
    obtain rfl : cr = [] := by rw [HE.out.2, if_neg (by omega)]
    have x2 : (W0.alloc (.cells #[] 3)).heap[w.heap.size + 1]? = some (.cells #[.slice none 0 0] 25 (0, 0)) := (heap_old _ _ _ (by omega)).trans X0.out.2
    have c3 : (W0.alloc (.cells #[] 3)).cell? ⟨w.heap.size + 1, 0, none⟩ = some (.slice none 0 0) := slab_cell x2
    have f3 : ∀ o, (W0.alloc (.cells #[] 3)).frozen? ⟨w.heap.size + 1, o, none⟩ = false := fun o => slab_free x2
    have HBB : Hid (Below w.heap.size w (W0.alloc (.cells #[] 3))) := B0.alloc B0.size _
    clear hc HE HZ HB x2 B0 c3 f3
    subst hW0
    go_enter Try.func32, Try.ntmps32
    go_wp2
    refine bodyPost_ret (v := .tuple #[.agg #[.slice none 0 0], .slice (some ⟨w.heap.size + 2, 0, none⟩) 0 0, .int .i64 2]) (by go_simp; simp [results, Try.results32, go_sem]) rfl ⟨_, _, _, _, rfl, rowN_nil _, rowI_nil _ _, HBB.out⟩
  go_enter Try.func32, Try.ntmps32
  go_wp2_with fail
  refine hc.mono ?_
  rintro e w1 ⟨rfl, b1⟩
  have B1 := B0.trans (b1.mono B0.size)
  have X1 : Hid (w1.heap[w.heap.size]? = some (.cells #[.slice a ns.length cap] 25 (0, 0)) ∧ w1.heap[w.heap.size + 1]? = some (.cells #[.slice none 0 0] 25 (0, 0)) ∧ w.heap.size + 2 ≤ w1.heap.size) := ⟨(b1.block _ (by omega)).trans X0.out.1, (b1.block _ (by omega)).trans X0.out.2, by have := b1.size; omega⟩
  clear hc b1 B0 X0 y0' hW0 sz0
  by_cases hz : code = 0
  · subst hz
    obtain ⟨z1, z2, _⟩ := HZ.out rfl
    have y0 : w1.cell? ⟨w.heap.size, 0, none⟩ = some (.slice a ns.length cap) := slab_cell X1.out.1
    have hcm := l05Compact_any a ra cap rc ns rs w1 (HR.out.1.below B1) (HR.out.2.1.below B1) z1.kids z2 HR.out.2.2.1 HR.out.2.2.2.1 HR.out.2.2.2.2
    have HE2 : Hid (cf = cmpL ns (fR ns rs) ns.length ∧ cr = rs.map (mv (fR ns rs)) ∧ (cmpL ns (fR ns rs) ns.length).length ≤ 1048576 ∧ (∀ i, i < (cmpL ns (fR ns rs) ns.length).length → SmallN (nthN (cmpL ns (fR ns rs) ns.length) i))) := ⟨by rw [HE.out.1, if_pos rfl], by rw [HE.out.2, if_pos rfl], by rw [cmpL_len]; exact Nat.le_trans (rk_le _ _) HR.out.2.2.1, cmpL_small (Nat.le_refl _) HR.out.2.2.2.1⟩
    clear z1 z2 HZ HE HB
    go_wp2_with fail
    refine hcm.mono ?_
    rintro e w2 ⟨va, vc, pa, pc, rfl, r2, i2, b2⟩
    have B2 := below_step B1 (Nat.le_refl _) b2
    have A2 : Below w2.heap.size w2 (w2.alloc (.cells #[.slice va (cmpL ns (fR ns rs) ns.length).length vc] 25)) := (Below.refl _ _).alloc (Nat.le_refl _) _
    have hcp := l05Own_any va vc (cmpL ns (fR ns rs) ns.length) (w2.alloc (.cells #[.slice va (cmpL ns (fR ns rs) ns.length).length vc] 25)) (r2.below A2) HE2.out.2.2.1 HE2.out.2.2.2
    have HI2 : Hid ((∀ wf, w2.heap.size ≤ wf.heap.size → (∀ b, w1.heap.size ≤ b → b < w2.heap.size → wf.heap[b]? = w2.heap[b]?) → RowI wf pa (rs.map (mv (fR ns rs)))) ∧ Below w.heap.size w (w2.alloc (.cells #[.slice va (cmpL ns (fR ns rs) ns.length).length vc] 25)) ∧ (w2.alloc (.cells #[.slice va (cmpL ns (fR ns rs) ns.length).length vc] 25)).heap[w.heap.size + 1]? = some (.cells #[.slice none 0 0] 25 (0, 0)) ∧ w.heap.size + 1 < w1.heap.size ∧ w1.heap.size ≤ w2.heap.size) := ⟨i2, below_step B2 (Nat.le_refl _) A2, (A2.block _ (by have := b2.size; have := X1.out.2.2; omega)).trans ((b2.block _ (by have := X1.out.2.2; omega)).trans X1.out.2.1), by have := X1.out.2.2; omega, b2.size⟩
    clear hcm r2 b2 y0 A2 B2 i2
    go_wp2_with fail
    refine hcp.mono ?_
    rintro e w3 ⟨a3, c3, rfl, r3, b3⟩
    have HF : Hid (RowN (w3.setCell ⟨w.heap.size + 1, 0, none⟩ (.slice a3 (cmpL ns (fR ns rs) ns.length).length c3)) a3 cf ∧ RowI (w3.setCell ⟨w.heap.size + 1, 0, none⟩ (.slice a3 (cmpL ns (fR ns rs) ns.length).length c3)) pa cr ∧ Below w.heap.size w (w3.setCell ⟨w.heap.size + 1, 0, none⟩ (.slice a3 (cmpL ns (fR ns rs) ns.length).length c3))) := by
      have ssz : (w3.setCell ⟨w.heap.size + 1, 0, none⟩ (.slice a3 (cmpL ns (fR ns rs) ns.length).length c3)).heap.size = w3.heap.size := by simp [World.setCell]
      have asz : (w2.alloc (.cells #[.slice va (cmpL ns (fR ns rs) ns.length).length vc] 25)).heap.size = w2.heap.size + 1 := by simp
      have q3 := b3.size
      have q1 := HI2.out.2.2.2.1
      have q2 := slab_lt HI2.out.2.2.1
      rw [HE2.out.1, HE2.out.2.1]
      refine ⟨r3 _ (by rw [ssz]; exact Nat.le_refl _) (fun b p1 _ => set_other _ (by show w.heap.size + 1 ≠ b; have := HI2.out.2.2.2.2; omega)), HI2.out.1 _ (by rw [ssz]; omega) (fun b p1 p2 => (set_other _ (by show w.heap.size + 1 ≠ b; omega)).trans ((b3.block b (by omega)).trans (heap_old _ _ _ p2))), (below_step HI2.out.2.1 (Nat.le_refl _) b3).setCell (p := ⟨w.heap.size + 1, 0, none⟩) (by simp) _⟩
    have x3 : w3.heap[w.heap.size + 1]? = some (.cells #[.slice none 0 0] 25 (0, 0)) := (b3.block _ (by simp; have := HI2.out.2.2.2.1; have := slab_lt HI2.out.2.2.1; simp at this; omega)).trans HI2.out.2.2.1
    have z3 : w3.cell? ⟨w.heap.size + 1, 0, none⟩ = some (.slice none 0 0) := slab_cell x3
    have f3 : ∀ o, w3.frozen? ⟨w.heap.size + 1, o, none⟩ = false := fun o => slab_free x3
    clear hcp r3 b3 x3
    go_wp2
    refine bodyPost_ret (v := .tuple #[.agg #[.slice a3 (cmpL ns (fR ns rs) ns.length).length c3], .slice pa rs.length pc, .int .i64 0]) (by go_simp; simp [results, Try.results32, go_sem, z3]) rfl ⟨a3, c3, pa, pc, by rw [HE2.out.1, HE2.out.2.1, List.length_map], HF.out.1, HF.out.2.1, HF.out.2.2⟩
  · obtain rfl : cf = [] := by rw [HE.out.1, if_neg hz]
    obtain rfl : cr = [] := by rw [HE.out.2, if_neg hz]
    have x2 : (w1.alloc (.cells #[] 3)).heap[w.heap.size + 1]? = some (.cells #[.slice none 0 0] 25 (0, 0)) := (heap_old _ _ _ (by have := X1.out.2.2; omega)).trans X1.out.2.1
    have c3 : (w1.alloc (.cells #[] 3)).cell? ⟨w.heap.size + 1, 0, none⟩ = some (.slice none 0 0) := slab_cell x2
    have c3' : w1.cell? ⟨w.heap.size + 1, 0, none⟩ = some (.slice none 0 0) := slab_cell X1.out.2.1
    have f3 : ∀ o, (w1.alloc (.cells #[] 3)).frozen? ⟨w.heap.size + 1, o, none⟩ = false := fun o => slab_free x2
    have f3' : ∀ o, w1.frozen? ⟨w.heap.size + 1, o, none⟩ = false := fun o => slab_free X1.out.2.1
    have hw : w.heap.size + 1 < w1.heap.size := by have := X1.out.2.2; omega
    have hnw : ¬ w1.heap.size = w.heap.size + 1 := by omega
    have HBB : Hid (Below w.heap.size w ((w1.setCell ⟨w.heap.size + 1, 0, none⟩ (.slice none 0 0)).alloc (.cells #[] 3))) := (B1.setCell (p := ⟨w.heap.size + 1, 0, none⟩) (by simp) _).alloc (by simp [World.setCell]; omega) _
    have c4 : ((w1.setCell ⟨w.heap.size + 1, 0, none⟩ (.slice none 0 0)).alloc (.cells #[] 3)).cell? ⟨w.heap.size + 1, 0, none⟩ = some (.slice none 0 0) := slab_cell ((heap_old _ _ _ (by simp [World.setCell]; omega)).trans (slab_set X1.out.2.1 _))
    clear HE HZ HB x2
    go_wp2
    refine bodyPost_ret (v := .tuple #[.agg #[.slice none 0 0], .slice (some ⟨w1.heap.size, 0, none⟩) 0 0, .int .i64 code]) (by go_simp; simp [results, Try.results32, go_sem, c4]) rfl ⟨_, _, _, _, rfl, rowN_nil _, rowI_nil _ _, HBB.out⟩
end Go.Proofs.Ythflalpapdaidaa
