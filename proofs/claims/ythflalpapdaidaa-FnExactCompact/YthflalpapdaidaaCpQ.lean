/- spec's l05Own (stage 5). -/
import Derived.Test.YthflalpapdaidaaCpP
namespace Go.Proofs.Ythflalpapdaidaa
open Go.RowKit

def RetO5 (ns : List Nd) (w : World) (e : Ending) (w' : World) : Prop := ∃ a c, e = .returned (.agg #[.slice a ns.length c]) ∧ (∀ wf, w'.heap.size ≤ wf.heap.size → (∀ b, w.heap.size ≤ b → b < w'.heap.size → wf.heap[b]? = w'.heap[b]?) → RowN wf a ns) ∧ Below w.heap.size w w'
set_option maxRecDepth 100000 in
set_option maxHeartbeats 8000000 in
theorem l05Own_any (a : Option Addr) (cap : Nat) (ns : List Nd) (w : World) (hrow : RowZ w a ns) (hlen : ns.length ≤ 1048576) (hsm : ∀ i, i < ns.length → SmallN (nthN ns i)) :
    Calls Try.prog 62 #[FV (.slice a ns.length cap)] w (RetO5 ns w) := by
  obtain ⟨W0, hW0⟩ : ∃ W0, (w.alloc (.cells #[.slice a ns.length cap] 25)).alloc (.cells #[.slice none 0 0] 25) = W0 := ⟨_, rfl⟩
  have B0 : Below w.heap.size w W0 := hW0 ▸ ((Below.refl _ _).alloc (Nat.le_refl _) _).alloc (by simp) _
  have sz0 : W0.heap.size = w.heap.size + 2 := by rw [← hW0]; simp
  have X0 : Hid (W0.heap[w.heap.size]? = some (.cells #[.slice a ns.length cap] 25 (0, 0)) ∧ W0.heap[w.heap.size + 1]? = some (.cells #[.slice none 0 0] 25 (0, 0)) ∧ Below w.heap.size w W0 ∧ W0.heap.size = w.heap.size + 2) := ⟨hW0 ▸ (heap_old _ _ _ (by simp)).trans (heap_new' _ _ _ rfl), hW0 ▸ heap_new' _ _ _ (by simp), B0, sz0⟩
  have HR : Hid (RowZ w a ns ∧ (∀ i, i < ns.length → SmallN (nthN ns i)) ∧ TextsN ns) := ⟨hrow, hsm, hrow.row.texts⟩
  have HC0 : Hid (OwJ W0 (w.heap.size + 3) (.slice (some ⟨w.heap.size + 2, 0, none⟩) 0 0) [] (ns.take 0) ((W0.alloc (.cells #[] 93)).alloc (.cells #[.slice (some ⟨w.heap.size + 2, 0, none⟩) 0 0] 25))) := by
    have := OwJ.new (w1 := W0)
    rw [sz0] at this
    exact this
  clear hrow hsm B0 sz0
  obtain ⟨n, hn⟩ : ∃ n, ns.length = n := ⟨_, rfl⟩
  have HN : Hid (ns.length = n) := hn
  unfold RetO5
  rw [hn] at hlen X0 hW0 ⊢
  clear hn
  subst hW0
  go_enter Try.func62, Try.ntmps62
  go_wp2
  generalize hW0 : (w.alloc (.cells #[.slice a n cap] 25)).alloc (.cells #[.slice none 0 0] 25) = W0 at *
  clear hW0
  rw [show w.heap.size + 1 + 1 + 1 = w.heap.size + 3 from rfl]
  go_loopw [4] (fun i wr => ∃ (q m : Nat) (va : Option Addr) (vc : Nat) (es : List NE), q ≤ n ∧ i = .int .i64 q ∧ m = q ∧ Hid (OwJ W0 (w.heap.size + 3) (.slice va m vc) es (ns.take q) wr)) (fun i _ => n - (intOf i).toNat)
  case atStart => exact ⟨0, 0, _, 0, [], by omega, rfl, rfl, HC0⟩
  case round =>
    clear HC0
    obtain ⟨q, m, va, vc, es, hqn, rfl, rfl, HS⟩ := hrel
    have z0 : wr.cell? ⟨w.heap.size + 3, 0, none⟩ = some (.slice va m vc) := slab_cell HS.out.box
    have hb0 : Below w.heap.size w wr := X0.out.2.2.1.trans (HS.out.bel.mono X0.out.2.2.1.size)
    have z1 : wr.cell? ⟨w.heap.size, 0, none⟩ = some (.slice a n cap) := slab_cell ((HS.out.bel.block _ (by have := X0.out.2.2.2; omega)).trans X0.out.1)
    have hyl : w.heap.size + 3 < wr.heap.size := slab_lt HS.out.box
    by_cases hlt : m < n
    · have hltI : (m : Int) < (n : Int) := by omega
      have hqn' : m < ns.length := by rw [HN.out]; exact hlt
      obtain ⟨b, off, ka, kc, xa, xc, ia, ic, rfl, hlb, hc4, hnr⟩ := nod_at HR.out.1 hqn'
      obtain ⟨c0, c1, c2, c3⟩ := hc4.below hlb hb0
      have HNR : Hid (NodeR w (some ka) (some xa) (some ia) (nthN ns m) ∧ Below w.heap.size w wr ∧ m < ns.length ∧ es.length = m) := ⟨hnr, hb0, hqn', by rw [HS.out.len, List.length_take]; omega⟩
      have HSM : Hid (SmallN (nthN ns m)) := HR.out.2.1 m hqn'
      have HTX : Hid ((∀ j, j < (nthN ns m).2.1.length → (nthS (nthN ns m).2.1 j).size ≤ maxLen) ∧ (∀ j, j < (nthN ns m).2.2.1.length → (nthS (nthN ns m).2.2.1 j).size ≤ maxLen)) := HR.out.2.2 m hqn'
      have HTK : Hid (ns.take (m + 1) = ns.take m ++ [nthN ns m]) := nth_take_succ hqn'
      obtain ⟨x, hx⟩ : ∃ x, nthN ns m = x := ⟨_, rfl⟩
      rw [hx] at HNR HSM HTX HTK c0 c1 c2 c3
      obtain ⟨lf, keys, vals, kids⟩ := x
      simp only at c0 c1 c2 c3
      obtain ⟨W1, hW1⟩ : ∃ W1, wr.alloc (.cells #[.bool lf, .slice (some ka) keys.length kc, .slice (some xa) vals.length xc, .slice (some ia) kids.length ic] 93) = W1 := ⟨_, rfl⟩
      have t1 : W1.heap[wr.heap.size]? = some (.cells #[.bool lf, .slice (some ka) keys.length kc, .slice (some xa) vals.length xc, .slice (some ia) kids.length ic] 93 (0, 0)) := hW1 ▸ heap_new' _ _ _ rfl
      have b1 : Below wr.heap.size wr W1 := hW1 ▸ (Below.refl _ _).alloc (Nat.le_refl _) _
      have sz1 : W1.heap.size = wr.heap.size + 1 := by rw [← hW1]; simp
      obtain ⟨v1, w2, run1, o1, b2⟩ := appS_empty ka keys kc W1 (HNR.out.1.1.below (below_step hb0 (Nat.le_refl _) b1)) HSM.out.1
      obtain ⟨a1, d1, e1, r1⟩ := o1.rowS HTX.out.1
      subst e1
      have t2 := slab_set ((b2.block wr.heap.size (by omega)).trans t1) (o := 1) (.slice a1 keys.length d1)
      obtain ⟨W2, hW2⟩ : ∃ W2, w2.setCell ⟨wr.heap.size, 1, none⟩ (.slice a1 keys.length d1) = W2 := ⟨_, rfl⟩
      rw [hW2] at t2
      have sz2 : W2.heap.size = w2.heap.size := by rw [← hW2]; simp [World.setCell]
      have b3 : Below wr.heap.size wr W2 := hW2 ▸ (below_step b1 (Nat.le_refl _) b2).setCell (p := ⟨wr.heap.size, 1, none⟩) (Nat.le_refl _) _
      obtain ⟨v2, w3, run2, o2, b4⟩ := appS_empty xa vals xc W2 (HNR.out.1.2.1.below (below_step hb0 (Nat.le_refl _) b3)) HSM.out.2.1
      obtain ⟨a2, d2, e2, r2⟩ := o2.rowS HTX.out.2
      subst e2
      have t3 := slab_set ((b4.block wr.heap.size (by have := b2.size; omega)).trans t2) (o := 2) (.slice a2 vals.length d2)
      obtain ⟨W3, hW3⟩ : ∃ W3, w3.setCell ⟨wr.heap.size, 2, none⟩ (.slice a2 vals.length d2) = W3 := ⟨_, rfl⟩
      rw [hW3] at t3
      have sz3 : W3.heap.size = w3.heap.size := by rw [← hW3]; simp [World.setCell]
      have b5 : Below wr.heap.size wr W3 := hW3 ▸ (below_step b3 (Nat.le_refl _) b4).setCell (p := ⟨wr.heap.size, 2, none⟩) (Nat.le_refl _) _
      obtain ⟨v3, w4, run3, o3, b6⟩ := appI_empty ia kids ic W3 (HNR.out.1.2.2.1.below (below_step hb0 (Nat.le_refl _) b5)) HSM.out.2.2
      obtain ⟨a3, d3, e3, r3⟩ := o3.rowI
      subst e3
      have u2 := b2.size
      have u4 := b4.size
      have u6 := b6.size
      have t4' := (b6.block wr.heap.size (by omega)).trans t3
      have t4 := slab_set t4' (o := 3) (.slice a3 kids.length d3)
      obtain ⟨W4, hW4⟩ : ∃ W4, w4.setCell ⟨wr.heap.size, 3, none⟩ (.slice a3 kids.length d3) = W4 := ⟨_, rfl⟩
      rw [hW4] at t4
      have sz4 : W4.heap.size = w4.heap.size := by rw [← hW4]; simp [World.setCell]
      have b7 : Below wr.heap.size wr W4 := hW4 ▸ (below_step b5 (Nat.le_refl _) b6).setCell (p := ⟨wr.heap.size, 3, none⟩) (Nat.le_refl _) _
      have k3 : ∀ b, wr.heap.size + 1 ≤ b → b < w4.heap.size → W4.heap[b]? = w4.heap[b]? := fun b p _ => hW4 ▸ set_other _ (by show wr.heap.size ≠ b; omega)
      have k2 : ∀ b, wr.heap.size + 1 ≤ b → b < w3.heap.size → W4.heap[b]? = w3.heap[b]? := fun b p q => (k3 b p (by omega)).trans ((b6.block b (by omega)).trans (hW3 ▸ set_other _ (by show wr.heap.size ≠ b; omega)))
      have k1 : ∀ b, wr.heap.size + 1 ≤ b → b < w2.heap.size → W4.heap[b]? = w2.heap[b]? := fun b p q => (k2 b p (by omega)).trans ((b4.block b (by omega)).trans (hW2 ▸ set_other _ (by show wr.heap.size ≠ b; omega)))
      have hlo : W0.heap.size ≤ wr.heap.size := HS.out.bel.size
      have hvb : ∀ {g}, (Value.slice va m vc).ownBlock = some g → g < wr.heap.size := fun e => (HS.out.nod.lt e).2
      have hpush := (HS.out.below b7).push (lf, keys, vals, kids) a1 a2 a3 d1 d2 d3 (by rw [HNR.out.2.2.2]; omega) HSM.out
        (rowS_same r1 (by omega) fun ad e => k1 _ (by have := (o1.blk ad e).1; omega) (o1.blk ad e).2) (rowS_same r2 (by omega) fun ad e => k2 _ (by have := (o2.blk ad e).1; omega) (o2.blk ad e).2) (rowI_same r3 (by omega) fun ad e => k3 _ (by have := (o3.blk ad e).1; omega) (o3.blk ad e).2)
        (fun ad e => by have p := o1.blk ad e; exact ⟨by omega, by omega, fun z => by omega, fun z => by have := hvb z; omega⟩) (fun ad e => by have p := o2.blk ad e; exact ⟨by omega, by omega, fun z => by omega, fun z => by have := hvb z; omega⟩) (fun ad e => by have p := o3.blk ad e; exact ⟨by omega, by omega, fun z => by omega, fun z => by have := hvb z; omega⟩)
      obtain ⟨v', es', w5, run4, hbx, hS5⟩ := hpush
      rw [← HTK.out] at hS5
      obtain ⟨va', vc', hv'⟩ := hS5.slice
      have etk : (ns.take (m + 1)).length = m + 1 := by rw [List.length_take]; have := HNR.out.2.2.1; omega
      rw [etk] at hv'
      subst hv'
      have HS5 : Hid (OwJ W0 (w.heap.size + 3) (.slice va' (m + 1) vc') es' (ns.take (m + 1)) (w5.setCell ⟨w.heap.size + 3, 0, none⟩ (.slice va' (m + 1) vc'))) := hS5
      rw [sz1] at run1
      rw [sz2] at run2
      rw [sz3] at run3
      rw [sz4] at run4
      have g2 := (b2.block wr.heap.size (by omega)).trans t1
      have g3 := (b4.block wr.heap.size (by omega)).trans t2
      have A2 : w2.cell? ⟨wr.heap.size, 2, none⟩ = some (.slice (some xa) vals.length xc) := slab_cell g2
      have F2 : ∀ o, w2.frozen? ⟨wr.heap.size, o, none⟩ = false := fun o => slab_free g2
      have A1 : w2.cell? ⟨wr.heap.size, 1, none⟩ = some (.slice (some ka) keys.length kc) := slab_cell g2
      have C3 : w3.cell? ⟨wr.heap.size, 3, none⟩ = some (.slice (some ia) kids.length ic) := slab_cell g3
      have C2 : w3.cell? ⟨wr.heap.size, 2, none⟩ = some (.slice (some xa) vals.length xc) := slab_cell g3
      have F3 : ∀ o, w3.frozen? ⟨wr.heap.size, o, none⟩ = false := fun o => slab_free g3
      have D0 : w4.cell? ⟨wr.heap.size, 0, none⟩ = some (.bool lf) := slab_cell t4'
      have D1 : w4.cell? ⟨wr.heap.size, 1, none⟩ = some (.slice a1 keys.length d1) := slab_cell t4'
      have D2 : w4.cell? ⟨wr.heap.size, 2, none⟩ = some (.slice a2 vals.length d2) := slab_cell t4'
      have D3 : w4.cell? ⟨wr.heap.size, 3, none⟩ = some (.slice (some ia) kids.length ic) := slab_cell t4'
      have F4 : ∀ o, w4.frozen? ⟨wr.heap.size, o, none⟩ = false := fun o => slab_free t4'
      have G4 : w4.heap[w.heap.size + 3]? = some (.cells #[.slice va m vc] 25 (0, 0)) := by
        have q := (b7.block _ hyl).trans HS.out.box
        rw [← hW4] at q
        exact ((set_other _ (by show wr.heap.size ≠ _; omega)).symm).trans q
      have E4 : w4.cell? ⟨w.heap.size + 3, 0, none⟩ = some (.slice va m vc) := slab_cell G4
      have x5 : w5.cell? ⟨w.heap.size + 3, 0, none⟩ = some (.slice va m vc) := slab_cell hbx
      have f5 : ∀ o, w5.frozen? ⟨w.heap.size + 3, o, none⟩ = false := fun o => slab_free hbx
      have n1 : ¬ wr.heap.size = w.heap.size + 3 := by omega
      have n2 : ¬ w.heap.size + 3 = wr.heap.size := by omega
      have l2 : wr.heap.size < w2.heap.size := by omega
      have l3 : wr.heap.size < w3.heap.size := by omega
      have l4 : wr.heap.size < w4.heap.size := by omega
      have l5 : w.heap.size + 3 < w4.heap.size := by omega
      simp only at run4
      subst hW1 hW2 hW3 hW4
      clear t1 t2 t3 t4 t4' g2 g3 G4 k1 k2 k3 b1 b2 b3 b4 b5 b6 b7 o1 o2 o3 r1 r2 r3 hS5 hbx hvb sz1 sz2 sz3 sz4 etk hc4 hnr hlo hx HNR HSM HTX HTK HS u2 u4 u6
      generalize keys.length = kn at *
      generalize vals.length = xn at *
      generalize kids.length = l at *
      go_wp2_with (at_builtin; first | (refine Lib.wpList_append_run _ rfl _ _ _ _ rfl _ _ rfl rfl _ _ run1 ?_; clear run1) | (refine Lib.wpList_append_run _ rfl _ _ _ _ rfl _ _ rfl rfl _ _ run2 ?_; clear run2) | (refine Lib.wpList_append_run _ rfl _ _ _ _ rfl _ _ rfl rfl _ _ run3 ?_; clear run3) | (refine Lib.wpList_append_run _ rfl _ _ _ _ rfl _ _ rfl rfl _ _ run4 ?_; clear run4))
      go_wp2
      go_roundw
      case rel => exact ⟨m + 1, m + 1, _, _, _, by omega, by go_num, rfl, HS5⟩
      case measure => simp [intOf]; omega
    · obtain rfl : m = n := by omega
      have x2 : wr.heap[w.heap.size + 1]? = some (.cells #[.slice none 0 0] 25 (0, 0)) := (HS.out.bel.block _ (by have := X0.out.2.2.2; omega)).trans X0.out.2.1
      have c3 : wr.cell? ⟨w.heap.size + 1, 0, none⟩ = some (.slice none 0 0) := slab_cell x2
      have f3 : ∀ o, wr.frozen? ⟨w.heap.size + 1, o, none⟩ = false := fun o => slab_free x2
      have HE : Hid ((∀ wf, (wr.setCell ⟨w.heap.size + 1, 0, none⟩ (.slice va m vc)).heap.size ≤ wf.heap.size → (∀ b, w.heap.size ≤ b → b < (wr.setCell ⟨w.heap.size + 1, 0, none⟩ (.slice va m vc)).heap.size → wf.heap[b]? = (wr.setCell ⟨w.heap.size + 1, 0, none⟩ (.slice va m vc)).heap[b]?) → RowN wf va ns) ∧ Below w.heap.size w (wr.setCell ⟨w.heap.size + 1, 0, none⟩ (.slice va m vc))) := by
        have ssz : (wr.setCell ⟨w.heap.size + 1, 0, none⟩ (.slice va m vc)).heap.size = wr.heap.size := by simp [World.setCell]
        have h := HS.out
        rw [List.take_of_length_le (by rw [HN.out]; exact Nat.le_refl _)] at h
        exact ⟨fun wf q1 q2 => h.rowN (by rw [← ssz]; exact q1) (fun b p1 p2 => (q2 b (by have := X0.out.2.2.2; omega) (by rw [ssz]; exact p2)).trans (set_other _ (by have := X0.out.2.2.2; show w.heap.size + 1 ≠ b; omega))), hb0.setCell (p := ⟨w.heap.size + 1, 0, none⟩) (by simp) _⟩
      clear HS x2 hb0 hlt
      go_wp2
      exact bodyPost_ret (v := .agg #[.slice va m vc]) (by go_simp; simp [results, Try.results62, go_sem, c3]) rfl ⟨va, vc, rfl, HE.out.1, HE.out.2⟩
end Go.Proofs.Ythflalpapdaidaa
