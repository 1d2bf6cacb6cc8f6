/- Nodes and forests: copied (stage 5). -/
import Derived.Test.YthflalpapdaidaaTreB
namespace Go.Proofs.Ythflalpapdaidaa
open Go.RowKit

theorem set_other {w : World} {p : Addr} {g : Nat} (v : Value) (h : p.block ≠ g) : (w.setCell p v).heap[g]? = w.heap[g]? := by
  simp [World.setCell, Array.getElem?_modify, h]
theorem SlabS.set {w : World} {g n k : Nat} {ss : List ByteArray} {p : Addr} (h : SlabS w g n ss k) (hp : p.block ≠ g) (v : Value) : SlabS (w.setCell p v) g n ss k := by
  obtain ⟨cur, hh, r⟩ := h
  exact ⟨cur, (set_other v hp).trans hh, r⟩
theorem SlabI.set {w : World} {g n k : Nat} {ss : List Int} {p : Addr} (h : SlabI w g n ss k) (hp : p.block ≠ g) (v : Value) : SlabI (w.setCell p v) g n ss k := by
  obtain ⟨cur, hh, r⟩ := h
  exact ⟨cur, (set_other v hp).trans hh, r⟩
theorem info93 : (Try.prog.info? 93).map (fun i => (i.zero, i.size, i.bytes)) = some (some (.agg #[.bool false, .slice none 0 0, .slice none 0 0, .slice none 0 0]), 4, 80) := by kernel_rfl

set_option maxRecDepth 100000 in
set_option maxHeartbeats 2000000 in
theorem toNode_any (ka va ia : Option Addr) (kc vc ic : Nat) (l : Bool) (ks vs : List ByteArray) (is : List Int) (w : World) (h : NodeR w ka va ia (l, ks, vs, is)) (hs : SmallN (l, ks, vs, is)) :
    Calls Try.prog 110 #[NV l ka ks.length kc va vs.length vc ia is.length ic] w fun e w' => ∃ g1 g2 g3, e = .returned (NV l (some ⟨g1, 0, none⟩) ks.length ks.length (some ⟨g2, 0, none⟩) vs.length vs.length (some ⟨g3, 0, none⟩) is.length is.length) ∧ w.heap.size ≤ g1 ∧ w.heap.size ≤ g2 ∧ w.heap.size ≤ g3 ∧ SlabS w' g1 ks.length ks ks.length ∧ SlabS w' g2 vs.length vs vs.length ∧ SlabI w' g3 is.length is is.length ∧ Below w.heap.size w w' := by
  obtain ⟨hk, hv, hi, _, _, _⟩ := h
  obtain ⟨lk, lv, li⟩ := hs
  have HK : Hid (RowS w ka ks) := hk
  have HV : Hid (RowS w va vs) := hv
  have HI : Hid (RowI w ia is) := hi
  have LK : Hid (ks.length ≤ 1048576) := lk
  have LV : Hid (vs.length ≤ 1048576) := lv
  have LI : Hid (is.length ≤ 1048576) := li
  clear hk hv hi lk lv li
  obtain ⟨W0, hW0⟩ : ∃ W0, ((((w.alloc (.cells #[.bool l, .slice ka ks.length kc, .slice va vs.length vc, .slice ia is.length ic] 143)).alloc (.cells #[.bool false, .slice none 0 0, .slice none 0 0, .slice none 0 0] 93)).alloc (.cells #[.bool false, .slice none 0 0, .slice none 0 0, .slice none 0 0] 93)).setCell ⟨w.heap.size + 2, 0, none⟩ (.bool l)) = W0 := ⟨_, rfl⟩
  have B0 : Below w.heap.size w W0 := hW0 ▸ ((((Below.refl _ _).alloc (Nat.le_refl _) _).alloc (by simp) _).alloc (by simp; omega) _).setCell (p := ⟨w.heap.size + 2, 0, none⟩) (by simp) _
  have z0 : W0.heap.size = w.heap.size + 3 := by rw [← hW0]; simp [World.setCell]
  have xbW0 : W0.heap[w.heap.size]? = some (.cells #[.bool l, .slice ka ks.length kc, .slice va vs.length vc, .slice ia is.length ic] 143 (0, 0)) := by
    rw [← hW0]
    exact (set_other _ (by show _ ≠ _; simp)).trans ((heap_old _ _ _ (by simp; omega)).trans ((heap_old _ _ _ (by simp)).trans (heap_new' _ _ _ rfl)))
  have xrW0 : W0.heap[w.heap.size + 1]? = some (.cells #[.bool false, .slice none 0 0, .slice none 0 0, .slice none 0 0] 93 (0, 0)) := by
    rw [← hW0]
    exact (set_other _ (by show _ ≠ _; simp)).trans ((heap_old _ _ _ (by simp)).trans (heap_new' _ _ _ (by simp)))
  have xoW0 : W0.heap[w.heap.size + 2]? = some (.cells #[.bool l, .slice none 0 0, .slice none 0 0, .slice none 0 0] 93 (0, 0)) := by
    rw [← hW0]
    exact slab_set (heap_new' _ _ _ (by simp)) _
  have cb0W0 : W0.cell? ⟨w.heap.size, 0, none⟩ = some (.bool l) := by simp [World.cell?, xbW0]
  have cb1W0 : W0.cell? ⟨w.heap.size, 1, none⟩ = some (.slice ka ks.length kc) := by simp [World.cell?, xbW0]
  have cb2W0 : W0.cell? ⟨w.heap.size, 2, none⟩ = some (.slice va vs.length vc) := by simp [World.cell?, xbW0]
  have cb3W0 : W0.cell? ⟨w.heap.size, 3, none⟩ = some (.slice ia is.length ic) := by simp [World.cell?, xbW0]
  have fbW0 : ∀ o, W0.frozen? ⟨w.heap.size, o, none⟩ = false := fun o => by simp [World.frozen?, xbW0]
  have cr0W0 : W0.cell? ⟨w.heap.size + 1, 0, none⟩ = some (.bool false) := by simp [World.cell?, xrW0]
  have cr1W0 : W0.cell? ⟨w.heap.size + 1, 1, none⟩ = some (.slice none 0 0) := by simp [World.cell?, xrW0]
  have cr2W0 : W0.cell? ⟨w.heap.size + 1, 2, none⟩ = some (.slice none 0 0) := by simp [World.cell?, xrW0]
  have cr3W0 : W0.cell? ⟨w.heap.size + 1, 3, none⟩ = some (.slice none 0 0) := by simp [World.cell?, xrW0]
  have frW0 : ∀ o, W0.frozen? ⟨w.heap.size + 1, o, none⟩ = false := fun o => by simp [World.frozen?, xrW0]
  have co0W0 : W0.cell? ⟨w.heap.size + 2, 0, none⟩ = some (.bool l) := by simp [World.cell?, xoW0]
  have co1W0 : W0.cell? ⟨w.heap.size + 2, 1, none⟩ = some (.slice none 0 0) := by simp [World.cell?, xoW0]
  have co2W0 : W0.cell? ⟨w.heap.size + 2, 2, none⟩ = some (.slice none 0 0) := by simp [World.cell?, xoW0]
  have co3W0 : W0.cell? ⟨w.heap.size + 2, 3, none⟩ = some (.slice none 0 0) := by simp [World.cell?, xoW0]
  have foW0 : ∀ o, W0.frozen? ⟨w.heap.size + 2, o, none⟩ = false := fun o => by simp [World.frozen?, xoW0]
  go_enter Try.func110, Try.ntmps110
  go_wp2_with fail
  refine (toS_any ka kc ks W0 (HK.out.below B0) LK.out).mono ?_
  rintro e w1 ⟨g1, rfl, hg1, hS1, hb1⟩
  rw [z0] at hg1
  have n1 : W0.heap.size ≤ w1.heap.size := hb1.size
  clear cb0W0 cb1W0 cb2W0 cb3W0 cr0W0 cr1W0 cr2W0 cr3W0 co0W0 co1W0 co2W0 co3W0 fbW0 frW0 foW0
  obtain ⟨W1, hW1⟩ : ∃ W1, w1.setCell ⟨w.heap.size + 2, 1, none⟩ (.slice (some ⟨g1, 0, none⟩) ks.length ks.length) = W1 := ⟨_, rfl⟩
  have z1 : W1.heap.size = w1.heap.size := by rw [← hW1]; simp [World.setCell]
  have B1 : Below w.heap.size w W1 := hW1 ▸ (B0.trans (hb1.mono B0.size)).setCell (p := ⟨w.heap.size + 2, 1, none⟩) (by simp) _
  have xbW1 : W1.heap[w.heap.size]? = some (.cells #[.bool l, .slice ka ks.length kc, .slice va vs.length vc, .slice ia is.length ic] 143 (0, 0)) := by rw [← hW1]; exact (set_other _ (by show _ ≠ _; simp)).trans ((hb1.block _ (by omega)).trans xbW0)
  have xrW1 : W1.heap[w.heap.size + 1]? = some (.cells #[.bool false, .slice none 0 0, .slice none 0 0, .slice none 0 0] 93 (0, 0)) := by rw [← hW1]; exact (set_other _ (by show _ ≠ _; simp)).trans ((hb1.block _ (by omega)).trans xrW0)
  have xoW1 : W1.heap[w.heap.size + 2]? = some (.cells #[.bool l, .slice (some ⟨g1, 0, none⟩) ks.length ks.length, .slice none 0 0, .slice none 0 0] 93 (0, 0)) := by rw [← hW1]; exact slab_set ((hb1.block _ (by omega)).trans xoW0) _
  have K1 : Hid (SlabS W1 g1 ks.length ks ks.length) := by rw [← hW1]; exact hS1.set (by show _ ≠ _; simp; omega) _
  have xo1 : w1.heap[w.heap.size + 2]? = some (.cells #[.bool l, .slice none 0 0, .slice none 0 0, .slice none 0 0] 93 (0, 0)) := (hb1.block _ (by omega)).trans xoW0
  have xb1 : w1.heap[w.heap.size]? = some (.cells #[.bool l, .slice ka ks.length kc, .slice va vs.length vc, .slice ia is.length ic] 143 (0, 0)) := (hb1.block _ (by omega)).trans xbW0
  have u1 : w1.cell? ⟨w.heap.size + 2, 1, none⟩ = some (.slice none 0 0) := by simp [World.cell?, xo1]
  have v1 : ∀ o, w1.frozen? ⟨w.heap.size + 2, o, none⟩ = false := fun o => by simp [World.frozen?, xo1]
  clear xo1 xb1 hS1 hb1 xbW0 xrW0 xoW0 hW0 B0
  have cb0W1 : W1.cell? ⟨w.heap.size, 0, none⟩ = some (.bool l) := by simp [World.cell?, xbW1]
  have cb1W1 : W1.cell? ⟨w.heap.size, 1, none⟩ = some (.slice ka ks.length kc) := by simp [World.cell?, xbW1]
  have cb2W1 : W1.cell? ⟨w.heap.size, 2, none⟩ = some (.slice va vs.length vc) := by simp [World.cell?, xbW1]
  have cb3W1 : W1.cell? ⟨w.heap.size, 3, none⟩ = some (.slice ia is.length ic) := by simp [World.cell?, xbW1]
  have fbW1 : ∀ o, W1.frozen? ⟨w.heap.size, o, none⟩ = false := fun o => by simp [World.frozen?, xbW1]
  have cr0W1 : W1.cell? ⟨w.heap.size + 1, 0, none⟩ = some (.bool false) := by simp [World.cell?, xrW1]
  have cr1W1 : W1.cell? ⟨w.heap.size + 1, 1, none⟩ = some (.slice none 0 0) := by simp [World.cell?, xrW1]
  have cr2W1 : W1.cell? ⟨w.heap.size + 1, 2, none⟩ = some (.slice none 0 0) := by simp [World.cell?, xrW1]
  have cr3W1 : W1.cell? ⟨w.heap.size + 1, 3, none⟩ = some (.slice none 0 0) := by simp [World.cell?, xrW1]
  have frW1 : ∀ o, W1.frozen? ⟨w.heap.size + 1, o, none⟩ = false := fun o => by simp [World.frozen?, xrW1]
  have co0W1 : W1.cell? ⟨w.heap.size + 2, 0, none⟩ = some (.bool l) := by simp [World.cell?, xoW1]
  have co1W1 : W1.cell? ⟨w.heap.size + 2, 1, none⟩ = some (.slice (some ⟨g1, 0, none⟩) ks.length ks.length) := by simp [World.cell?, xoW1]
  have co2W1 : W1.cell? ⟨w.heap.size + 2, 2, none⟩ = some (.slice none 0 0) := by simp [World.cell?, xoW1]
  have co3W1 : W1.cell? ⟨w.heap.size + 2, 3, none⟩ = some (.slice none 0 0) := by simp [World.cell?, xoW1]
  have foW1 : ∀ o, W1.frozen? ⟨w.heap.size + 2, o, none⟩ = false := fun o => by simp [World.frozen?, xoW1]
  go_wp2_with fail
  refine (toS_any va vc vs W1 (HV.out.below B1) LV.out).mono ?_
  rintro e w2 ⟨g2, rfl, hg2, hS2, hb2⟩
  have n2 : W1.heap.size ≤ w2.heap.size := hb2.size
  clear cb0W1 cb1W1 cb2W1 cb3W1 cr0W1 cr1W1 cr2W1 cr3W1 co0W1 co1W1 co2W1 co3W1 fbW1 frW1 foW1
  clear u1 v1
  obtain ⟨W2, hW2⟩ : ∃ W2, w2.setCell ⟨w.heap.size + 2, 2, none⟩ (.slice (some ⟨g2, 0, none⟩) vs.length vs.length) = W2 := ⟨_, rfl⟩
  have z2 : W2.heap.size = w2.heap.size := by rw [← hW2]; simp [World.setCell]
  have B2 : Below w.heap.size w W2 := hW2 ▸ (B1.trans (hb2.mono B1.size)).setCell (p := ⟨w.heap.size + 2, 2, none⟩) (by simp) _
  have xbW2 : W2.heap[w.heap.size]? = some (.cells #[.bool l, .slice ka ks.length kc, .slice va vs.length vc, .slice ia is.length ic] 143 (0, 0)) := by rw [← hW2]; exact (set_other _ (by show _ ≠ _; simp)).trans ((hb2.block _ (by omega)).trans xbW1)
  have xrW2 : W2.heap[w.heap.size + 1]? = some (.cells #[.bool false, .slice none 0 0, .slice none 0 0, .slice none 0 0] 93 (0, 0)) := by rw [← hW2]; exact (set_other _ (by show _ ≠ _; simp)).trans ((hb2.block _ (by omega)).trans xrW1)
  have xoW2 : W2.heap[w.heap.size + 2]? = some (.cells #[.bool l, .slice (some ⟨g1, 0, none⟩) ks.length ks.length, .slice (some ⟨g2, 0, none⟩) vs.length vs.length, .slice none 0 0] 93 (0, 0)) := by rw [← hW2]; exact slab_set ((hb2.block _ (by omega)).trans xoW1) _
  have K1' : Hid (SlabS W2 g1 ks.length ks ks.length) := by rw [← hW2]; exact (K1.out.below hb2 K1.out.lt).set (by show _ ≠ _; simp; omega) _
  have K2 : Hid (SlabS W2 g2 vs.length vs vs.length) := by rw [← hW2]; exact hS2.set (by show _ ≠ _; simp; omega) _
  have xo2 : w2.heap[w.heap.size + 2]? = some (.cells #[.bool l, .slice (some ⟨g1, 0, none⟩) ks.length ks.length, .slice none 0 0, .slice none 0 0] 93 (0, 0)) := (hb2.block _ (by omega)).trans xoW1
  have u2 : w2.cell? ⟨w.heap.size + 2, 2, none⟩ = some (.slice none 0 0) := by simp [World.cell?, xo2]
  have v2 : ∀ o, w2.frozen? ⟨w.heap.size + 2, o, none⟩ = false := fun o => by simp [World.frozen?, xo2]
  clear xo2 hS2 hb2 xbW1 xrW1 xoW1 hW1 B1 K1
  have cb0W2 : W2.cell? ⟨w.heap.size, 0, none⟩ = some (.bool l) := by simp [World.cell?, xbW2]
  have cb1W2 : W2.cell? ⟨w.heap.size, 1, none⟩ = some (.slice ka ks.length kc) := by simp [World.cell?, xbW2]
  have cb2W2 : W2.cell? ⟨w.heap.size, 2, none⟩ = some (.slice va vs.length vc) := by simp [World.cell?, xbW2]
  have cb3W2 : W2.cell? ⟨w.heap.size, 3, none⟩ = some (.slice ia is.length ic) := by simp [World.cell?, xbW2]
  have fbW2 : ∀ o, W2.frozen? ⟨w.heap.size, o, none⟩ = false := fun o => by simp [World.frozen?, xbW2]
  have cr0W2 : W2.cell? ⟨w.heap.size + 1, 0, none⟩ = some (.bool false) := by simp [World.cell?, xrW2]
  have cr1W2 : W2.cell? ⟨w.heap.size + 1, 1, none⟩ = some (.slice none 0 0) := by simp [World.cell?, xrW2]
  have cr2W2 : W2.cell? ⟨w.heap.size + 1, 2, none⟩ = some (.slice none 0 0) := by simp [World.cell?, xrW2]
  have cr3W2 : W2.cell? ⟨w.heap.size + 1, 3, none⟩ = some (.slice none 0 0) := by simp [World.cell?, xrW2]
  have frW2 : ∀ o, W2.frozen? ⟨w.heap.size + 1, o, none⟩ = false := fun o => by simp [World.frozen?, xrW2]
  have co0W2 : W2.cell? ⟨w.heap.size + 2, 0, none⟩ = some (.bool l) := by simp [World.cell?, xoW2]
  have co1W2 : W2.cell? ⟨w.heap.size + 2, 1, none⟩ = some (.slice (some ⟨g1, 0, none⟩) ks.length ks.length) := by simp [World.cell?, xoW2]
  have co2W2 : W2.cell? ⟨w.heap.size + 2, 2, none⟩ = some (.slice (some ⟨g2, 0, none⟩) vs.length vs.length) := by simp [World.cell?, xoW2]
  have co3W2 : W2.cell? ⟨w.heap.size + 2, 3, none⟩ = some (.slice none 0 0) := by simp [World.cell?, xoW2]
  have foW2 : ∀ o, W2.frozen? ⟨w.heap.size + 2, o, none⟩ = false := fun o => by simp [World.frozen?, xoW2]
  go_wp2_with fail
  refine (toI_any ia ic is W2 (HI.out.below B2) LI.out).mono ?_
  rintro e w3 ⟨g3, rfl, hg3, hS3, hb3⟩
  have n3 : W2.heap.size ≤ w3.heap.size := hb3.size
  clear cb0W2 cb1W2 cb2W2 cb3W2 cr0W2 cr1W2 cr2W2 cr3W2 co0W2 co1W2 co2W2 co3W2 fbW2 frW2 foW2
  clear u2 v2
  obtain ⟨W3, hW3⟩ : ∃ W3, w3.setCell ⟨w.heap.size + 2, 3, none⟩ (.slice (some ⟨g3, 0, none⟩) is.length is.length) = W3 := ⟨_, rfl⟩
  have z3 : W3.heap.size = w3.heap.size := by rw [← hW3]; simp [World.setCell]
  have B3 : Below w.heap.size w W3 := hW3 ▸ (B2.trans (hb3.mono B2.size)).setCell (p := ⟨w.heap.size + 2, 3, none⟩) (by simp) _
  have xbW3 : W3.heap[w.heap.size]? = some (.cells #[.bool l, .slice ka ks.length kc, .slice va vs.length vc, .slice ia is.length ic] 143 (0, 0)) := by rw [← hW3]; exact (set_other _ (by show _ ≠ _; simp)).trans ((hb3.block _ (by omega)).trans xbW2)
  have xrW3 : W3.heap[w.heap.size + 1]? = some (.cells #[.bool false, .slice none 0 0, .slice none 0 0, .slice none 0 0] 93 (0, 0)) := by rw [← hW3]; exact (set_other _ (by show _ ≠ _; simp)).trans ((hb3.block _ (by omega)).trans xrW2)
  have xoW3 : W3.heap[w.heap.size + 2]? = some (.cells #[.bool l, .slice (some ⟨g1, 0, none⟩) ks.length ks.length, .slice (some ⟨g2, 0, none⟩) vs.length vs.length, .slice (some ⟨g3, 0, none⟩) is.length is.length] 93 (0, 0)) := by rw [← hW3]; exact slab_set ((hb3.block _ (by omega)).trans xoW2) _
  have K1 : Hid (SlabS W3 g1 ks.length ks ks.length) := by rw [← hW3]; exact (K1'.out.below hb3 K1'.out.lt).set (by show _ ≠ _; simp; omega) _
  have K2' : Hid (SlabS W3 g2 vs.length vs vs.length) := by rw [← hW3]; exact (K2.out.below hb3 K2.out.lt).set (by show _ ≠ _; simp; omega) _
  have K3 : Hid (SlabI W3 g3 is.length is is.length) := by rw [← hW3]; exact hS3.set (by show _ ≠ _; simp; omega) _
  have xo3 : w3.heap[w.heap.size + 2]? = some (.cells #[.bool l, .slice (some ⟨g1, 0, none⟩) ks.length ks.length, .slice (some ⟨g2, 0, none⟩) vs.length vs.length, .slice none 0 0] 93 (0, 0)) := (hb3.block _ (by omega)).trans xoW2
  have u3 : w3.cell? ⟨w.heap.size + 2, 3, none⟩ = some (.slice none 0 0) := by simp [World.cell?, xo3]
  have v3 : ∀ o, w3.frozen? ⟨w.heap.size + 2, o, none⟩ = false := fun o => by simp [World.frozen?, xo3]
  clear xo3 hS3 hb3 xbW2 xrW2 xoW2 hW2 B2 K1' K2
  have cb0W3 : W3.cell? ⟨w.heap.size, 0, none⟩ = some (.bool l) := by simp [World.cell?, xbW3]
  have cb1W3 : W3.cell? ⟨w.heap.size, 1, none⟩ = some (.slice ka ks.length kc) := by simp [World.cell?, xbW3]
  have cb2W3 : W3.cell? ⟨w.heap.size, 2, none⟩ = some (.slice va vs.length vc) := by simp [World.cell?, xbW3]
  have cb3W3 : W3.cell? ⟨w.heap.size, 3, none⟩ = some (.slice ia is.length ic) := by simp [World.cell?, xbW3]
  have fbW3 : ∀ o, W3.frozen? ⟨w.heap.size, o, none⟩ = false := fun o => by simp [World.frozen?, xbW3]
  have cr0W3 : W3.cell? ⟨w.heap.size + 1, 0, none⟩ = some (.bool false) := by simp [World.cell?, xrW3]
  have cr1W3 : W3.cell? ⟨w.heap.size + 1, 1, none⟩ = some (.slice none 0 0) := by simp [World.cell?, xrW3]
  have cr2W3 : W3.cell? ⟨w.heap.size + 1, 2, none⟩ = some (.slice none 0 0) := by simp [World.cell?, xrW3]
  have cr3W3 : W3.cell? ⟨w.heap.size + 1, 3, none⟩ = some (.slice none 0 0) := by simp [World.cell?, xrW3]
  have frW3 : ∀ o, W3.frozen? ⟨w.heap.size + 1, o, none⟩ = false := fun o => by simp [World.frozen?, xrW3]
  have co0W3 : W3.cell? ⟨w.heap.size + 2, 0, none⟩ = some (.bool l) := by simp [World.cell?, xoW3]
  have co1W3 : W3.cell? ⟨w.heap.size + 2, 1, none⟩ = some (.slice (some ⟨g1, 0, none⟩) ks.length ks.length) := by simp [World.cell?, xoW3]
  have co2W3 : W3.cell? ⟨w.heap.size + 2, 2, none⟩ = some (.slice (some ⟨g2, 0, none⟩) vs.length vs.length) := by simp [World.cell?, xoW3]
  have co3W3 : W3.cell? ⟨w.heap.size + 2, 3, none⟩ = some (.slice (some ⟨g3, 0, none⟩) is.length is.length) := by simp [World.cell?, xoW3]
  have foW3 : ∀ o, W3.frozen? ⟨w.heap.size + 2, o, none⟩ = false := fun o => by simp [World.frozen?, xoW3]
  go_wp2
  have q1 : w.heap.size + 3 ≤ g1 := hg1
  have q2 : w.heap.size + 3 ≤ g2 := by omega
  have q3 : w.heap.size + 3 ≤ g3 := by omega
  refine bodyPost_ret (v := NV l (some ⟨g1, 0, none⟩) ks.length ks.length (some ⟨g2, 0, none⟩) vs.length vs.length (some ⟨g3, 0, none⟩) is.length is.length) (by go_simp; simp [results, Try.results110, go_sem, cr0W3, cr1W3, cr2W3, cr3W3]) rfl ⟨g1, g2, g3, rfl, by omega, by omega, by omega, ?_, ?_, ?_, ?_⟩
  · exact ((((K1.out.set (by show _ ≠ _; simp; omega) _).set (by show _ ≠ _; simp; omega) _).set (by show _ ≠ _; simp; omega) _).set (by show _ ≠ _; simp; omega) _)
  · exact ((((K2'.out.set (by show _ ≠ _; simp; omega) _).set (by show _ ≠ _; simp; omega) _).set (by show _ ≠ _; simp; omega) _).set (by show _ ≠ _; simp; omega) _)
  · exact ((((K3.out.set (by show _ ≠ _; simp; omega) _).set (by show _ ≠ _; simp; omega) _).set (by show _ ≠ _; simp; omega) _).set (by show _ ≠ _; simp; omega) _)
  · exact (((B3.setCell (p := ⟨w.heap.size + 1, 0, none⟩) (by simp) _).setCell (p := ⟨w.heap.size + 1, 1, none⟩) (by simp) _).setCell (p := ⟨w.heap.size + 1, 2, none⟩) (by simp) _).setCell (p := ⟨w.heap.size + 1, 3, none⟩) (by simp) _
end Go.Proofs.Ythflalpapdaidaa
