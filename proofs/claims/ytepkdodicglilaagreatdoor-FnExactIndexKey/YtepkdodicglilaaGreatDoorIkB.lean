/- spec's l09Entry and IndexKey (stage 9). -/
import Derived.Test.YtepkdodicglilaaGreatDoorIkA
namespace Go.Proofs.YtepkdodicglilaaGreatDoor
open Go.RowKit

set_option maxRecDepth 100000 in
set_option maxHeartbeats 4000000 in
theorem l09Entry_any (nm : ByteArray) (cv : Value) (k0 : Nat) (xv : Value) (inm : ByteArray) (ia : Option Addr) (ic : Nat) (is : List Int) (a : Option Addr) (cap : Nat) (vs : List V3) (w : World) (hI : RowI w ia is) (hV : RowV w a vs) (hil : is.length ≤ 8) (hir : ∀ k, k < is.length → 0 ≤ nthI is k ∧ nthI is k < vs.length) (hk1 : 1 ≤ k0) (hk : k0 ≤ vs.length) (hcap : vs.length ≤ cap) (h8 : vs.length ≤ 8) :
    Calls Tryz.prog 44 #[TbA4 nm cv (k0 : Int) xv, ValX inm (.slice ia is.length ic), .slice a vs.length cap] w fun e w' => ∃ a2 c, e = .returned (.slice a2 (pick is vs ++ vs.take k0).length c) ∧ RowV w' a2 (pick is vs ++ vs.take k0) ∧ Below w.heap.size w w' := by
  obtain ⟨vb, vo, rfl, _⟩ := hV 0 (by omega)
  have HR : Hid (∀ W, Below w.heap.size w W → RowI W ia is ∧ RowV W (some ⟨vb, vo, none⟩) vs) := fun W b => ⟨hI.below b, hV.below b⟩
  have HIR : Hid (∀ k, k < is.length → 0 ≤ nthI is k ∧ nthI is k < vs.length) := hir
  have HTX : Hid (∀ i, i < vs.length → (nthV vs i).2.2.size ≤ maxLen) := hV.size
  clear hI hV hir
  obtain ⟨m, hm⟩ : ∃ m, is.length = m := ⟨_, rfl⟩
  obtain ⟨n, hn⟩ : ∃ n, vs.length = n := ⟨_, rfl⟩
  have HN : Hid (is.length = m ∧ vs.length = n) := ⟨hm, hn⟩
  have HTL : Hid ((vs.take k0).length = k0 ∧ (∀ i, i < (pick is vs ++ vs.take k0).length → (nthV (pick is vs ++ vs.take k0) i).2.2.size ≤ maxLen)) := by
    refine ⟨by rw [List.length_take]; omega, fun i hi => ?_⟩
    have hmem : nthV (pick is vs ++ vs.take k0) i ∈ pick is vs ++ vs.take k0 := nth_mem hi
    generalize nthV (pick is vs ++ vs.take k0) i = x at *
    rcases List.mem_append.1 hmem with h | h
    · unfold pick at h
      obtain ⟨j, hj, e⟩ := List.mem_map.1 h
      rw [← e]
      obtain ⟨q, hq, rfl⟩ := List.mem_iff_getElem.1 hj
      have := HIR.out q hq
      rw [nthI_get hq] at this
      exact HTX.out _ (by omega)
    · obtain ⟨q, hq, e⟩ := List.mem_iff_getElem.1 (List.mem_of_mem_take h)
      have h2 := HTX.out q hq
      have e2 : nthV vs q = vs[q] := by unfold nthV; simp [hq]
      rw [e2, e] at h2
      exact h2
  rw [hm] at hil ⊢
  rw [hn] at hk hcap h8 ⊢
  clear hm hn
  obtain ⟨W0, hW0⟩ : ∃ W0, (w.alloc (.cells #[.string nm, cv, .int .i64 (k0 : Int), xv] 34)).alloc (.cells #[.string inm, .slice ia m ic] 77) = W0 := ⟨_, rfl⟩
  have B0 : Below w.heap.size w W0 := hW0 ▸ ((Below.refl _ _).alloc (Nat.le_refl _) _).alloc (by simp) _
  have XA : Hid (W0.heap[w.heap.size]? = some (.cells #[.string nm, cv, .int .i64 (k0 : Int), xv] 34 (0, 0))) := (hW0 ▸ (heap_old _ _ _ (by simp)).trans (heap_new' _ _ _ rfl) : W0.heap[w.heap.size]? = _)
  have XB : Hid (W0.heap[w.heap.size + 1]? = some (.cells #[.string inm, .slice ia m ic] 77 (0, 0))) := (hW0 ▸ heap_new' _ _ _ (by simp) : W0.heap[w.heap.size + 1]? = _)
  have l0 : w.heap.size + 1 < W0.heap.size := by rw [← hW0]; simp
  have C0 : Hid (∀ {w1 : World}, Below W0.heap.size W0 w1 → w1.cell? ⟨w.heap.size, 2, none⟩ = some (.int .i64 (k0 : Int)) ∧ w1.cell? ⟨w.heap.size + 1, 1, none⟩ = some (.slice ia m ic)) := fun {w1} b => by
    have e : w1.heap[w.heap.size]? = _ := (b.block _ (by omega)).trans XA.out
    have e' : w1.heap[w.heap.size + 1]? = _ := (b.block _ l0).trans XB.out
    exact ⟨slab_cell e, slab_cell e'⟩
  have O0 : Hid (OwnV (W0.alloc (.cells #[] 59)) W0.heap.size (.slice (some ⟨W0.heap.size, 0, none⟩) 0 0) (pick (is.take 0) vs)) := OwnV.made W0 _ (Nat.le_refl _)
  have A0 : Below W0.heap.size W0 (W0.alloc (.cells #[] 59)) := (Below.refl _ _).alloc (Nat.le_refl _) _
  go_enter Tryz.func44, Tryz.ntmps44
  go_wp2
  go_loopw [7, 8] (fun o i wr => ∃ k : Nat, k ≤ m ∧ i = .int .i64 k ∧ Hid (OwnV wr W0.heap.size o (pick (is.take k) vs)) ∧ Below W0.heap.size W0 wr) (fun _ i _ => m - (intOf i).toNat)
  case atStart => exact ⟨0, by omega, rfl, O0, A0⟩
  case round =>
    obtain ⟨k, hk2, rfl, HO, hbl⟩ := hrel
    have BR := B0.trans (hbl.mono B0.size)
    obtain ⟨q0, q1⟩ := C0.out hbl
    by_cases hlt : k < m
    · have hltI : (k : Int) < (m : Int) := by omega
      have hkl : k < is.length := by rw [HN.out.1]; exact hlt
      obtain ⟨ib, io, rfl, hlb, hci⟩ := (HR.out _ BR).1 k hkl
      obtain ⟨p, hp⟩ : ∃ p : Nat, nthI is k = (p : Int) := ⟨(nthI is k).toNat, by have := (HIR.out k hkl).1; omega⟩
      have hpn : p < n := by have := (HIR.out k hkl).2; rw [HN.out.2] at this; omega
      have hpnI : (p : Int) < (n : Int) := by omega
      have HPS : Hid (pick (is.take (k + 1)) vs = pick (is.take k) vs ++ [nthV vs p]) := pick_snoc hkl hp
      obtain ⟨b', o', e', hlb', ⟨d0, d1, d2⟩, hsz⟩ := (HR.out _ BR).2 p (by rw [HN.out.2]; exact hpn)
      cases e'
      rw [hp] at hci
      have hpl : (pick (is.take k) vs).length ≤ 8 := by rw [pick_len, List.length_take]; omega
      have AL : Below wr.heap.size wr (wr.alloc (.cells #[.int .i64 (nthV vs p).1, .int .i64 (nthV vs p).2.1, .string (nthV vs p).2.2] 59)) := (Below.refl _ _).alloc (Nat.le_refl _) _
      obtain ⟨v', w', hr, o, g⟩ := app_V u7 (pick (is.take k) vs) [nthV vs p] _ W0.heap.size wr.heap.size 0 1 (HO.out.below AL) (by simp; omega) (oneV wr (nthV vs p) hsz) (Nat.le_trans hbl.size AL.size)
      have HO' : Hid (OwnV w' W0.heap.size v' (pick (is.take (k + 1)) vs)) := by show OwnV _ _ _ _; rw [HPS.out]; exact o
      have hB : Below W0.heap.size W0 w' := grownV (below_step hbl (Nat.le_refl _) AL) (Nat.le_trans hbl.size AL.size) (HO.out.below AL) g
      have hr' : Sem.run Tryz.prog (Builtin.append_ #[36, 36] 36 #[u7, .slice (some ⟨wr.heap.size, 0, none⟩) 1 1]) (wr.alloc (.cells #[.int .i64 (nthV vs p).1, .int .i64 (nthV vs p).2.1, .string (nthV vs p).2.2] 59)) = .ok v' w' := hr
      clear o g HO hbl AL hr HPS hp hsz BR hpl
      generalize nthV vs p = x at *
      obtain ⟨kx, nx, tx⟩ := x
      simp only at d0 d1 d2 hr'
      go_wp2_with (at_builtin; refine Lib.wpList_append_run _ rfl _ _ _ _ rfl _ _ rfl rfl _ _ hr' ?_)
      go_roundw
      case rel => exact ⟨k + 1, by omega, by go_num, HO', hB⟩
      case measure => simp [intOf]; omega
    · obtain rfl : k = m := by omega
      have HO2 : OwnV wr W0.heap.size u7 (pick is vs) := by have := HO.out; rw [List.take_of_length_le (by rw [HN.out.1]; exact Nat.le_refl _)] at this; exact this
      obtain ⟨v', w', hr, o, g⟩ := app_V u7 (pick is vs) (vs.take k0) wr W0.heap.size vb vo cap HO2 (by rw [pick_len, HTL.out.1, HN.out.1]; omega) ((HR.out _ BR).2.take k0) hbl.size
      rw [HTL.out.1] at hr
      have hB : Below W0.heap.size W0 w' := grownV hbl hbl.size HO2 g
      obtain ⟨a2, c2, rfl, hrow⟩ := o.row HTL.out.2
      have HF : Hid (RowV w' a2 (pick is vs ++ vs.take k0) ∧ Below w.heap.size w w') := ⟨hrow, B0.trans (hB.mono B0.size)⟩
      have hkc : k0 ≤ cap := by omega
      clear o g HO hbl HO2 hB hrow BR
      obtain ⟨ln, hln⟩ : ∃ ln, (pick is vs ++ vs.take k0).length = ln := ⟨_, rfl⟩
      have HLn : Hid ((pick is vs ++ vs.take k0).length = ln) := hln
      rw [hln] at hr
      clear hln
      go_wp2_with (at_builtin; refine Lib.wpList_append_run _ rfl _ _ _ _ rfl _ _ rfl rfl _ _ hr ?_)
      go_ret
      exact ⟨a2, c2, by rw [HLn.out]; rfl, HF.out.1, HF.out.2⟩
end Go.Proofs.YtepkdodicglilaaGreatDoor
