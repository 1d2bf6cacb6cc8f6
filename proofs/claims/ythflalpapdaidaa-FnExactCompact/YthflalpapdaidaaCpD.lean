/- Marked nodes are held; forests (stage 5). -/
import Derived.Test.YthflalpapdaidaaCpC
import Derived.Deep.RegionHeld3
namespace Go.Proofs.Ythflalpapdaidaa
open Go.RowKit

/-- A text stands there. -/
abbrev StT (W : World) (g o : Nat) (tx : ByteArray) (w' : World) : Prop := w'.cell? ⟨g, o, none⟩ = some (.string tx) ∧ g < w'.heap.size ∧ Below W.heap.size W w'
theorem StT.keep {W : World} {g o : Nat} {tx : ByteArray} {w1 w2 : World} (h : StT W g o tx w1) (hb : Below w1.heap.size w1 w2) : StT W g o tx w2 := ⟨(hb.cell (p := ⟨g, o, none⟩) h.2.1).trans h.1, Nat.lt_of_lt_of_le h.2.1 hb.size, below_step h.2.2 (Nat.le_refl _) hb⟩
set_option maxRecDepth 100000 in
theorem heldS_nil (a : Option Addr) (c : Nat) (k : Int) (w : World) : Calls Try.prog 114 #[.slice a 0 c, .int .i64 k] w fun e w' => e = .returned (.int .i64 k) ∧ w' = w := by
  go_enter Try.func114, Try.ntmps114
  go_wp2
  go_loop [1, 5] (fun m i => m = .int .i64 k ∧ i = .int .i64 0) (fun _ _ => 0)
  case atStart => exact ⟨rfl, rfl⟩
  case round =>
    obtain ⟨rfl, rfl⟩ := hrel
    go_wp2
    go_ret
    exact ⟨rfl, rfl⟩
set_option maxRecDepth 100000 in
set_option maxHeartbeats 4000000 in
theorem heldS_own {w : World} {lo hi : Nat} {v : Value} {m : Nat} {k : Int} (H : OwnL 9 w lo hi v (vS (msS k m))) (hl : m ≤ 1048576) (k0 : 0 ≤ k) (k1 : k ≤ 576460752303423488) :
    Calls Try.prog 114 #[v, .int .i64 k] w fun r w' => r = .returned (.int .i64 (k + m)) ∧ Below w.heap.size w w' := by
  rcases H with ⟨rfl, h⟩ | ⟨g, c, cur, rfl, p1, p2, p3, p4, p5, p6⟩
  · rw [List.length_map, msS_len] at h
    subst h
    refine (heldS_nil none 0 k w).mono ?_
    rintro r w' ⟨rfl, rfl⟩
    exact ⟨by simp, Below.refl _ _⟩
  rw [List.length_map, msS_len] at p6 ⊢
  have HH : Hid (∀ j, j < m → w.cell? ⟨g, j, none⟩ = some (.string (mtx (k + j))) ∧ g < w.heap.size) := fun j hj => by
    refine ⟨?_, slab_lt p4⟩
    rw [slab_cell p4, p6 j hj, List.getElem?_map]
    simp [msS, hj]
  clear p1 p2 p3 p4 p5 p6
  go_enter Try.func114, Try.ntmps114
  go_wp2
  go_loopw [1, 5] (fun q i wr => ∃ j : Nat, j ≤ m ∧ i = .int .i64 j ∧ q = .int .i64 (k + j) ∧ Below w.heap.size w wr) (fun _ i _ => m - (intOf i).toNat)
  case atStart => exact ⟨0, by omega, rfl, by simp, Below.refl _ _⟩
  case round =>
    obtain ⟨j, hj, rfl, rfl, hbl⟩ := hrel
    by_cases hlt : j < m
    · have hltI : (j : Int) < (m : Int) := by omega
      obtain ⟨hc0, hg⟩ := HH.out j hlt
      have hc : wr.cell? ⟨g, j, none⟩ = some (.string (mtx (k + j))) := (hbl.cell (p := ⟨g, j, none⟩) hg).trans hc0
      have hgl : g < wr.heap.size := Nat.lt_of_lt_of_le hg hbl.size
      have hP : StT w g j (mtx (k + j)) wr.drew := ⟨hc, hgl, hbl.drew⟩
      have HM : Hid (∀ w1, Calls Try.prog 85 #[.int .i64 (k + j)] w1 fun e w' => e = .returned (.string (mtx (k + j))) ∧ (mtx (k + j)).size ≤ maxLen ∧ Below w1.heap.size w1 w') := fun w1 => markText_any _ w1 (by omega) (by omega)
      clear hc0
      generalize mtx (k + j) = tx at *
      go_wp2_with fail
      go_region_held3 (StT w g j tx) (first | exact hP | exact StT.keep (by assumption) hb) (first | (go_at_call 85; refine (HM.out _).mono ?_; rintro e wA ⟨rfl, _, hb⟩) | fail)
      rename_i hPL
      have hB := hPL.2.2
      clear hP hPL
      go_wp2
      go_roundw
      case rel => exact ⟨j + 1, by omega, by go_num, by congr 1; push_cast; omega, hB⟩
      case measure => simp [intOf]; omega
    · obtain rfl : j = m := by omega
      go_wp2
      go_ret
      exact ⟨rfl, hbl⟩
theorem heldI_own {w : World} {lo hi : Nat} {v : Value} {m : Nat} {k : Int} (H : OwnL 3 w lo hi v (vI (marksL k m))) (hl : m ≤ 1048576) (k0 : 0 ≤ k) (k1 : k ≤ 1152921504606846976) :
    Calls Try.prog 48 #[v, .int .i64 k] w fun r w' => r = .returned (.int .i64 (k + m)) ∧ w' = w := by
  obtain ⟨a, c, rfl, r⟩ := H.rowI
  rw [marksL_len]
  exact heldI_marks a m c k w r k0 k1 hl
set_option maxRecDepth 100000 in
theorem heldN_nil (a : Option Addr) (c : Nat) (k : Int) (w : World) : Calls Try.prog 83 #[.slice a 0 c, .int .i64 k] w fun e w' => e = .returned (.int .i64 k) ∧ w' = w := by
  go_enter Try.func83, Try.ntmps83
  go_wp2
  go_loop [1, 5] (fun m i => m = .int .i64 k ∧ i = .int .i64 0) (fun _ _ => 0)
  case atStart => exact ⟨rfl, rfl⟩
  case round =>
    obtain ⟨rfl, rfl⟩ := hrel
    go_wp2
    go_ret
    exact ⟨rfl, rfl⟩
set_option maxRecDepth 100000 in
set_option maxHeartbeats 8000000 in
theorem heldN_exact {w : World} {lo hi : Nat} {v : Value} {ns : List Nd} (k : Int) (H : ForD w lo hi v (labF ns k)) (hn : ns.length ≤ 1048576) (hsm : ∀ i, i < ns.length → SmallN (nthN ns i)) (k0 : 0 ≤ k) (k1 : k ≤ 1048576) :
    Calls Try.prog 83 #[v, .int .i64 k] w fun e w' => e = .returned (.int .i64 (k + szTo ns ns.length)) ∧ Below w.heap.size w w' := by
  rcases H with ⟨rfl, h0⟩ | ⟨g, c, cur, ms, rfl, p1, p2, p3, h1, h2, h3, h4, h5, h6⟩
  · rw [labF_len] at h0
    obtain rfl : ns = [] := List.length_eq_zero_iff.1 h0
    refine (heldN_nil none 0 k w).mono ?_
    rintro e w' ⟨rfl, rfl⟩
    exact ⟨by simp [szTo], Below.refl _ _⟩
  have HG : Hid (w.heap[g]? = some (.cells cur 93 (0, 0))) := h1
  have HQ : Hid (∀ i, i < ns.length → ∃ q r s m1 m2, cur[i * 4]? = some (.bool ((k + szTo ns i) % 3 == 0)) ∧ cur[i * 4 + 1]? = some q ∧ cur[i * 4 + 2]? = some r ∧ cur[i * 4 + 3]? = some s ∧ OwnL 9 w (ms i) m1 q (vS (msS (k + szTo ns i + 1) (nthN ns i).2.1.length)) ∧ OwnL 9 w m1 m2 r (vS (msS (k + szTo ns i + 1 + (nthN ns i).2.1.length) (nthN ns i).2.2.1.length)) ∧ OwnL 3 w m2 (ms (i + 1)) s (vI (marksL (k + szTo ns i + 1 + (nthN ns i).2.1.length + (nthN ns i).2.2.1.length) (nthN ns i).2.2.2.length))) := fun i hi => by
    obtain ⟨p, q, r, s, ⟨e0, e1, e2, e3⟩, hp, m1, m2, _, _, _, o1, o2, o3⟩ := h6 i (by rw [labF_len]; exact hi)
    rw [labF_at ns k i hi] at hp o1 o2 o3
    subst hp
    exact ⟨q, r, s, m1, m2, e0, e1, e2, e3, o1, o2, o3⟩
  have HM : Hid (∀ i, i < ns.length → SmallN (nthN ns i)) := hsm
  have HZ : Hid (∀ i, i ≤ ns.length → szTo ns i ≤ 3145729 * i) := szTo_le hsm
  rw [labF_len]
  clear p1 p2 p3 h1 h2 h3 h4 h5 h6 hsm
  obtain ⟨len, hL⟩ : ∃ m, ns.length = m := ⟨_, rfl⟩
  have HL : Hid (ns.length = len) := hL
  rw [hL] at hn ⊢
  clear hL
  go_enter Try.func83, Try.ntmps83
  go_wp2
  go_loopw [1, 5] (fun m i wr => ∃ (j : Nat) (q : Int), j ≤ len ∧ i = .int .i64 j ∧ m = .int .i64 q ∧ Hid (q = k + szTo ns j) ∧ Below w.heap.size w wr) (fun _ i _ => len - (intOf i).toNat)
  case atStart => exact ⟨0, k, by omega, rfl, rfl, by show _ = _; rw [szTo_zero]; simp, Below.refl _ _⟩
  case round =>
    obtain ⟨j, q, hj, rfl, rfl, HE, hbl⟩ := hrel
    by_cases hlt : j < len
    · have hltI : (j : Int) < (len : Int) := by omega
      have hjk : j < ns.length := by rw [HL.out]; exact hlt
      have hz := HZ.out j (by omega)
      have q0 : 0 ≤ q := by have := HE.out; omega
      have q1 : q ≤ 4398046511104000 := by have := HE.out; omega
      obtain ⟨x1, x2, x3, m1, m2, e0, e1, e2, e3, o1, o2, o3⟩ := HQ.out j hjk
      rw [← HE.out] at e0 o1 o2 o3
      obtain ⟨s1, s2, s3⟩ := HM.out j hjk
      have HLE : Hid (nsz (nthN ns j) = 1 + (nthN ns j).2.1.length + (nthN ns j).2.2.1.length + (nthN ns j).2.2.2.length) := rfl
      generalize (nthN ns j).2.1.length = l1 at *
      generalize (nthN ns j).2.2.1.length = l2 at *
      generalize (nthN ns j).2.2.2.length = l3 at *
      have HO : Hid (OwnL 9 w (ms j) m1 x1 (vS (msS (q + 1) l1)) ∧ OwnL 9 w m1 m2 x2 (vS (msS (q + 1 + l1) l2)) ∧ OwnL 3 w m2 (ms (j + 1)) x3 (vI (marksL (q + 1 + l1 + l2) l3))) := ⟨o1, o2, o3⟩
      have HCL : Hid (∀ W, Below w.heap.size w W → W.cell? ⟨g, j * 4, none⟩ = some (.bool (q % 3 == 0)) ∧ W.cell? ⟨g, j * 4 + 1, none⟩ = some x1 ∧ W.cell? ⟨g, j * 4 + 2, none⟩ = some x2 ∧ W.cell? ⟨g, j * 4 + 3, none⟩ = some x3) := fun W hW => by
        have hh := (hW.block g (slab_lt HG.out)).trans HG.out
        exact ⟨(slab_cell hh).trans e0, (slab_cell hh).trans e1, (slab_cell hh).trans e2, (slab_cell hh).trans e3⟩
      obtain ⟨z0, z1, z2, z3⟩ := HCL.out wr hbl
      have hc1 := heldS_own (HO.out.1.same (w' := wr) fun b _ _ r => hbl.block b r) s1 (by omega) (by omega)
      clear e0 e1 e2 e3 o1 o2 o3 hz z2 z3
      go_wp2_with fail
      refine hc1.mono ?_
      rintro e w2 ⟨rfl, b2⟩
      have B2 := below_step hbl (Nat.le_refl _) b2
      obtain ⟨_, _, z2, _⟩ := HCL.out w2 B2
      have hc2 := heldS_own (HO.out.2.1.same (w' := w2) fun b _ _ r => B2.block b r) s2 (by omega) (by omega)
      have hp1 : ¬ q + 1 + (l1 : Int) < 0 := by omega
      clear hc1 b2 hbl z0 z1
      go_wp2_with fail
      refine hc2.mono ?_
      rintro e w3 ⟨rfl, b3⟩
      have B3 := below_step B2 (Nat.le_refl _) b3
      obtain ⟨_, _, _, z3⟩ := HCL.out w3 B3
      have hc3 := heldI_own (HO.out.2.2.same (w' := w3) fun b _ _ r => B3.block b r) s3 (by omega) (by omega)
      have hp2 : ¬ q + 1 + (l1 : Int) + (l2 : Int) < 0 := by omega
      clear hc2 b3 B2 z2
      go_wp2_with fail
      refine hc3.mono ?_
      rintro e w4 ⟨rfl, hw4⟩
      obtain rfl := hw4.symm
      obtain ⟨q', hq'⟩ : ∃ q' : Int, q + 1 + l1 + l2 + l3 = q' := ⟨_, rfl⟩
      have HE' : Hid (q' = k + szTo ns (j + 1)) := by
        show _ = _
        rw [szTo_succ ns j (by rw [HL.out]; exact hlt)]
        have := HE.out
        have := HLE.out
        omega
      have hp3 : ¬ q' < 0 := by omega
      rw [hq']
      clear hc3 z3 HCL HO
      go_wp2
      go_roundw
      case rel => exact ⟨j + 1, q', by omega, by go_num, rfl, HE', B3⟩
      case measure => simp [intOf]; omega
    · obtain rfl : j = len := by omega
      have HV : Hid (q = k + szTo ns j) := HE.out
      go_wp2
      go_ret
      exact ⟨ret_int' HV.out, hbl⟩
set_option maxRecDepth 100000 in
theorem markF_exact {w : World} {lo hi : Nat} {v : Value} {ns : List Nd} (k : Int) (H : ForD w lo hi v ns) (hn : ns.length ≤ 1048576) (hsm : ∀ i, i < ns.length → SmallN (nthN ns i)) (k0 : 0 ≤ k) (k1 : k ≤ 1048576) :
    Calls Try.prog 40 #[FV v, .int .i64 k] w fun e w' => e = .returned (.int .i64 (k + szTo ns ns.length)) ∧ ForD w' lo hi v (labF ns k) ∧ Kept (fun b => lo ≤ b ∧ b < hi) w w' := by
  have b0 : Below w.heap.size w (w.alloc (.cells #[v] 25)) := (Below.refl _ _).alloc (Nat.le_refl _) _
  have hc := markN_exact k (H.below b0) hn hsm k0 k1
  obtain ⟨m, hm⟩ : ∃ m : Int, k + szTo ns ns.length = m := ⟨_, rfl⟩
  rw [hm] at hc ⊢
  obtain ⟨a, n, c, rfl⟩ : ∃ a n c, v = .slice a n c := by
    rcases H with ⟨rfl, _⟩ | ⟨_, _, _, _, rfl, _⟩
    · exact ⟨_, _, _, rfl⟩
    · exact ⟨_, _, _, rfl⟩
  have HB : Hid (Below w.heap.size w (w.alloc (.cells #[.slice a n c] 25))) := b0
  clear H hm b0
  go_enter Try.func40, Try.ntmps40
  go_wp2_with fail
  refine hc.mono ?_
  rintro e w1 ⟨rfl, f1, K⟩
  have HK : Hid (ForD w1 lo hi (.slice a n c) (labF ns k) ∧ Kept (fun j => lo ≤ j ∧ j < hi) w w1) := ⟨f1, (Kept.of_below HB.out).trans K⟩
  clear K hc f1
  go_wp2
  go_ret
  exact ⟨rfl, HK.out.1, HK.out.2⟩
set_option maxRecDepth 100000 in
theorem heldF_exact {w : World} {lo hi : Nat} {v : Value} {ns : List Nd} (k : Int) (H : ForD w lo hi v (labF ns k)) (hn : ns.length ≤ 1048576) (hsm : ∀ i, i < ns.length → SmallN (nthN ns i)) (k0 : 0 ≤ k) (k1 : k ≤ 1048576) :
    Calls Try.prog 41 #[FV v, .int .i64 k] w fun e w' => e = .returned (.int .i64 (k + szTo ns ns.length)) ∧ Below w.heap.size w w' := by
  have b0 : Below w.heap.size w (w.alloc (.cells #[v] 25)) := (Below.refl _ _).alloc (Nat.le_refl _) _
  have hc := heldN_exact k (H.below b0) hn hsm k0 k1
  obtain ⟨m, hm⟩ : ∃ m : Int, k + szTo ns ns.length = m := ⟨_, rfl⟩
  have hm0 : ¬ m < 0 := by omega
  rw [hm] at hc ⊢
  obtain ⟨a, n, c, rfl⟩ : ∃ a n c, v = .slice a n c := by
    rcases H with ⟨rfl, _⟩ | ⟨_, _, _, _, rfl, _⟩
    · exact ⟨_, _, _, rfl⟩
    · exact ⟨_, _, _, rfl⟩
  clear H hm
  go_enter Try.func41, Try.ntmps41
  go_wp2_with fail
  refine hc.mono ?_
  rintro e w1 ⟨rfl, b1⟩
  have HB : Hid (Below w.heap.size w w1) := b0.trans (b1.mono b0.size)
  clear b1 hc b0
  go_wp2
  go_ret
  exact ⟨rfl, HB.out⟩
end Go.Proofs.Ythflalpapdaidaa
