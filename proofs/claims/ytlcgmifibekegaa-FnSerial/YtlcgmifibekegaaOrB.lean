/- Edges as flags: impl (stage 8). -/
import Derived.Test.YtlcgmifibekegaaOrA
namespace Go.Proofs.Ytlcgmifibekegaa
open Go.RowKit

set_option maxRecDepth 100000 in
set_option maxHeartbeats 4000000 in
theorem edgeFlags_any (a a' : Option Addr) (cap cap' : Nat) (zs : List Int) (es : List P2) (w : World) (h : RowI w a zs) (h' : RowP w a' es) (hl : zs.length ≤ 20) (hl' : es.length ≤ 1048576) (hs : zs.Pairwise (· ≤ ·)) :
    Calls Try.prog 107 #[.slice a zs.length cap, .slice a' es.length cap'] w fun e w' => e = .returned (.agg (f400 (edF zs es es.length))) ∧ Below w.heap.size w w' := by
  have HI : Hid (RowI w a zs) := h
  have HP : Hid (RowP w a' es) := h'
  have HC : Hid (∀ x W, RowI W a zs → Calls Try.prog 132 #[.slice a zs.length cap, .int .i64 x] W fun e w' => e = .returned (.tuple #[.int .i64 (posI zs x : Nat), .bool (asB (x ∈ zs))]) ∧ Below W.heap.size W w') := fun x W hW => search_any a cap zs x W hW (by omega) hs
  have HLT : Hid (∀ x, x ∈ zs → posI zs x < 20) := fun x hx => Nat.lt_of_lt_of_le (posI_lt hx) hl
  clear h h' hs
  obtain ⟨n, hn⟩ : ∃ m, zs.length = m := ⟨_, rfl⟩
  rw [hn] at hl HC ⊢
  obtain ⟨ne, hne⟩ : ∃ m, es.length = m := ⟨_, rfl⟩
  have HNE : Hid (es.length = ne) := hne
  rw [hne] at hl' ⊢
  clear hn hne
  have hZ : (f400 fun _ _ => false) = Try.zeroCells156 := by kernel_rfl
  have HZ : Hid (F400 ((w.alloc (.cells Try.zeroCells156 156)).alloc (.cells Try.zeroCells156 156)) (w.heap.size + 1) (edF zs es 0) ∧ ((w.alloc (.cells Try.zeroCells156 156)).alloc (.cells Try.zeroCells156 156)).heap[w.heap.size]? = some (.cells Try.zeroCells156 156 (0, 0))) := by
    have e0 : edF zs es 0 = fun _ _ => false := funext fun a => funext fun b => (asB_false (fun ⟨i, h, _⟩ => by omega)).symm
    refine ⟨?_, (heap_old _ _ _ (by simp)).trans (heap_new' _ _ _ rfl)⟩
    show _ = some (Obj.cells (f400 (edF zs es 0)) 156 (0, 0))
    rw [e0, hZ]
    exact heap_new' _ _ _ (by simp)
  have B0 : Below w.heap.size w ((w.alloc (.cells Try.zeroCells156 156)).alloc (.cells Try.zeroCells156 156)) := ((Below.refl _ _).alloc (Nat.le_refl _) _).alloc (by simp) _
  have HZS : Hid (Try.zeroCells156.size = 400) := by show _ = _; rw [← hZ]; exact f400_size _
  clear hZ
  go_enter Try.func107, Try.ntmps107
  go_wp2
  go_loopw [14] (fun i wr => ∃ k : Nat, k ≤ ne ∧ i = .int .i64 k ∧ Hid (F400 wr (w.heap.size + 1) (edF zs es k) ∧ wr.heap[w.heap.size]? = some (.cells Try.zeroCells156 156 (0, 0))) ∧ Below w.heap.size w wr) (fun i _ => ne - (intOf i).toNat)
  case atStart => exact ⟨0, by omega, rfl, HZ, B0⟩
  case round =>
    clear HZ B0
    obtain ⟨k, hk, rfl, HF, hbl⟩ := hrel
    have hlw : w.heap.size + 1 < wr.heap.size := slab_lt HF.out.1
    by_cases hlt : k < ne
    · have hltI : (k : Int) < (ne : Int) := by omega
      obtain ⟨b, off, rfl, hlb, q0, q1⟩ := (HP.out.below hbl) k (by rw [HNE.out]; exact hlt)
      obtain ⟨p, hp⟩ : ∃ p, nthP es k = p := ⟨_, rfl⟩
      have HX : Hid (nthP es k = p) := hp
      rw [hp] at q0 q1
      clear hp
      obtain ⟨fr, to⟩ := p
      simp only at q0 q1
      obtain ⟨W1, hW1⟩ : ∃ W1, wr.alloc (.cells #[.int .i64 fr, .int .i64 to] 48) = W1 := ⟨_, rfl⟩
      have b1 : Below wr.heap.size wr W1 := hW1 ▸ (Below.refl _ _).alloc (Nat.le_refl _) _
      have yb : W1.heap[wr.heap.size]? = some (.cells #[.int .i64 fr, .int .i64 to] 48 (0, 0)) := hW1 ▸ heap_new' _ _ _ rfl
      have YB : Hid (W1.heap[wr.heap.size]? = some (.cells #[.int .i64 fr, .int .i64 to] 48 (0, 0))) := yb
      have HF1 : Hid (F400 W1 (w.heap.size + 1) (edF zs es k) ∧ W1.heap[w.heap.size]? = some (.cells Try.zeroCells156 156 (0, 0))) := ⟨(b1.block _ hlw).trans HF.out.1, (b1.block _ (by omega)).trans HF.out.2⟩
      have hB1 := below_step hbl (Nat.le_refl _) b1
      have m0 : W1.cell? ⟨wr.heap.size, 0, none⟩ = some (.int .i64 fr) := slab_cell yb
      have m1 : W1.cell? ⟨wr.heap.size, 1, none⟩ = some (.int .i64 to) := slab_cell yb
      clear yb b1 HF
      go_wp2_with fail
      refine (HC.out fr W1 (HI.out.below hB1)).mono ?_
      rintro e w2 ⟨rfl, b2⟩
      have hlw2 : wr.heap.size < W1.heap.size := slab_lt YB.out
      have YB2 : Hid (w2.heap[wr.heap.size]? = some (.cells #[.int .i64 fr, .int .i64 to] 48 (0, 0))) := (b2.block _ hlw2).trans YB.out
      have HF2 : Hid (F400 w2 (w.heap.size + 1) (edF zs es k) ∧ w2.heap[w.heap.size]? = some (.cells Try.zeroCells156 156 (0, 0))) := ⟨(b2.block _ (by omega)).trans HF1.out.1, (b2.block _ (by omega)).trans HF1.out.2⟩
      have hB2 := below_step hB1 (Nat.le_refl _) b2
      have n1 : w2.cell? ⟨wr.heap.size, 1, none⟩ = some (.int .i64 to) := slab_cell YB2.out
      have hsz2 : W1.heap.size ≤ w2.heap.size := b2.size
      clear m0 m1 q0 q1 HF1 b2 hB1 hW1 YB
      go_wp2_with fail
      refine (HC.out to w2 (HI.out.below hB2)).mono ?_
      rintro e w3 ⟨rfl, b3⟩
      have HF3 : Hid (F400 w3 (w.heap.size + 1) (edF zs es k) ∧ w3.heap[w.heap.size]? = some (.cells Try.zeroCells156 156 (0, 0))) := ⟨(b3.block _ (by omega)).trans HF2.out.1, (b3.block _ (by omega)).trans HF2.out.2⟩
      have hB3 := below_step hB2 (Nat.le_refl _) b3
      clear n1 HF2 b3 hB2 YB2
      have HMISS : Hid (¬ (fr ∈ zs ∧ to ∈ zs) → F400 w3 (w.heap.size + 1) (edF zs es (k + 1))) := fun hno => by
        have e : edF zs es (k + 1) = edF zs es k := funext fun a => funext fun b => edF_miss (fun h => hno (by rw [HX.out] at h; exact ⟨h.1, h.2.1⟩))
        show _ = some (Obj.cells (f400 (edF zs es (k + 1))) 156 (0, 0))
        rw [e]
        exact HF3.out.1
      cases hfr : asB (fr ∈ zs) with
      | false =>
        have HN : Hid (F400 w3 (w.heap.size + 1) (edF zs es (k + 1)) ∧ w3.heap[w.heap.size]? = some (.cells Try.zeroCells156 156 (0, 0))) := ⟨HMISS.out (fun h => asB_not hfr h.1), HF3.out.2⟩
        clear hfr
        go_wp2
        go_roundw
        case rel => exact ⟨k + 1, by omega, by go_num, HN, hB3⟩
        case measure => simp [intOf]; omega
      | true =>
        have HFR : Hid (fr ∈ zs) := asB_is hfr
        clear hfr
        cases hto : asB (to ∈ zs) with
        | false =>
          have HN : Hid (F400 w3 (w.heap.size + 1) (edF zs es (k + 1)) ∧ w3.heap[w.heap.size]? = some (.cells Try.zeroCells156 156 (0, 0))) := ⟨HMISS.out (fun h => asB_not hto h.2), HF3.out.2⟩
          clear hto
          go_wp2
          go_roundw
          case rel => exact ⟨k + 1, by omega, by go_num, HN, hB3⟩
          case measure => simp [intOf]; omega
        | true =>
          have HTO : Hid (to ∈ zs) := asB_is hto
          clear hto
          have hF := HLT.out fr HFR.out
          have hT := HLT.out to HTO.out
          have HPF : Hid (posI zs (nthP es k).1 = posI zs fr ∧ posI zs (nthP es k).2 = posI zs to) := by show _ ∧ _; rw [HX.out]; exact ⟨rfl, rfl⟩
          have HMM : Hid ((nthP es k).1 ∈ zs ∧ (nthP es k).2 ∈ zs) := by show _ ∧ _; rw [HX.out]; exact ⟨HFR.out, HTO.out⟩
          generalize posI zs fr = F at *
          generalize posI zs to = G at *
          have hFI : (F : Int) < 20 := by omega
          have hTI : (G : Int) < 20 := by omega
          have hf : w3.frozen? ⟨w.heap.size + 1, G * 20 + F, none⟩ = false := slab_free HF3.out.1
          obtain ⟨v3, hv3⟩ : ∃ v, w3.cell? ⟨w.heap.size + 1, G * 20 + F, none⟩ = some v := ⟨_, (slab_cell HF3.out.1).trans (f400_get _ _ _ hT hF)⟩
          have HN : Hid (F400 (w3.setCell ⟨w.heap.size + 1, G * 20 + F, none⟩ (.bool true)) (w.heap.size + 1) (edF zs es (k + 1)) ∧ (w3.setCell ⟨w.heap.size + 1, G * 20 + F, none⟩ (.bool true)).heap[w.heap.size]? = some (.cells Try.zeroCells156 156 (0, 0))) :=
            ⟨F400.set HF3.out.1 hF (edF_hit HMM.out.1 HMM.out.2 HPF.out.2 HPF.out.1) (fun i j hij => edF_miss (fun h => hij ⟨h.2.2.1.symm.trans HPF.out.2, h.2.2.2.symm.trans HPF.out.1⟩)), by
              have := HF3.out.2
              rw [← this]
              simp [World.setCell, Array.getElem?_modify]⟩
          have hB4 : Below w.heap.size w (w3.setCell ⟨w.heap.size + 1, G * 20 + F, none⟩ (.bool true)) := hB3.setCell (p := ⟨w.heap.size + 1, G * 20 + F, none⟩) (by simp) _
          clear HF3 hB3
          go_wp2
          go_roundw
          case rel => exact ⟨k + 1, by omega, by go_num, HN, hB4⟩
          case measure => simp [intOf]; omega
    · obtain rfl : k = ne := by omega
      obtain ⟨A, hA⟩ : ∃ A, f400 (edF zs es k) = A := ⟨_, rfl⟩
      have HA : Hid (f400 (edF zs es k) = A) := hA
      have hs : A.size = 400 := hA ▸ f400_size _
      have L0 : wr.heap[w.heap.size + 1]? = some (.cells A 156 (0, 0)) := hA ▸ HF.out.1
      have L1 : wr.heap[w.heap.size]? = some (.cells Try.zeroCells156 156 (0, 0)) := HF.out.2
      have L2 : (wr.setRow w.heap.size A).heap[w.heap.size]? = some (.cells A 156 (0, 0)) := setRow_heap wr w.heap.size Try.zeroCells156 A 156 (0, 0) HF.out.2
      have HB : Hid (Below w.heap.size w (wr.setRow w.heap.size A)) := below_setRowX hbl (Nat.le_refl _) A
      have hi36 : (Try.prog.info? 156).map (·.size) = some A.size := by rw [hs]; exact size156
      have h1' : A.all (·.oneCell') = true := hA ▸ f400_one _
      have ho36 : Try.zeroCells156.size = A.size := by rw [hs]; exact HZS.out
      clear hA hs HF
      go_wp2_with (first | (refine wpList_load_row rfl 156 _ rfl (w.heap.size + 1) rfl 156 A (0, 0) _ L0 Try.underlying156 rfl hi36 ?_) | (refine wpList_store_row rfl 156 _ _ rfl w.heap.size A rfl rfl 156 Try.zeroCells156 L1 hi36 ho36 h1' ?_))
      refine bodyPost_ret (v := .agg A) (results_cell_row rfl _ _ w.heap.size 156 A (0, 0) _ rfl L2 Try.underlying156 rfl hi36) rfl ?_
      exact ⟨by rw [HA.out], HB.out⟩
end Go.Proofs.Ytlcgmifibekegaa
