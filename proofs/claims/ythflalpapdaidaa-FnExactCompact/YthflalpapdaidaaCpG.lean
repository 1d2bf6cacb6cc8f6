/- impl's copies of lists of nodes (stage 5). -/
import Derived.Test.YthflalpapdaidaaCpF
namespace Go.Proofs.Ythflalpapdaidaa
open Go.RowKit

set_option maxRecDepth 100000 in
set_option maxHeartbeats 8000000 in
theorem copyNodes_any (a : Option Addr) (cp : Nat) (ns : List Nd) (w : World) (hrow : RowN w a ns) (hlen : ns.length ≤ 1048576) (hsm : ∀ i, i < ns.length → SmallN (nthN ns i)) :
    Calls Try.prog 74 #[.slice a ns.length cp] w fun e w' => ∃ v, e = .returned v ∧ ForD w' w.heap.size w'.heap.size v ns ∧ Below w.heap.size w w' := by
  obtain ⟨es, hK, hE⟩ := hrow.list
  have hcl := cloneN_any a es cp w hE (by rw [hK.1]; exact hlen)
  rw [hK.1] at hcl
  have HK : Hid (KidN w es ns) := hK
  have HM : Hid (∀ i, i < ns.length → SmallN (nthN ns i)) := hsm
  clear hrow hE hK hsm
  obtain ⟨len, hL⟩ : ∃ m, ns.length = m := ⟨_, rfl⟩
  have HL : Hid (ns.length = len) := hL
  rw [hL] at hlen hcl
  rw [hL]
  clear hL
  go_enter Try.func74, Try.ntmps74
  go_wp2_with fail
  refine hcl.mono ?_
  rintro e w1 ⟨v, rfl, ho, B1⟩
  clear hcl
  rcases ho.slab with ⟨rfl, h0⟩ | ⟨g, c, cur, rfl, g1, g2, g3, g4, g5⟩
  · have h0' : len = 0 := by rw [← HL.out, ← HK.out.1]; exact h0
    have hf0 : ns.length = 0 := by rw [HL.out]; exact h0'
    clear ho h0 hlen
    go_wp2
    go_loop [10] (fun i => i = .int .i64 0) (fun _ => 0)
    case atStart => rfl
    case round =>
      obtain rfl := hrel
      go_wp2
      go_ret
      exact ⟨_, rfl, .inl ⟨rfl, hf0⟩, B1⟩
  · have hel : es.length = len := HK.out.1.trans HL.out
    rw [hel] at g2 g5 ⊢
    have HG : Hid (len ≤ c ∧ w.heap.size ≤ g) := ⟨g2, g1⟩
    have HS0 : Hid (SlabO w1 (g + 1) g c ns 0) := SlabO.zero ns g3 g4
    have HR0 : Hid (RestN w1 g 0 es len) := ⟨cur, g3, fun i _ hi => g5 i hi⟩
    clear ho g1 g2 g3 g4 g5 hel
    go_wp2
    go_loopw [10] (fun i wr => ∃ k : Nat, k ≤ len ∧ i = .int .i64 k ∧ Hid (SlabO wr (g + 1) g c ns k) ∧ Hid (RestN wr g k es len) ∧ Below w.heap.size w wr) (fun i _ => len - (intOf i).toNat)
    case atStart => exact ⟨0, by omega, rfl, HS0, HR0, B1⟩
    case round =>
      clear HS0 HR0 B1
      obtain ⟨k, hk, rfl, HS, HR, hbl⟩ := hrel
      by_cases hlt : k < len
      · have hltI : (k : Int) < (len : Int) := by omega
        have hkf : k < ns.length := by rw [HL.out]; exact hlt
        obtain ⟨kk0, kk1, kk2, kk3, nr⟩ := HK.out.2 k hkf
        obtain ⟨cr, hcr, hcc⟩ := HR.out
        obtain ⟨e0, e1, e2, e3⟩ := hcc k (Nat.le_refl _) hlt
        obtain ⟨sm1, sm2, sm3⟩ := HM.out k hkf
        have hgl : g < wr.heap.size := slab_lt hcr
        obtain ⟨L0, hL0⟩ : ∃ L0, (nthE es k).1 = L0 := ⟨_, rfl⟩
        obtain ⟨⟨ka, kn, kc⟩, hs1⟩ : ∃ s1, (nthE es k).2.1 = s1 := ⟨_, rfl⟩
        obtain ⟨⟨va, vn, vc⟩, hs2⟩ : ∃ s2, (nthE es k).2.2.1 = s2 := ⟨_, rfl⟩
        obtain ⟨⟨ia, im, ic⟩, hs3⟩ : ∃ s3, (nthE es k).2.2.2 = s3 := ⟨_, rfl⟩
        rw [hL0] at e0
        rw [hs1] at e1 kk1 nr
        rw [hs2] at e2 kk2 nr
        rw [hs3] at e3 kk3 nr
        simp only at kk1 kk2 kk3 nr
        obtain ⟨nd, hnd⟩ : ∃ nd, nthN ns k = nd := ⟨_, rfl⟩
        have HND : Hid (nthN ns k = nd) := hnd
        rw [hnd] at kk1 kk2 kk3 nr sm1 sm2 sm3
        clear hnd hs1 hs2 hs3 hL0
        obtain ⟨lf, keys, vals, kids⟩ := nd
        simp only at kk1 kk2 kk3 sm1 sm2 sm3
        subst kk1 kk2 kk3
        obtain ⟨n1, n2, n3, _⟩ := nr
        simp only at n1 n2 n3
        have HNR : Hid (RowS w ka keys ∧ RowS w va vals ∧ RowI w ia kids ∧ vals.length ≤ 1048576 ∧ kids.length ≤ 1048576) := ⟨n1, n2, n3, sm2, sm3⟩
        have z0 : wr.cell? ⟨g, k * 4, none⟩ = some (.bool L0) := (slab_cell hcr).trans e0
        have z1 : wr.cell? ⟨g, k * 4 + 1, none⟩ = some (.slice ka keys.length kc) := (slab_cell hcr).trans e1
        have z2 : wr.cell? ⟨g, k * 4 + 2, none⟩ = some (.slice va vals.length vc) := (slab_cell hcr).trans e2
        have z3 : wr.cell? ⟨g, k * 4 + 3, none⟩ = some (.slice ia kids.length ic) := (slab_cell hcr).trans e3
        obtain ⟨WA, hWA⟩ : ∃ WA, wr.alloc (.cells #[.bool L0, .slice ka keys.length kc, .slice va vals.length vc, .slice ia kids.length ic] 93) = WA := ⟨_, rfl⟩
        have BA : Below wr.heap.size wr WA := hWA ▸ (Below.refl _ _).alloc (Nat.le_refl _) _
        have hbx : WA.heap[wr.heap.size]? = some (.cells #[.bool L0, .slice ka keys.length kc, .slice va vals.length vc, .slice ia kids.length ic] 93 (0, 0)) := hWA ▸ heap_new' _ _ _ rfl
        have cb1 : WA.cell? ⟨wr.heap.size, 1, none⟩ = some (.slice ka keys.length kc) := slab_cell hbx
        have sA : WA.heap.size = wr.heap.size + 1 := by rw [← hWA]; simp
        have BwA : Below w.heap.size w WA := hbl.trans (BA.mono hbl.size)
        have hcs : cr.size = c * 4 := by
          obtain ⟨cur', _, hh', hs', _⟩ := HS.out
          have := hh'.symm.trans hcr
          cases this; exact hs'
        have hcall1 := cloneS_any ka keys kc WA (n1.below BwA) sm1
        have HA : Hid (Below wr.heap.size wr WA ∧ WA.heap[wr.heap.size]? = some (.cells #[.bool L0, .slice ka keys.length kc, .slice va vals.length vc, .slice ia kids.length ic] 93 (0, 0)) ∧ WA.heap.size = wr.heap.size + 1 ∧ wr.heap[g]? = some (.cells cr 93 (0, 0)) ∧ cr.size = c * 4 ∧ g < wr.heap.size ∧ Below w.heap.size w wr) := ⟨BA, hbx, sA, hcr, hcs, hgl, hbl⟩
        have HK0 : Hid ((nthE es k).1 = (nthN ns k).1) := kk0
        clear n1 n2 n3 sm1 sm2 sm3 e0 e1 e2 e3 hcc hcr BA hbx sA hcs hkf BwA kk0
        go_wp2_with fail
        refine hcall1.mono ?_
        rintro e w2 ⟨v1, rfl, o1, b2⟩
        obtain ⟨x1, c1, rfl⟩ := o1.shape
        obtain ⟨n1, hn1⟩ : ∃ n1, (vS keys).length = n1 := ⟨_, rfl⟩
        rw [hn1] at o1 ⊢
        clear hn1
        have hg2 : w2.heap[g]? = some (.cells cr 93 (0, 0)) := (b2.block g (by have := HA.out; omega)).trans ((HA.out.1.block g HA.out.2.2.2.2.2.1).trans HA.out.2.2.2.1)
        obtain ⟨q1, hq1⟩ := blk_there (o := k * 4 + 1) hg2 (by have := HA.out; have := HG.out; omega)
        have hf2 : ∀ o, w2.frozen? ⟨g, o, none⟩ = false := fun o => slab_free hg2
        have hne : g ≠ wr.heap.size := by omega
        obtain ⟨A2, hA2⟩ : ∃ A2, w2.setCell ⟨g, k * 4 + 1, none⟩ (.slice x1 n1 c1) = A2 := ⟨_, rfl⟩
        have hgA2 : A2.heap[g]? = some (.cells (cr.setIfInBounds (k * 4 + 1) (.slice x1 n1 c1)) 93 (0, 0)) := hA2 ▸ slab_set hg2 _
        have kA2 : ∀ b, b ≠ g → A2.heap[b]? = w2.heap[b]? := fun b hb => hA2 ▸ set_other _ (fun e => hb e.symm)
        have sA2 : A2.heap.size = w2.heap.size := by rw [← hA2]; simp [World.setCell]
        have hbx2 : A2.heap[wr.heap.size]? = some (.cells #[.bool L0, .slice ka keys.length kc, .slice va vals.length vc, .slice ia kids.length ic] 93 (0, 0)) := (kA2 _ (fun e => hne e.symm)).trans ((b2.block _ (by have := HA.out; omega)).trans HA.out.2.1)
        have cb2 : A2.cell? ⟨wr.heap.size, 2, none⟩ = some (.slice va vals.length vc) := slab_cell hbx2
        have BwA2 : Below w.heap.size w A2 := hA2 ▸ (((HA.out.2.2.2.2.2.2.trans (HA.out.1.mono HA.out.2.2.2.2.2.2.size)).trans (b2.mono (by have := HA.out; have := HA.out.2.2.2.2.2.2.size; omega))).setCell (p := ⟨g, k * 4 + 1, none⟩) HG.out.2 _)
        have hcall2 := cloneS_any va vals vc A2 (HNR.out.2.1.below BwA2) HNR.out.2.2.2.1
        have HA2 : Hid (A2.heap[g]? = some (.cells (cr.setIfInBounds (k * 4 + 1) (.slice x1 n1 c1)) 93 (0, 0)) ∧ (∀ b, b ≠ g → A2.heap[b]? = w2.heap[b]?) ∧ A2.heap.size = w2.heap.size ∧ A2.heap[wr.heap.size]? = some (.cells #[.bool L0, .slice ka keys.length kc, .slice va vals.length vc, .slice ia kids.length ic] 93 (0, 0)) ∧ Below w.heap.size w A2 ∧ OwnL 9 w2 WA.heap.size w2.heap.size (.slice x1 n1 c1) (vS keys) ∧ Below WA.heap.size WA w2) := ⟨hgA2, kA2, sA2, hbx2, BwA2, o1, b2⟩
        clear hcall1 o1 b2 hg2 cb1 hWA z0 z1 z2 z3 hgA2 kA2 sA2 hbx2 BwA2
        go_wp2_with fail
        refine hcall2.mono ?_
        rintro e w3 ⟨v2, rfl, o2, b3⟩
        obtain ⟨x2, c2, rfl⟩ := o2.shape
        obtain ⟨n2, hn2⟩ : ∃ n2, (vS vals).length = n2 := ⟨_, rfl⟩
        rw [hn2] at o2 ⊢
        clear hn2 hq1 hf2
        have hl2 : WA.heap.size ≤ A2.heap.size := by rw [HA2.out.2.2.1]; exact HA2.out.2.2.2.2.2.2.size
        have hg3 : w3.heap[g]? = some (.cells (cr.setIfInBounds (k * 4 + 1) (.slice x1 n1 c1)) 93 (0, 0)) := (b3.block g (by have := HA.out; omega)).trans HA2.out.1
        obtain ⟨q2, hq2⟩ := blk_there (o := k * 4 + 2) hg3 (by have := HA.out; have := HG.out; simp; omega)
        have hf3 : ∀ o, w3.frozen? ⟨g, o, none⟩ = false := fun o => slab_free hg3
        obtain ⟨A3, hA3⟩ : ∃ A3, w3.setCell ⟨g, k * 4 + 2, none⟩ (.slice x2 n2 c2) = A3 := ⟨_, rfl⟩
        have hgA3 : A3.heap[g]? = some (.cells ((cr.setIfInBounds (k * 4 + 1) (.slice x1 n1 c1)).setIfInBounds (k * 4 + 2) (.slice x2 n2 c2)) 93 (0, 0)) := hA3 ▸ slab_set hg3 _
        have kA3 : ∀ b, b ≠ g → A3.heap[b]? = w3.heap[b]? := fun b hb => hA3 ▸ set_other _ (fun e => hb e.symm)
        have sA3 : A3.heap.size = w3.heap.size := by rw [← hA3]; simp [World.setCell]
        have hbx3 : A3.heap[wr.heap.size]? = some (.cells #[.bool L0, .slice ka keys.length kc, .slice va vals.length vc, .slice ia kids.length ic] 93 (0, 0)) := (kA3 _ (fun e => hne e.symm)).trans ((b3.block _ (by have := HA.out; omega)).trans HA2.out.2.2.2.1)
        have cb3 : A3.cell? ⟨wr.heap.size, 3, none⟩ = some (.slice ia kids.length ic) := slab_cell hbx3
        have BwA3 : Below w.heap.size w A3 := hA3 ▸ ((HA2.out.2.2.2.2.1.trans (b3.mono HA2.out.2.2.2.2.1.size)).setCell (p := ⟨g, k * 4 + 2, none⟩) HG.out.2 _)
        have hcall3 := cloneI_any ia kids ic A3 (HNR.out.2.2.1.below BwA3) HNR.out.2.2.2.2
        have HA3 : Hid (A3.heap[g]? = some (.cells ((cr.setIfInBounds (k * 4 + 1) (.slice x1 n1 c1)).setIfInBounds (k * 4 + 2) (.slice x2 n2 c2)) 93 (0, 0)) ∧ (∀ b, b ≠ g → A3.heap[b]? = w3.heap[b]?) ∧ A3.heap.size = w3.heap.size ∧ Below w.heap.size w A3 ∧ OwnL 9 w3 A2.heap.size w3.heap.size (.slice x2 n2 c2) (vS vals) ∧ Below A2.heap.size A2 w3) := ⟨hgA3, kA3, sA3, BwA3, o2, b3⟩
        clear hcall2 o2 b3 hg3 cb2 hA2 hgA3 kA3 sA3 hbx3 BwA3
        go_wp2_with fail
        refine hcall3.mono ?_
        rintro e w4 ⟨v3, rfl, o3, b4⟩
        obtain ⟨x3, c3, rfl⟩ := o3.shape
        obtain ⟨n3, hn3⟩ : ∃ n3, (vI kids).length = n3 := ⟨_, rfl⟩
        rw [hn3] at o3 ⊢
        clear hn3 hq2 hf3
        have hl3 : A2.heap.size ≤ A3.heap.size := by rw [HA3.out.2.2.1]; exact HA3.out.2.2.2.2.2.size
        have hl4 := b4.size
        have hg4 : w4.heap[g]? = some (.cells ((cr.setIfInBounds (k * 4 + 1) (.slice x1 n1 c1)).setIfInBounds (k * 4 + 2) (.slice x2 n2 c2)) 93 (0, 0)) := (b4.block g (by have := HA.out; omega)).trans HA3.out.1
        obtain ⟨q3, hq3⟩ := blk_there (o := k * 4 + 3) hg4 (by have := HA.out; have := HG.out; simp; omega)
        have hf4 : ∀ o, w4.frozen? ⟨g, o, none⟩ = false := fun o => slab_free hg4
        have kA4 : ∀ b, b ≠ g → (w4.setCell ⟨g, k * 4 + 3, none⟩ (.slice x3 n3 c3)).heap[b]? = w4.heap[b]? := fun b hb => set_other _ (fun e => hb e.symm)
        have sA4 : (w4.setCell ⟨g, k * 4 + 3, none⟩ (.slice x3 n3 c3)).heap.size = w4.heap.size := by simp [World.setCell]
        have E3 : ∀ b, b ≠ g → b < w3.heap.size → (w4.setCell ⟨g, k * 4 + 3, none⟩ (.slice x3 n3 c3)).heap[b]? = w3.heap[b]? := fun b h1 h2 => (kA4 b h1).trans ((b4.block b (by rw [HA3.out.2.2.1]; exact h2)).trans (HA3.out.2.1 b h1))
        have E2 : ∀ b, b ≠ g → b < w2.heap.size → (w4.setCell ⟨g, k * 4 + 3, none⟩ (.slice x3 n3 c3)).heap[b]? = w2.heap[b]? := fun b h1 h2 => (E3 b h1 (by have := HA2.out.2.2.1; have := HA3.out.2.2.2.2.2.size; omega)).trans ((HA3.out.2.2.2.2.2.block b (by rw [HA2.out.2.2.1]; exact h2)).trans (HA2.out.2.1 b h1))
        have E0 : ∀ b, b ≠ g → b < wr.heap.size → (w4.setCell ⟨g, k * 4 + 3, none⟩ (.slice x3 n3 c3)).heap[b]? = wr.heap[b]? := fun b h1 h2 => (E2 b h1 (by have := HA2.out.2.2.2.2.2.2.size; have := HA.out; omega)).trans ((HA2.out.2.2.2.2.2.2.block b (by have := HA.out; omega)).trans (HA.out.1.block b h2))
        have hN := cpN_step (w4 := w4.setCell ⟨g, k * 4 + 3, none⟩ (.slice x3 n3 c3)) HS.out (by rw [HL.out]; exact HR.out) (by rw [HL.out]; exact hlt) (by rw [HL.out]; exact HG.out.1) HK0.out (by rw [sA4]; have := HA.out; omega) E0 (fun cur' h => by
            have := h.symm.trans HA.out.2.2.2.1
            cases this
            exact slab_set hg4 _) ⟨w2.heap.size, w3.heap.size, by have := HA2.out.2.2.2.2.2.2.size; have := HA.out; omega, by have := HA3.out.2.2.2.2.2.size; have := HA2.out.2.2.1; omega, by rw [sA4]; have := HA3.out.2.2.1; omega, by
              rw [HND.out]
              exact (HA2.out.2.2.2.2.2.1.mono (by have := HA.out; omega) (Nat.le_refl _)).same fun b h1 h2 h3 => E2 b (by have := HA.out; omega) h3, by
              rw [HND.out]
              exact (HA3.out.2.2.2.2.1.mono (by have := HA2.out.2.2.1; omega) (Nat.le_refl _)).same fun b h1 h2 h3 => E3 b (by have := HA.out; have := HA2.out.2.2.2.2.2.2.size; omega) h3, by
              rw [HND.out, sA4]
              exact (o3.mono (by have := HA3.out.2.2.1; omega) (Nat.le_refl _)).same fun b h1 h2 h3 => kA4 b (by have := HA.out; have := HA2.out.2.2.2.2.2.2.size; have := HA2.out.2.2.1; have := HA3.out.2.2.2.2.2.size; omega)⟩
        have HSn : Hid (SlabO (w4.setCell ⟨g, k * 4 + 3, none⟩ (.slice x3 n3 c3)) (g + 1) g c ns (k + 1)) := hN.1
        have HRn : Hid (RestN (w4.setCell ⟨g, k * 4 + 3, none⟩ (.slice x3 n3 c3)) g (k + 1) es len) := by have := hN.2; rw [HL.out] at this; exact this
        have hBn : Below w.heap.size w (w4.setCell ⟨g, k * 4 + 3, none⟩ (.slice x3 n3 c3)) := (HA3.out.2.2.2.1.trans (b4.mono HA3.out.2.2.2.1.size)).setCell (p := ⟨g, k * 4 + 3, none⟩) HG.out.2 _
        clear hN E0 E2 E3 kA4 sA4 hg4 o3 b4 hcall3 cb3 hA3 HA HA2 HA3 HNR HS HR hl2 hl3 hl4 hbl
        go_wp2
        go_roundw
        case rel => exact ⟨k + 1, by omega, by go_num, HSn, HRn, hBn⟩
        case measure => simp [intOf]; omega
      · obtain rfl : k = len := by omega
        have HD : Hid (ForD wr w.heap.size wr.heap.size (.slice (some ⟨g, 0, none⟩) ns.length c) ns) := SlabO.forest (by rw [HL.out]; exact HS.out) (by rw [HL.out]; exact HG.out.1) HG.out.2
        rw [HL.out] at HD
        clear HS HR
        go_wp2
        go_ret
        exact ⟨_, rfl, HD.out, hbl⟩
end Go.Proofs.Ythflalpapdaidaa
