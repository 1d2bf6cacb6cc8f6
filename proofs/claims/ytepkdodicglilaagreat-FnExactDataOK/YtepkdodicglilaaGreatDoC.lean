/- impl's DataOK (stage 13). -/
import Derived.Test.YtepkdodicglilaaGreatDoB
namespace Go.Proofs.YtepkdodicglilaaGreat
open Go.RowKit

/-- Data fit their tables, up to k. -/
def FitsUp (ss : List TT) (ds : List TD) (k : Nat) : Prop := ∀ i, i < k → FitP (nthT ss i) (nthD ds i)
theorem FitsUp.next {ss : List TT} {ds : List TD} {k : Nat} (h : FitsUp ss ds k) (h1 : FitP (nthT ss k) (nthD ds k)) : FitsUp ss ds (k + 1) := fun i hi => by
  by_cases e : i = k
  · subst e; exact h1
  · exact h i (by omega)
/-- Data are right. -/
def DatP (ss : List TT) (ds : List TD) : Prop := CatP ss ∧ ds.length = ss.length ∧ FitsUp ss ds ss.length

set_option maxRecDepth 100000 in
set_option maxHeartbeats 4000000 in
theorem equalFunc_any (a : Option Addr) (cap : Nat) (ss : List TT) (b : Option Addr) (dcap : Nat) (ds : List TD) (w : World) (h : RowT w a ss) (hd : RowD w b ds) (hl : ss.length ≤ 1048576) (hdl : ds.length ≤ 1048576) (hz : ∀ i, i < ss.length → SmallT (nthT ss i)) (hy : ∀ i, i < ds.length → SmallD (nthD ds i)) (hc : CatP ss) :
    Calls Tryz.prog 27 #[.slice a ss.length cap, .slice b ds.length dcap, .func (.func 28) #[] #[]] w fun e w' => e = .returned (.bool (asB (ds.length = ss.length ∧ FitsUp ss ds ss.length))) ∧ Below w.heap.size w w' := by
  have HR : Hid (RowT w a ss ∧ RowD w b ds) := ⟨h, hd⟩
  have HZ : Hid ((∀ i, i < ss.length → SmallT (nthT ss i)) ∧ (∀ i, i < ds.length → SmallD (nthD ds i)) ∧ CatP ss) := ⟨hz, hy, hc⟩
  clear h hd hz hy hc
  obtain ⟨n, hn⟩ : ∃ n, ss.length = n := ⟨_, rfl⟩
  obtain ⟨m, hm⟩ : ∃ m, ds.length = m := ⟨_, rfl⟩
  have HN : Hid (ss.length = n ∧ ds.length = m) := ⟨hn, hm⟩
  rw [hn] at hl ⊢
  rw [hm] at hdl ⊢
  clear hn hm
  by_cases hmn : n = m
  · subst hmn
    go_enter Tryz.func27, Tryz.ntmps27
    go_wp2
    go_loopw [17] (fun i wr => ∃ k : Nat, k ≤ n ∧ i = .int .i64 k ∧ Hid (FitsUp ss ds k) ∧ Below w.heap.size w wr) (fun i _ => n - (intOf i).toNat)
    case atStart => exact ⟨0, by omega, rfl, fun i hi => by omega, Below.refl _ _⟩
    case round =>
      obtain ⟨k, hk, rfl, HS, hbl⟩ := hrel
      by_cases hlt : k < n
      · have hltI : (k : Int) < (n : Int) := by omega
        obtain ⟨tb, to, ca, cc, xa, xc, rfl, hlb, ⟨p0, p1, p2, p3⟩, hcs, hxs, hsn, lcs, lxs, kc, kx⟩ := (HR.out.1.below hbl) k (by rw [HN.out.1]; exact hlt)
        obtain ⟨db, dof, ra, rc, rfl, hlb2, ⟨r0, r1⟩, hrr, lrr, hdn, _⟩ := (HR.out.2.below hbl) k (by rw [HN.out.2]; exact hlt)
        have hsmT := HZ.out.1 k (by rw [HN.out.1]; exact hlt)
        have hsmD := HZ.out.2.1 k (by rw [HN.out.2]; exact hlt)
        have hQT := (HZ.out.2.2.2 k (by rw [HN.out.1]; exact hlt)).1
        have HU : Hid (FitsUp ss ds n → FitP (nthT ss k) (nthD ds k)) := fun h => h k hlt
        have HV : Hid (FitP (nthT ss k) (nthD ds k) → FitsUp ss ds (k + 1)) := fun h => HS.out.next h
        obtain ⟨W1, hW1⟩ : ∃ W1, (wr.alloc (.cells #[.string (nthT ss k).1, .slice ca (nthT ss k).2.1.length cc, .int .i64 (nthT ss k).2.2.1, .slice xa (nthT ss k).2.2.2.length xc] 61)).alloc (.cells #[.string (nthD ds k).1, .slice ra (nthD ds k).2.length rc] 57) = W1 := ⟨_, rfl⟩
        have b1 : Below wr.heap.size wr W1 := hW1 ▸ ((Below.refl _ _).alloc (Nat.le_refl _) _).alloc (by simp) _
        have HCL : Hid (Calls Tryz.prog 28 #[TbV (nthT ss k).1 (.slice ca (nthT ss k).2.1.length cc) (nthT ss k).2.2.1 (.slice xa (nthT ss k).2.2.2.length xc), ValD (nthD ds k).1 (.slice ra (nthD ds k).2.length rc)] W1 fun e w' => e = .returned (.bool (asB (FitP (nthT ss k) (nthD ds k)))) ∧ Below W1.heap.size W1 w') :=
          dataFits_any (nthT ss k).1 ca xa cc xc (nthT ss k).2.1 (nthT ss k).2.2.1 (nthT ss k).2.2.2 (nthD ds k).1 ra rc (nthD ds k).2 W1 (hcs.below b1) (hxs.below b1) (hrr.below b1) hsn hsmT.2.1.1 hsmT.2.2.1 hsmT.2.2.2 kc kx hsmD.2 hQT
        clear hcs hxs hsn lcs lxs kc kx hrr lrr hdn hsmT hsmD hQT HS
        generalize nthT ss k = x at *
        generalize nthD ds k = d at *
        obtain ⟨nx, cs, ky, xs⟩ := x
        obtain ⟨dn, rs⟩ := d
        simp only at p0 p1 p2 p3 r0 r1 HCL hW1
        have BW := below_step hbl (Nat.le_refl _) b1
        have eA : W1.heap[wr.heap.size]? = some (.cells #[.string nx, .slice ca cs.length cc, .int .i64 ky, .slice xa xs.length xc] 61 (0, 0)) := (hW1 ▸ (heap_old _ _ _ (by simp)).trans (heap_new' _ _ _ rfl) : W1.heap[wr.heap.size]? = _)
        have eB : W1.heap[wr.heap.size + 1]? = some (.cells #[.string dn, .slice ra rs.length rc] 57 (0, 0)) := (hW1 ▸ heap_new' _ _ _ (by simp) : W1.heap[wr.heap.size + 1]? = _)
        have c0 : W1.cell? ⟨wr.heap.size, 0, none⟩ = some (.string nx) := slab_cell eA
        have c1 : W1.cell? ⟨wr.heap.size, 1, none⟩ = some (.slice ca cs.length cc) := slab_cell eA
        have c2 : W1.cell? ⟨wr.heap.size, 2, none⟩ = some (.int .i64 ky) := slab_cell eA
        have c3 : W1.cell? ⟨wr.heap.size, 3, none⟩ = some (.slice xa xs.length xc) := slab_cell eA
        have c4 : W1.cell? ⟨wr.heap.size + 1, 0, none⟩ = some (.string dn) := slab_cell eB
        have c5 : W1.cell? ⟨wr.heap.size + 1, 1, none⟩ = some (.slice ra rs.length rc) := slab_cell eB
        clear eA eB
        obtain ⟨ans, hans⟩ : ∃ q, asB (FitP (nx, cs, ky, xs) (dn, rs)) = q := ⟨_, rfl⟩
        have HA : Hid (asB (FitP (nx, cs, ky, xs) (dn, rs)) = ans) := hans
        rw [hans] at HCL
        clear hans b1
        go_wp2_with fail
        refine HCL.out.mono ?_
        rintro e w2 ⟨rfl, b2⟩
        have B2 := below_step BW (Nat.le_refl _) b2
        clear HCL hW1 b2 p0 p1 p2 p3 r0 r1 c0 c1 c2 c3 c4 c5
        cases ans with
        | false =>
          have HX : Hid (¬ FitsUp ss ds n) := fun h => asB_not HA.out (HU.out h)
          go_wp2
          go_ret
          exact ⟨ret_bool' (by first | exact asB_false HX.out | exact asB_false (fun h => HX.out h.2)), B2⟩
        | true =>
          have HT : Hid (FitsUp ss ds (k + 1)) := HV.out (asB_is HA.out)
          go_wp2
          go_roundw
          case rel => exact ⟨k + 1, by omega, by go_num, HT, B2⟩
          case measure => simp [intOf]; omega
      · obtain rfl : k = n := by omega
        go_wp2
        go_ret
        exact ⟨ret_bool' (by first | exact asB_true HS.out | exact asB_true ⟨trivial, HS.out⟩ | exact asB_true ⟨rfl, HS.out⟩), hbl⟩
  · have HX : Hid (¬ (m = n ∧ FitsUp ss ds n)) := fun h => hmn (h.1.symm)
    have hmb : ((n : Int) != (m : Int)) = true := by simp; omega
    go_enter Tryz.func27, Tryz.ntmps27
    go_wp2
    go_ret
    exact ⟨ret_bool' (asB_false HX.out), Below.refl _ _⟩

set_option maxRecDepth 100000 in
theorem implDataOK_any (a : Option Addr) (cap : Nat) (ss : List TT) (b : Option Addr) (dcap : Nat) (ds : List TD) (w : World) (h : RowT w a ss) (hd : RowD w b ds) (hl : ss.length ≤ 1048576) (hdl : ds.length ≤ 1048576) (hz : ∀ i, i < ss.length → SmallT (nthT ss i)) (hy : ∀ i, i < ds.length → SmallD (nthD ds i)) :
    Calls Tryz.prog 10 #[.slice a ss.length cap, .slice b ds.length dcap] w fun e w' => e = .returned (.bool (asB (DatP ss ds))) ∧ Below w.heap.size w w' := by
  have HC := implCatalogOK_any a cap ss w h hl hz
  have HE : Hid (CatP ss → ∀ W, Below w.heap.size w W → Calls Tryz.prog 27 #[.slice a ss.length cap, .slice b ds.length dcap, .func (.func 28) #[] #[]] W fun e w' => e = .returned (.bool (asB (ds.length = ss.length ∧ FitsUp ss ds ss.length))) ∧ Below W.heap.size W w') := fun hc W bw => equalFunc_any a cap ss b dcap ds W (h.below bw) (hd.below bw) hl hdl hz hy hc
  clear h hd hz hy
  by_cases hc : CatP ss
  · have HQ : Hid (asB (ds.length = ss.length ∧ FitsUp ss ds ss.length) = asB (DatP ss ds)) := asB_iff ⟨fun h => ⟨hc, h⟩, fun h => h.2⟩
    have HE2 : Hid (∀ W, Below w.heap.size w W → Calls Tryz.prog 27 #[.slice a ss.length cap, .slice b ds.length dcap, .func (.func 28) #[] #[]] W fun e w' => e = .returned (.bool (asB (ds.length = ss.length ∧ FitsUp ss ds ss.length))) ∧ Below W.heap.size W w') := HE.out hc
    rw [← asB_true hc] at HC
    obtain ⟨q, hq⟩ : ∃ q, asB (ds.length = ss.length ∧ FitsUp ss ds ss.length) = q := ⟨_, rfl⟩
    rw [hq] at HE2 HQ
    clear HE hc hq
    go_enter Tryz.func10, Tryz.ntmps10
    go_wp2_with fail
    refine HC.mono ?_
    rintro e w1 ⟨rfl, b1⟩
    clear HC
    go_wp2_with fail
    refine (HE2.out _ b1).mono ?_
    rintro e w2 ⟨rfl, b2⟩
    have B2 := below_step b1 (Nat.le_refl _) b2
    go_wp2
    go_ret
    exact ⟨ret_bool' HQ.out, B2⟩
  · have HX : Hid (¬ DatP ss ds) := fun h => hc h.1
    rw [← asB_false hc] at HC
    clear HE hc
    go_enter Tryz.func10, Tryz.ntmps10
    go_wp2_with fail
    refine HC.mono ?_
    rintro e w1 ⟨rfl, b1⟩
    clear HC
    go_wp2
    go_ret
    exact ⟨ret_bool' (asB_false HX.out), b1⟩
end Go.Proofs.YtepkdodicglilaaGreat
