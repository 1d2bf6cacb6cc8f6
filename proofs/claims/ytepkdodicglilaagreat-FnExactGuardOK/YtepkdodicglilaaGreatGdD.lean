/- spec's look at a guard (stage 15). -/
import Derived.Test.YtepkdodicglilaaGreatGdC
namespace Go.Proofs.YtepkdodicglilaaGreat
open Go.RowKit

set_option maxRecDepth 100000 in
set_option maxHeartbeats 8000000 in
theorem specGuardOK_any (nm : ByteArray) (col : Int) (ya : Option Addr) (yc : Nat) (ys : List TY) (a : Option Addr) (cap : Nat) (ss : List TT) (w : World) (hy : RowY w ya ys) (h : RowT w a ss) (ly : ys.length ≤ 1048576) (hl : ss.length ≤ 1048576) (hz : ∀ i, i < ss.length → SmallT (nthT ss i)) :
    Calls Tryz.prog 14 #[GdV nm col (.slice ya ys.length yc), .slice a ss.length cap] w fun e w' => e = .returned (.bool (asB (GrdP ss nm col ys))) ∧ Below w.heap.size w w' := by
  have HR : Hid (RowT w a ss ∧ RowY w ya ys) := ⟨h, hy⟩
  have HC : Hid (∀ W, Below w.heap.size w W → Calls Tryz.prog 20 #[.slice a ss.length cap] W fun e w' => e = .returned (.bool (asB (CatP ss))) ∧ Below W.heap.size W w') := fun W b => specCatalogOK_any a cap ss W (h.below b) hl hz
  have HF : Hid (∀ W, Below w.heap.size w W → Calls Tryz.prog 32 #[.slice a ss.length cap, .string nm] W fun e w' => e = .returned (.int .i64 (findN (nmT ss) nm ss.length)) ∧ w' = W) := fun W b => l09Find_any a cap ss.length ss nm W (h.below b) rfl hl
  have HZ : Hid (∀ i, i < ss.length → SmallT (nthT ss i)) := hz
  clear h hy hz
  obtain ⟨n, hn⟩ : ∃ n, ss.length = n := ⟨_, rfl⟩
  obtain ⟨m, hm⟩ : ∃ m, ys.length = m := ⟨_, rfl⟩
  have HN : Hid (ss.length = n ∧ ys.length = m) := ⟨hn, hm⟩
  have HP : Hid (GrdP ss nm col ys ↔ CatP ss ∧ 0 ≤ findN (nmT ss) nm n ∧ TextC (nthT ss (findN (nmT ss) nm n).toNat).2.1 col ∧ m ≤ 20 ∧ StepsP ys m) := by rw [← hn, ← hm]; exact Iff.rfl
  rw [hn] at HC HF hl ⊢
  rw [hm] at ly ⊢
  clear hn hm
  obtain ⟨W0, hW0⟩ : ∃ W0, w.alloc (.cells #[.string nm, .int .i64 col, .slice ya m yc] 41) = W0 := ⟨_, rfl⟩
  have B0 : Below w.heap.size w W0 := hW0 ▸ (Below.refl _ _).alloc (Nat.le_refl _) _
  have XB : Hid (W0.heap[w.heap.size]? = some (.cells #[.string nm, .int .i64 col, .slice ya m yc] 41 (0, 0))) := (hW0 ▸ heap_new' _ _ _ rfl : W0.heap[w.heap.size]? = _)
  have l0 : w.heap.size < W0.heap.size := by rw [← hW0]; simp
  have C0 : Hid (∀ {w1 : World}, Below W0.heap.size W0 w1 → w1.cell? ⟨w.heap.size, 0, none⟩ = some (.string nm) ∧ w1.cell? ⟨w.heap.size, 1, none⟩ = some (.int .i64 col) ∧ w1.cell? ⟨w.heap.size, 2, none⟩ = some (.slice ya m yc)) := fun {w1} b => by
    have e : w1.heap[w.heap.size]? = _ := (b.block _ l0).trans XB.out
    exact ⟨slab_cell e, slab_cell e, slab_cell e⟩
  obtain ⟨q0, q1, q2⟩ := C0.out (Below.refl _ _)
  by_cases hbig : (4096 : Int) < (n : Int)
  · have HX : Hid (¬ GrdP ss nm col ys) := fun h => by have := (HP.out.1 h).1.1; rw [HN.out.1] at this; omega
    go_enter Tryz.func14, Tryz.ntmps14
    go_wp2
    go_ret
    exact ⟨ret_bool' (asB_false HX.out), B0⟩
  go_enter Tryz.func14, Tryz.ntmps14
  go_wp2_with fail
  refine (HF.out _ B0).mono ?_
  rintro e w1 ⟨rfl, hq⟩
  obtain rfl := hq.symm
  have HC2 : Hid (∀ W, Below W0.heap.size W0 W → Calls Tryz.prog 20 #[.slice a n cap] W fun e w' => e = .returned (.bool (asB (CatP ss))) ∧ Below W.heap.size W w') := fun W b => HC.out W (B0.trans (b.mono B0.size))
  have HI : Hid (∀ W, Calls Tryz.prog 33 #[.int .i64 col, .int .i64 0, .int .i64 0] W fun e w' => e = .returned (.bool (inB col 0 0)) ∧ w' = W) := fun W => l01In_any _ _ _ _
  have HP0 : Hid (Below W0.heap.size W0 W0.drew) := (Below.refl _ _).drew
  clear HC HF
  cases hok : asB (CatP ss) with
  | false =>
    have HX : Hid (¬ GrdP ss nm col ys) := fun h => asB_not hok (HP.out.1 h).1
    rw [hok] at HC2
    clear hok q0 q1 q2
    go_wp2_with fail
    refine wp_region_class (C := fun w' => Below W0.heap.size W0 w') (by kernel_rfl) (by kernel_rfl) HP0.out ?_
    repeat (first | go_big_quiet_skip | (go_big_quiet_want; apply Exists.intro; refine ⟨?_, ?_⟩; (focus (intro w' hw'; first | (have m0 := (C0.out hw').1; have m1 := (C0.out hw').2.1; have m2 := (C0.out hw').2.2; go_simp; with_reducible rfl) | (go_simp; refine (HC2.out w' hw').mono ?_; rintro e w'' ⟨rfl, hb⟩; exact ⟨rfl, below_step hw' (Nat.le_refl _) hb⟩) | (go_simp; refine (HI.out w').mono ?_; rintro e w'' ⟨rfl, hq⟩; obtain rfl := hq.symm; exact ⟨rfl, hw'⟩))); (try simp only [Act.put, List.setIfInBounds_toArray, List.set_cons_zero, List.set_cons_succ]); go_big_quiet_on))
    refine wpQuiet_nil ?_
    intro w2 hw2
    have B2 := B0.trans (hw2.mono B0.size)
    go_wp2
    go_ret
    exact ⟨ret_bool' (asB_false HX.out), B2⟩
  | true =>
  have HK : Hid (CatP ss) := asB_is hok
  rw [hok] at HC2
  clear hok
  rcases find_cases (nmT ss) nm n with hT | ⟨t, ht, hT⟩
  · have HX : Hid (¬ GrdP ss nm col ys) := fun h => by have := (HP.out.1 h).2.1; omega
    rw [hT]
    clear hT q0 q1 q2
    go_wp2_with fail
    refine wp_region_class (C := fun w' => Below W0.heap.size W0 w') (by kernel_rfl) (by kernel_rfl) HP0.out ?_
    repeat (first | go_big_quiet_skip | (go_big_quiet_want; apply Exists.intro; refine ⟨?_, ?_⟩; (focus (intro w' hw'; first | (have m0 := (C0.out hw').1; have m1 := (C0.out hw').2.1; have m2 := (C0.out hw').2.2; go_simp; with_reducible rfl) | (go_simp; refine (HC2.out w' hw').mono ?_; rintro e w'' ⟨rfl, hb⟩; exact ⟨rfl, below_step hw' (Nat.le_refl _) hb⟩) | (go_simp; refine (HI.out w').mono ?_; rintro e w'' ⟨rfl, hq⟩; obtain rfl := hq.symm; exact ⟨rfl, hw'⟩))); (try simp only [Act.put, List.setIfInBounds_toArray, List.set_cons_zero, List.set_cons_succ]); go_big_quiet_on))
    refine wpQuiet_nil ?_
    intro w2 hw2
    have B2 := B0.trans (hw2.mono B0.size)
    go_wp2
    go_ret
    exact ⟨ret_bool' (asB_false HX.out), B2⟩
  obtain ⟨tb, to, ca, cc, xa, xc, rfl, hlb, ⟨p0, p1, p2, p3⟩, hcs, _⟩ := (HR.out.1.below B0) t (by rw [HN.out.1]; exact ht)
  have HQ : Hid (GrdP ss nm col ys ↔ TextC (nthT ss t).2.1 col ∧ m ≤ 20 ∧ StepsP ys m) := by
    rw [HP.out, hT]
    exact ⟨fun h => ⟨h.2.2.1, h.2.2.2.1, h.2.2.2.2⟩, fun h => ⟨HK.out, by omega, h.1, h.2.1, h.2.2⟩⟩
  rw [hT]
  have htn : (t : Int) < (n : Int) := by omega
  have HRc : Hid (RowC W0 ca (nthT ss t).2.1) := hcs
  have HLc : Hid ((nthT ss t).2.1.length ≤ 1048576) := (HZ.out t (by rw [HN.out.1]; exact ht)).2.1.1
  clear hT hcs HP HI
  generalize nthT ss t = x at *
  obtain ⟨nx, cs, ky, xs⟩ := x
  simp only at p0 p1 p2 p3 HQ HRc HLc
  obtain ⟨cl, hcl⟩ : ∃ cl, cs.length = cl := ⟨_, rfl⟩
  have HCL : Hid (cs.length = cl) := hcl
  rw [hcl] at p1
  have lcl : cl ≤ 1048576 := by have := HLc.out; omega
  have hnt : decide ((t : Int) < 0) = false := decide_eq_false (by omega)
  have hwp : IntKind.i64.wrap ((cl : Int) - 1) = (cl : Int) - 1 := wrap_pred lcl
  have hwt : IntKind.i64.wrap (t : Int) = (t : Int) := wrap_nat (by omega)
  have HI : Hid (∀ W, Calls Tryz.prog 33 #[.int .i64 col, .int .i64 0, .int .i64 ((cl : Int) - 1)] W fun e w' => e = .returned (.bool (inB col 0 ((cl : Int) - 1))) ∧ w' = W) := fun W => l01In_any _ _ _ _
  clear hcl HLc p0 p2 p3
  cases hin : inB col 0 ((cl : Int) - 1) with
  | false =>
    have HX : Hid (¬ GrdP ss nm col ys) := fun h => by
      have h1 := (HQ.out.1 h).1.1
      have h2 := (HQ.out.1 h).1.2.1
      rw [HCL.out] at h2
      unfold inB at hin
      simp at hin
      omega
    rw [hin] at HI
    clear HQ hin q0 q1 q2
    go_wp2_with fail
    refine wp_region_class (C := fun w' => Below W0.heap.size W0 w') (by kernel_rfl) (by kernel_rfl) HP0.out ?_
    repeat (first | go_big_quiet_skip | (go_big_quiet_want; apply Exists.intro; refine ⟨?_, ?_⟩; (focus (intro w' hw'; first | (have m0 := (C0.out hw').1; have m1 := (C0.out hw').2.1; have m2 := (C0.out hw').2.2; have m3 := (hw'.cell (p := ⟨tb, to + t * 4 + 1, none⟩) hlb).trans p1; go_simp; with_reducible rfl) | (go_simp; refine (HC2.out w' hw').mono ?_; rintro e w'' ⟨rfl, hb⟩; exact ⟨rfl, below_step hw' (Nat.le_refl _) hb⟩) | (go_simp; refine (HI.out w').mono ?_; rintro e w'' ⟨rfl, hq⟩; obtain rfl := hq.symm; exact ⟨rfl, hw'⟩))); (try simp only [Act.put, List.setIfInBounds_toArray, List.set_cons_zero, List.set_cons_succ]); go_big_quiet_on))
    refine wpQuiet_nil ?_
    intro w2 hw2
    have B2 := B0.trans (hw2.mono B0.size)
    go_wp2
    go_ret
    exact ⟨ret_bool' (asB_false HX.out), B2⟩
  | true =>
  have hcb : 0 ≤ col ∧ col < cl := by unfold inB at hin; simp at hin; omega
  rw [hin] at HI
  clear hin
  obtain ⟨c, rfl⟩ : ∃ c : Nat, col = (c : Int) := ⟨col.toNat, by omega⟩
  have hcl2 : c < cl := by omega
  have hcl3 : (c : Int) < (cl : Int) := by omega
  have hwc : IntKind.i64.wrap (c : Int) = (c : Int) := wrap_nat (by omega)
  obtain ⟨cb, co, rfl, hlc, ⟨r0, r1, r2⟩, _⟩ := HRc.out c (by rw [HCL.out]; exact hcl2)
  have HQ2 : Hid (GrdP ss nm (c : Int) ys ↔ (nthC cs c).2.1 = 3 ∧ m ≤ 20 ∧ StepsP ys m) := by
    rw [HQ.out]
    unfold TextC
    rw [HCL.out]
    exact ⟨fun h => ⟨h.1.2.2, h.2⟩, fun h => ⟨⟨by omega, by omega, h.1⟩, h.2⟩⟩
  clear HQ hcb
  generalize nthC cs c = y at *
  obtain ⟨ny, ty, uy⟩ := y
  simp only at r0 r1 r2 HQ2
  clear r0 r2
  by_cases h3 : ty = 3
  · subst h3
    by_cases h20 : (20 : Int) < (m : Int)
    · have HX : Hid (¬ GrdP ss nm (c : Int) ys) := fun h => by have := (HQ2.out.1 h).2.1; omega
      have h20b : decide ((20 : Int) < (m : Int)) = true := decide_eq_true h20
      clear HQ2 q0 q1 q2
      go_wp2_with fail
      refine wp_region_class (C := fun w' => Below W0.heap.size W0 w') (by kernel_rfl) (by kernel_rfl) HP0.out ?_
      repeat (first | go_big_quiet_skip | (go_big_quiet_want; apply Exists.intro; refine ⟨?_, ?_⟩; (focus (intro w' hw'; first | (have m0 := (C0.out hw').1; have m1 := (C0.out hw').2.1; have m2 := (C0.out hw').2.2; have m3 := (hw'.cell (p := ⟨tb, to + t * 4 + 1, none⟩) hlb).trans p1; have m4 := (hw'.cell (p := ⟨cb, co + c * 3 + 1, none⟩) hlc).trans r1; go_simp; with_reducible rfl) | (go_simp; refine (HC2.out w' hw').mono ?_; rintro e w'' ⟨rfl, hb⟩; exact ⟨rfl, below_step hw' (Nat.le_refl _) hb⟩) | (go_simp; refine (HI.out w').mono ?_; rintro e w'' ⟨rfl, hq⟩; obtain rfl := hq.symm; exact ⟨rfl, hw'⟩))); (try simp only [Act.put, List.setIfInBounds_toArray, List.set_cons_zero, List.set_cons_succ]); go_big_quiet_on))
      refine wpQuiet_nil ?_
      intro w2 hw2
      have B2 := B0.trans (hw2.mono B0.size)
      go_wp2
      go_ret
      exact ⟨ret_bool' (asB_false HX.out), B2⟩
    have h20b : decide ((20 : Int) < (m : Int)) = false := decide_eq_false h20
    have HQ3 : Hid (GrdP ss nm (c : Int) ys ↔ StepsP ys m) := by rw [HQ2.out]; exact ⟨fun h => h.2.2, fun h => ⟨rfl, by omega, h⟩⟩
    clear HQ2 q0 q1 q2
    go_wp2_with fail
    refine wp_region_class (C := fun w' => Below W0.heap.size W0 w') (by kernel_rfl) (by kernel_rfl) HP0.out ?_
    repeat (first | go_big_quiet_skip | (go_big_quiet_want; apply Exists.intro; refine ⟨?_, ?_⟩; (focus (intro w' hw'; first | (have m0 := (C0.out hw').1; have m1 := (C0.out hw').2.1; have m2 := (C0.out hw').2.2; have m3 := (hw'.cell (p := ⟨tb, to + t * 4 + 1, none⟩) hlb).trans p1; have m4 := (hw'.cell (p := ⟨cb, co + c * 3 + 1, none⟩) hlc).trans r1; go_simp; with_reducible rfl) | (go_simp; refine (HC2.out w' hw').mono ?_; rintro e w'' ⟨rfl, hb⟩; exact ⟨rfl, below_step hw' (Nat.le_refl _) hb⟩) | (go_simp; refine (HI.out w').mono ?_; rintro e w'' ⟨rfl, hq⟩; obtain rfl := hq.symm; exact ⟨rfl, hw'⟩))); (try simp only [Act.put, List.setIfInBounds_toArray, List.set_cons_zero, List.set_cons_succ]); go_big_quiet_on))
    refine wpQuiet_nil ?_
    intro w2 hw2
    have B2 := B0.trans (hw2.mono B0.size)
    clear HC2 HI HP0 HRc r1 p1
    obtain ⟨q0, q1, q2⟩ := C0.out hw2
    go_wp2
    go_loopw [6] (fun i wr => ∃ k : Nat, k ≤ m ∧ i = .int .i64 k ∧ Hid (StepsP ys k) ∧ Below w2.heap.size w2 wr) (fun i _ => m - (intOf i).toNat)
    case atStart => exact ⟨0, by omega, rfl, fun j hj => by omega, Below.refl _ _⟩
    case round =>
      obtain ⟨k, hk, rfl, HA, hbl⟩ := hrel
      have BR := B2.trans (hbl.mono B2.size)
      clear q0 q1 q2
      obtain ⟨q0, q1, q2⟩ := C0.out (hw2.trans (hbl.mono hw2.size))
      by_cases hlt : k < m
      · have hltI : (k : Int) < (m : Int) := by omega
        obtain ⟨b, off, rfl, hlb2, ⟨s0, s1⟩, z0, z1⟩ := (HR.out.2.below BR) k (by rw [HN.out.2]; exact hlt)
        have HH : Hid (GrdP ss nm (c : Int) ys → StepP (nthY ys k)) := fun h => HQ3.out.1 h k hlt
        have HG : Hid (StepP (nthY ys k) → StepsP ys (k + 1)) := fun h => HA.out.next h
        unfold maxLen at z0 z1
        generalize nthY ys k = y at *
        obtain ⟨kx, vx⟩ := y
        simp only at s0 s1 z0 z1
        by_cases d1 : (60 : Int) < (kx.size : Int)
        · have HX : Hid (¬ GrdP ss nm (c : Int) ys) := fun h => by have h' : kx.size ≤ 60 := (HH.out h).1; omega
          go_wp2
          go_ret
          exact ⟨ret_bool' (asB_false HX.out), BR⟩
        by_cases d2 : (60 : Int) < (vx.size : Int)
        · have HX : Hid (¬ GrdP ss nm (c : Int) ys) := fun h => by have h' : vx.size ≤ 60 := (HH.out h).2; omega
          go_wp2
          go_ret
          exact ⟨ret_bool' (asB_false HX.out), BR⟩
        · have HT : Hid (StepsP ys (k + 1)) := HG.out ⟨by show kx.size ≤ 60; omega, by show vx.size ≤ 60; omega⟩
          go_wp2
          go_roundw
          case rel => exact ⟨k + 1, by omega, by go_num, HT, hbl⟩
          case measure => simp [intOf]; omega
      · obtain rfl : k = m := by omega
        have HT : Hid (GrdP ss nm (c : Int) ys) := HQ3.out.2 HA.out
        go_wp2
        go_ret
        exact ⟨ret_bool' (asB_true HT.out), BR⟩
  · have HX : Hid (¬ GrdP ss nm (c : Int) ys) := fun h => h3 (HQ2.out.1 h).1
    have h3b : (ty != 3) = true := by simpa using h3
    clear HQ2 q0 q1 q2
    go_wp2_with fail
    refine wp_region_class (C := fun w' => Below W0.heap.size W0 w') (by kernel_rfl) (by kernel_rfl) HP0.out ?_
    repeat (first | go_big_quiet_skip | (go_big_quiet_want; apply Exists.intro; refine ⟨?_, ?_⟩; (focus (intro w' hw'; first | (have m0 := (C0.out hw').1; have m1 := (C0.out hw').2.1; have m2 := (C0.out hw').2.2; have m3 := (hw'.cell (p := ⟨tb, to + t * 4 + 1, none⟩) hlb).trans p1; have m4 := (hw'.cell (p := ⟨cb, co + c * 3 + 1, none⟩) hlc).trans r1; go_simp; with_reducible rfl) | (go_simp; refine (HC2.out w' hw').mono ?_; rintro e w'' ⟨rfl, hb⟩; exact ⟨rfl, below_step hw' (Nat.le_refl _) hb⟩) | (go_simp; refine (HI.out w').mono ?_; rintro e w'' ⟨rfl, hq⟩; obtain rfl := hq.symm; exact ⟨rfl, hw'⟩))); (try simp only [Act.put, List.setIfInBounds_toArray, List.set_cons_zero, List.set_cons_succ]); go_big_quiet_on))
    refine wpQuiet_nil ?_
    intro w2 hw2
    have B2 := B0.trans (hw2.mono B0.size)
    go_wp2
    go_ret
    exact ⟨ret_bool' (asB_false HX.out), B2⟩
end Go.Proofs.YtepkdodicglilaaGreat
