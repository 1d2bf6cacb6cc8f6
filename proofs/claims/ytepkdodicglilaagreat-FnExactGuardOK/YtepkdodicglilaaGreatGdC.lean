/- When a guard is right; impl's look at it (stage 15). -/
import Derived.Test.YtepkdodicglilaaGreatCkB
import Derived.Test.YtepkdodicglilaaGreatFtA
import Derived.Test.YtepkdodicglilaaGreatGdA
import Derived.Test.YtepkdodicglilaaGreatGdB
import Derived.BigQuiet
namespace Go.Proofs.YtepkdodicglilaaGreat
open Go.RowKit

/-- A column of these is a text. -/
def TextC (cs : List TC) (col : Int) : Prop := 0 ≤ col ∧ col < cs.length ∧ (nthC cs col.toNat).2.1 = 3
/-- Where the table of a name is. -/
abbrev atT (ss : List TT) (s : ByteArray) : Int := findN (nmT ss) s ss.length
/-- A guard is right. -/
def GrdP (ss : List TT) (nm : ByteArray) (col : Int) (ys : List TY) : Prop := CatP ss ∧ 0 ≤ atT ss nm ∧ TextC (nthT ss (atT ss nm).toNat).2.1 col ∧ ys.length ≤ 20 ∧ StepsP ys ys.length
theorem find_cases (f : Nat → ByteArray) (s : ByteArray) : ∀ n, findN f s n = -1 ∨ ∃ k : Nat, k < n ∧ findN f s n = k
  | 0 => .inl rfl
  | n + 1 => by
    unfold findN
    rcases find_cases f s n with h | ⟨k, hk, h⟩
    · rw [h, if_neg (by omega)]
      by_cases e : ((f n).toList == s.toList) = true
      · rw [if_pos e]; exact .inr ⟨n, by omega, rfl⟩
      · rw [if_neg e]; exact .inl rfl
    · rw [h, if_pos (by omega)]; exact .inr ⟨k, by omega, rfl⟩
theorem CatP.rise {ss : List TT} (h : CatP ss) : Rise (nmT ss) ss.length := fun j hj => by
  have := (h.2 (j + 1) hj).2 (by omega)
  rw [Nat.add_sub_cancel] at this
  exact this
theorem Calls.withLen {P : Nat → Prop} {n : Nat} (h : P n) : P n := h

set_option maxRecDepth 100000 in
set_option maxHeartbeats 4000000 in
theorem implGuardOK_any (nm : ByteArray) (col : Int) (ya : Option Addr) (yc : Nat) (ys : List TY) (a : Option Addr) (cap : Nat) (ss : List TT) (w : World) (hy : RowY w ya ys) (h : RowT w a ss) (ly : ys.length ≤ 1048576) (hl : ss.length ≤ 1048576) (hz : ∀ i, i < ss.length → SmallT (nthT ss i)) :
    Calls Tryz.prog 16 #[GdV nm col (.slice ya ys.length yc), .slice a ss.length cap] w fun e w' => e = .returned (.bool (asB (GrdP ss nm col ys))) ∧ Below w.heap.size w w' := by
  have HR : Hid (RowT w a ss ∧ RowY w ya ys) := ⟨h, hy⟩
  have HC : Hid (∀ W, Below w.heap.size w W → Calls Tryz.prog 26 #[.slice a ss.length cap] W fun e w' => e = .returned (.bool (asB (CatP ss))) ∧ Below W.heap.size W w') := fun W b => implCatalogOK_any a cap ss W (h.below b) hl hz
  have HF : Hid (CatP ss → ∀ W, Below w.heap.size w W → Calls Tryz.prog 35 #[.slice a ss.length cap, .string nm] W fun e w' => FtR ss nm ss.length W e w') := fun hc W b => findTable_any a cap ss.length ss nm W (h.below b) rfl (by have := hc.1; omega) hc.rise
  have HS : Hid (∀ W, Below w.heap.size w W → Calls Tryz.prog 36 #[.slice ya ys.length yc, .func (.func 37) #[] #[]] W fun e w' => e = .returned (.bool (asB (¬ StepsP ys ys.length))) ∧ Below W.heap.size W w') := fun W b => contY_any ya yc ys.length ys W (hy.below b) rfl ly
  have HZ : Hid (∀ i, i < ss.length → SmallT (nthT ss i)) := hz
  clear h hy hz
  obtain ⟨n, hn⟩ : ∃ n, ss.length = n := ⟨_, rfl⟩
  obtain ⟨m, hm⟩ : ∃ m, ys.length = m := ⟨_, rfl⟩
  have HN : Hid (ss.length = n ∧ ys.length = m) := ⟨hn, hm⟩
  have HP : Hid (GrdP ss nm col ys ↔ CatP ss ∧ 0 ≤ findN (nmT ss) nm n ∧ TextC (nthT ss (findN (nmT ss) nm n).toNat).2.1 col ∧ m ≤ 20 ∧ StepsP ys m) := by rw [← hn, ← hm]; exact Iff.rfl
  rw [hn] at HC HF hl ⊢
  rw [hm] at HS ly ⊢
  clear hn hm
  obtain ⟨W0, hW0⟩ : ∃ W0, w.alloc (.cells #[.string nm, .int .i64 col, .slice ya m yc] 41) = W0 := ⟨_, rfl⟩
  have B0 : Below w.heap.size w W0 := hW0 ▸ (Below.refl _ _).alloc (Nat.le_refl _) _
  have XB : Hid (W0.heap[w.heap.size]? = some (.cells #[.string nm, .int .i64 col, .slice ya m yc] 41 (0, 0))) := (hW0 ▸ heap_new' _ _ _ rfl : W0.heap[w.heap.size]? = _)
  have l0 : w.heap.size < W0.heap.size := by rw [← hW0]; simp
  have C0 : Hid (∀ {w1 : World}, Below W0.heap.size W0 w1 → w1.cell? ⟨w.heap.size, 0, none⟩ = some (.string nm) ∧ w1.cell? ⟨w.heap.size, 1, none⟩ = some (.int .i64 col) ∧ w1.cell? ⟨w.heap.size, 2, none⟩ = some (.slice ya m yc)) := fun {w1} b => by
    have e : w1.heap[w.heap.size]? = _ := (b.block _ l0).trans XB.out
    exact ⟨slab_cell e, slab_cell e, slab_cell e⟩
  go_enter Tryz.func16, Tryz.ntmps16
  go_wp2_with fail
  refine (HC.out _ B0).mono ?_
  rintro e w1 ⟨rfl, b1⟩
  have B1 := B0.trans (b1.mono B0.size)
  obtain ⟨q0, q1, q2⟩ := C0.out b1
  cases hok : asB (CatP ss) with
  | false =>
    have HX : Hid (¬ GrdP ss nm col ys) := fun h => asB_not hok (HP.out.1 h).1
    clear hok
    go_wp2
    go_ret
    exact ⟨ret_bool' (asB_false HX.out), B1⟩
  | true =>
  have HK : Hid (CatP ss) := asB_is hok
  clear hok
  by_cases h20 : 20 < m
  · have HX : Hid (¬ GrdP ss nm col ys) := fun h => by have := (HP.out.1 h).2.2.2.1; omega
    have h20I : (20 : Int) < (m : Int) := by omega
    go_wp2
    go_ret
    exact ⟨ret_bool' (asB_false HX.out), B1⟩
  have h20I : ¬ (20 : Int) < (m : Int) := by omega
  have HF2 : Hid (∀ W, Below w.heap.size w W → Calls Tryz.prog 35 #[.slice a n cap, .string nm] W fun e w' => FtR ss nm n W e w') := fun W b => HF.out HK.out W b
  clear HF
  go_wp2_with fail
  refine (HF2.out _ B1).mono ?_
  rintro e w2 ⟨k, rfl, hk, b2⟩
  have B2 := B1.trans (b2.mono B1.size)
  have bb := b1.trans (b2.mono b1.size)
  clear q0 q1 q2 b1 b2
  obtain ⟨q0, q1, q2⟩ := C0.out bb
  rcases find_cases (nmT ss) nm n with hT | ⟨t, ht, hT⟩
  · have HX : Hid (¬ GrdP ss nm col ys) := fun h => by have := (HP.out.1 h).2.1; omega
    have hd : decide (0 ≤ findN (nmT ss) nm n) = false := by simp; omega
    rw [hd]
    clear hk hT hd bb
    go_wp2_with fail
    go_quiet (fail)
    go_wp2
    go_ret
    exact ⟨ret_bool' (asB_false HX.out), below_drewN B2 _⟩
  have hkt : k = (t : Int) := by rw [hk (by omega), hT]
  have hd : decide (0 ≤ findN (nmT ss) nm n) = true := by simp; omega
  rw [hd]
  clear hd hk
  subst hkt
  obtain ⟨tb, to, ca, cc, xa, xc, rfl, hlb, ⟨p0, p1, p2, p3⟩, hcs, _⟩ := (HR.out.1.below B2) t (by rw [HN.out.1]; exact ht)
  have HQ : Hid (GrdP ss nm col ys ↔ TextC (nthT ss t).2.1 col ∧ StepsP ys m) := by
    rw [HP.out, hT]
    exact ⟨fun h => ⟨h.2.2.1, h.2.2.2.2⟩, fun h => ⟨HK.out, by omega, h.1, by omega, h.2⟩⟩
  have htn : (t : Int) < (n : Int) := by omega
  have HRc : Hid (RowC w2 ca (nthT ss t).2.1) := hcs
  have HLc : Hid ((nthT ss t).2.1.length ≤ 1048576) := (HZ.out t (by rw [HN.out.1]; exact ht)).2.1.1
  clear hT hcs HP
  generalize nthT ss t = x at *
  obtain ⟨nx, cs, ky, xs⟩ := x
  simp only at p0 p1 p2 p3 HQ HRc HLc
  obtain ⟨cl, hcl⟩ : ∃ cl, cs.length = cl := ⟨_, rfl⟩
  have HCL : Hid (cs.length = cl) := hcl
  rw [hcl] at p1
  have lcl : cl ≤ 1048576 := by have := HLc.out; omega
  clear hcl HLc
  by_cases hc0 : col < 0
  · have HX : Hid (¬ GrdP ss nm col ys) := fun h => by have := (HQ.out.1 h).1.1; omega
    clear HQ bb
    go_wp2_with fail
    go_quiet (fail)
    go_wp2
    go_ret
    exact ⟨ret_bool' (asB_false HX.out), below_drewN B2 _⟩
  have hc0b : decide (col < 0) = false := decide_eq_false hc0
  by_cases hc1 : (cl : Int) ≤ col
  · have HX : Hid (¬ GrdP ss nm col ys) := fun h => by have := (HQ.out.1 h).1.2.1; rw [HCL.out] at this; omega
    have hc1b : decide ((cl : Int) ≤ col) = true := decide_eq_true hc1
    clear HQ bb
    go_wp2_with fail
    go_quiet (fail)
    go_wp2
    go_ret
    exact ⟨ret_bool' (asB_false HX.out), below_drewN B2 _⟩
  obtain ⟨c, rfl⟩ : ∃ c : Nat, col = (c : Int) := ⟨col.toNat, by omega⟩
  have hcl2 : c < cl := by omega
  have hc1b : decide ((cl : Int) ≤ (c : Int)) = false := decide_eq_false hc1
  obtain ⟨cb, co, rfl, hlc, ⟨r0, r1, r2⟩, _⟩ := HRc.out c (by rw [HCL.out]; exact hcl2)
  have HQ2 : Hid (GrdP ss nm (c : Int) ys ↔ (nthC cs c).2.1 = 3 ∧ StepsP ys m) := by
    rw [HQ.out]
    unfold TextC
    rw [HCL.out]
    exact ⟨fun h => ⟨h.1.2.2, h.2⟩, fun h => ⟨⟨by omega, by omega, h.1⟩, h.2⟩⟩
  clear HQ
  generalize nthC cs c = y at *
  obtain ⟨ny, ty, uy⟩ := y
  simp only at r0 r1 r2 HQ2
  by_cases h3 : ty = 3
  · subst h3
    have HQ3 : Hid (GrdP ss nm (c : Int) ys ↔ StepsP ys m) := by rw [HQ2.out]; exact ⟨fun h => h.2, fun h => ⟨rfl, h⟩⟩
    clear HQ2
    go_wp2_with fail
    go_quiet (fail)
    rename_i nq
    have B2q : Below w.heap.size w (w2.drewN nq) := below_drewN B2 _
    go_wp2_with fail
    refine (HS.out _ B2q).mono ?_
    rintro e w3 ⟨rfl, b3⟩
    have B3 := B2q.trans (b3.mono B2q.size)
    have HE : Hid ((!asB (¬ StepsP ys m)) = asB (GrdP ss nm (c : Int) ys)) := by
      show _ = _
      by_cases hs : StepsP ys m
      · rw [← asB_true (HQ3.out.2 hs), ← asB_false (fun h => h hs)]; rfl
      · rw [← asB_false (fun h => hs (HQ3.out.1 h)), ← asB_true hs]; rfl
    clear HQ3
    generalize asB (¬ StepsP ys m) = b at *
    go_wp2
    go_ret
    exact ⟨ret_bool' HE.out, B3⟩
  · have HX : Hid (¬ GrdP ss nm (c : Int) ys) := fun h => h3 (HQ2.out.1 h).1
    have h3b : (ty != 3) = true := by simpa using h3
    clear HQ2
    go_wp2_with fail
    go_quiet (fail)
    go_wp2
    go_ret
    exact ⟨ret_bool' (asB_false HX.out), below_drewN B2 _⟩
end Go.Proofs.YtepkdodicglilaaGreat
