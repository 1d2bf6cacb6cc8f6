/- Spec's look at a base (stage 7). -/
import Derived.Test.YtmkagolechjjkaaVrI
import Derived.Test.YtmkagolechjjkaaVrJ
namespace Go.Proofs.Ytmkagolechjjkaa
open Go.RowKit

abbrev StX (W : World) (bx b o : Nat) (wa : Option Addr) (wc : Nat) (x : TX) (t : Int) (sv : Value) (w' : World) : Prop := CellX w' b o wa wc x ∧ w'.cell? ⟨bx, 0, none⟩ = some (.int .i64 t) ∧ w'.cell? ⟨bx, 2, none⟩ = some sv ∧ b < w'.heap.size ∧ bx < w'.heap.size ∧ Below W.heap.size W w'
theorem StX.keep {W : World} {bx b o : Nat} {wa : Option Addr} {wc : Nat} {x : TX} {t : Int} {sv : Value} {w1 w2 : World} (h : StX W bx b o wa wc x t sv w1) (hb : Below w1.heap.size w1 w2) : StX W bx b o wa wc x t sv w2 :=
  ⟨h.1.below h.2.2.2.1 hb, (hb.cell (p := ⟨bx, 0, none⟩) h.2.2.2.2.1).trans h.2.1, (hb.cell (p := ⟨bx, 2, none⟩) h.2.2.2.2.1).trans h.2.2.1, Nat.lt_of_lt_of_le h.2.2.2.1 hb.size, Nat.lt_of_lt_of_le h.2.2.2.2.1 hb.size, below_step h.2.2.2.2.2 (Nat.le_refl _) hb⟩
set_option maxRecDepth 100000 in
set_option maxHeartbeats 8000000 in
theorem specBaseOK_any (t : Int) (va xa : Option Addr) (vc xc : Nat) (vs : List TV) (xs : List TX) (w : World) (hv : RowV w va vs) (hx : RowX w xa xs) (lv : vs.length ≤ 1048576) (hz : ∀ i, i < xs.length → SmallX (nthX xs i)) :
    Calls Try.prog 14 #[BW t (.slice va vs.length vc) (.slice xa xs.length xc)] w fun e w' => e = .returned (.bool (asB (BaseP t vs xs))) ∧ Below w.heap.size w w' := by
  have HV : Hid (RowV w va vs) := hv
  have HX : Hid (RowX w xa xs) := hx
  have HZ : Hid (∀ i, i < xs.length → SmallX (nthX xs i)) := hz
  clear hv hx hz
  obtain ⟨W0, hW0⟩ : ∃ W0, w.alloc (.cells #[.int .i64 t, .slice va vs.length vc, .slice xa xs.length xc] 25) = W0 := ⟨_, rfl⟩
  have B0 : Below w.heap.size w W0 := hW0 ▸ (Below.refl _ _).alloc (Nat.le_refl _) _
  have xb : W0.heap[w.heap.size]? = some (.cells #[.int .i64 t, .slice va vs.length vc, .slice xa xs.length xc] 25 (0, 0)) := by rw [← hW0]; exact heap_new' _ _ _ rfl
  have XB : Hid (W0.heap[w.heap.size]? = some (.cells #[.int .i64 t, .slice va vs.length vc, .slice xa xs.length xc] 25 (0, 0))) := xb
  have c0 : W0.cell? ⟨w.heap.size, 0, none⟩ = some (.int .i64 t) := by simp [World.cell?, xb]
  have c1 : W0.cell? ⟨w.heap.size, 1, none⟩ = some (.slice va vs.length vc) := by simp [World.cell?, xb]
  have c2 : W0.cell? ⟨w.heap.size, 2, none⟩ = some (.slice xa xs.length xc) := by simp [World.cell?, xb]
  clear xb
  have HI : Hid (inB t 0 2000 = decide (0 ≤ t ∧ t ≤ 2000)) := rfl
  have hin : inB t 0 2000 = true ∨ inB t 0 2000 = false := by cases inB t 0 2000 <;> simp
  rcases hin with hin | hin
  case inr =>
    have HF : Hid (¬ BaseP t vs xs) := fun h => by have h1 := h.1; have h2 := h.2.1; rw [HI.out] at hin; have := of_decide_eq_false hin; omega
    clear HI
    go_enter Try.func14, Try.ntmps14
    go_wp2_with fail
    refine (l01In_any t 0 2000 W0).mono ?_
    rintro e w1 ⟨rfl, hq⟩
    obtain rfl := hq.symm
    rw [hin]
    go_wp2
    go_ret
    exact ⟨ret_bool' (asB_false HF.out), B0⟩

  have h12 : 0 ≤ t ∧ t ≤ 2000 := by rw [HI.out] at hin; exact of_decide_eq_true hin
  have h1 := h12.1
  have h2 := h12.2
  clear h12 HI
  by_cases h3 : (4096 : Int) < (vs.length : Int)
  · have HF : Hid (¬ BaseP t vs xs) := fun h => by have := h.2.2.1; omega
    go_enter Try.func14, Try.ntmps14
    go_wp2_with fail
    refine (l01In_any t 0 2000 W0).mono ?_
    rintro e w1 ⟨rfl, hq⟩
    obtain rfl := hq.symm
    rw [hin]
    go_wp2
    go_ret
    exact ⟨ret_bool' (asB_false HF.out), B0⟩

  by_cases h4 : (xs.length : Int) = 4
  case neg =>
    have HF : Hid (¬ BaseP t vs xs) := fun h => by have := h.2.2.2.1; omega
    have h4' : ((xs.length : Int) != 4) = true := by simpa using h4
    have h3' : decide ((4096 : Int) < (vs.length : Int)) = false := by simpa using h3
    go_enter Try.func14, Try.ntmps14
    go_wp2_with fail
    refine (l01In_any t 0 2000 W0).mono ?_
    rintro e w1 ⟨rfl, hq⟩
    obtain rfl := hq.symm
    rw [hin]
    go_wp2
    go_ret
    exact ⟨ret_bool' (asB_false HF.out), B0⟩

  have h4n : xs.length = 4 := by omega
  obtain ⟨len, hlen⟩ : ∃ m, vs.length = m := ⟨_, rfl⟩
  have HL : Hid (vs.length = len) := hlen
  have H4 : Hid (xs.length = 4) := h4n
  have HT : Hid (BaseP t vs xs ↔ VrsP vs t len ∧ TxsP xs t 4) := ⟨fun h => ⟨by rw [← hlen]; exact h.2.2.2.2.1, h.2.2.2.2.2⟩, fun h => ⟨by omega, by omega, by omega, h4n, by rw [hlen]; exact h.1, h.2⟩⟩
  rw [hlen] at h3 c1 lv hW0 XB ⊢
  rw [h4n] at c2 hW0 XB ⊢
  clear hlen h4n h4
  go_enter Try.func14, Try.ntmps14
  go_wp2_with fail
  refine (l01In_any t 0 2000 W0).mono ?_
  rintro e w1 ⟨rfl, hq⟩
  obtain rfl := hq.symm
  rw [hin]
  clear hin
  go_wp2
  go_loopw [3] (fun i wr => ∃ k : Nat, k ≤ len ∧ i = .int .i64 k ∧ Hid (VrsP vs t k) ∧ Below W0.heap.size W0 wr) (fun i _ => len - (intOf i).toNat)
  case atStart => exact ⟨0, by omega, rfl, fun i hi => by omega, Below.refl _ _⟩
  case round =>
    obtain ⟨k, hk, rfl, HS, hbl⟩ := hrel
    have hB := B0.trans (hbl.mono B0.size)
    clear c0 c1 c2 hW0
    have xb := kpBlk XB.out hbl (slab_lt XB.out)
    have cS : wr.cell? ⟨w.heap.size, 1, none⟩ = some (.slice va len vc) := slab_cell xb
    by_cases hlt : k < len
    · have hltI : (k : Int) < (len : Int) := by omega
      obtain ⟨b, off, rfl, hlb, ⟨q0, q1, q2, q3⟩, z1, z2⟩ := (HV.out.below hB) k (by rw [HL.out]; exact hlt)
      have HA : Hid (∀ x, x = nthV vs k → VerP x t → (0 < k → BehP x (nthV vs (k - 1))) → VrsP vs t (k + 1)) := fun x e h1 h2 => HS.out.next (e ▸ h1) (e ▸ h2)
      have HY : Hid (∀ x, x = nthV vs k → (¬ VerP x t ∨ (0 < k ∧ ¬ BehP x (nthV vs (k - 1)))) → ¬ BaseP t vs xs) := fun x e h hh => by
        subst e
        have := (HT.out.1 hh).1 k hlt
        exact h.elim (fun h => h this.1) (fun h => h.2 (this.2 h.1))
      obtain ⟨x, hx⟩ : ∃ x, x = nthV vs k := ⟨_, rfl⟩
      have HE : Hid (x = nthV vs k) := hx
      rw [← hx] at q0 q1 q2 q3 z1 z2
      clear hx
      obtain ⟨kx, bx, ex, vx⟩ := x
      simp only at q0 q1 q2 q3 z1 z2
      have HAA : Hid (VerP (kx, bx, ex, vx) t → (0 < k → BehP (kx, bx, ex, vx) (nthV vs (k - 1))) → VrsP vs t (k + 1)) := HA.out _ HE.out
      have HYY : Hid ((¬ VerP (kx, bx, ex, vx) t ∨ (0 < k ∧ ¬ BehP (kx, bx, ex, vx) (nthV vs (k - 1)))) → ¬ BaseP t vs xs) := HY.out _ HE.out
      clear HA HY HE
      obtain ⟨W1, hW1⟩ : ∃ W1, wr.alloc (.cells #[.string kx, .int .i64 bx, .int .i64 ex, .string vx] 57) = W1 := ⟨_, rfl⟩
      have b1 : Below wr.heap.size wr W1 := hW1 ▸ (Below.refl _ _).alloc (Nat.le_refl _) _
      have yb : W1.heap[wr.heap.size]? = some (.cells #[.string kx, .int .i64 bx, .int .i64 ex, .string vx] 57 (0, 0)) := hW1 ▸ heap_new' _ _ _ rfl
      have zb := kpBlk xb b1 (slab_lt xb)
      have y0 : W1.cell? ⟨wr.heap.size, 0, none⟩ = some (.string kx) := slab_cell yb
      have y1 : W1.cell? ⟨wr.heap.size, 1, none⟩ = some (.int .i64 bx) := slab_cell yb
      have y2 : W1.cell? ⟨wr.heap.size, 2, none⟩ = some (.int .i64 ex) := slab_cell yb
      have y3 : W1.cell? ⟨wr.heap.size, 3, none⟩ = some (.string vx) := slab_cell yb
      have y4 : W1.cell? ⟨w.heap.size, 0, none⟩ = some (.int .i64 t) := slab_cell zb
      have y5 : W1.cell? ⟨w.heap.size, 1, none⟩ = some (.slice (some ⟨b, off, none⟩) len vc) := slab_cell zb
      have HB1 : Hid (Below W0.heap.size W0 W1) := below_step hbl (Nat.le_refl _) b1
      clear xb yb zb
      have z2' := z2
      unfold maxLen at z2'
      -- what the one test says
      by_cases hver : VerP (kx, bx, ex, vx) t
      case neg =>
        have HF : Hid (¬ BaseP t vs xs) := HYY.out (.inl hver)
        clear HAA HYY b1
        cases hok : asB (KeyP kx) with
        | false =>
          go_wp2_with fail
          refine (l07Key_any kx W1 z1).mono ?_
          rintro e w1 ⟨rfl, hq⟩
          obtain rfl := hq.symm
          rw [hok]
          go_wp2
          go_ret
          exact ⟨ret_bool' (asB_false HF.out), B0.trans (HB1.out.mono B0.size)⟩

        | true =>
          have hK := asB_is hok
          have hi1' : inB bx 1 t = true ∨ inB bx 1 t = false := by cases inB bx 1 t <;> simp
          rcases hi1' with hi1 | hi1
          case inr =>
            go_wp2_with fail
            refine (l07Key_any kx W1 z1).mono ?_
            rintro e w1 ⟨rfl, hq⟩
            obtain rfl := hq.symm
            rw [hok]
            go_wp2_with fail
            refine (l01In_any bx 1 t W1).mono ?_
            rintro e w1 ⟨rfl, hq⟩
            obtain rfl := hq.symm
            rw [hi1]
            go_wp2
            go_ret
            exact ⟨ret_bool' (asB_false HF.out), B0.trans (HB1.out.mono B0.size)⟩

          have hbt : 1 ≤ bx ∧ bx ≤ t := of_decide_eq_true hi1
          by_cases he0 : ex = 0
          · subst he0
            have h200 : (200 : Int) < (vx.size : Int) := by
              refine Int.not_le.1 fun h => hver ⟨hK, by simp only; omega, hbt.1, hbt.2, .inl rfl⟩
            go_wp2_with fail
            refine (l07Key_any kx W1 z1).mono ?_
            rintro e w1 ⟨rfl, hq⟩
            obtain rfl := hq.symm
            rw [hok]
            go_wp2_with fail
            refine (l01In_any bx 1 t W1).mono ?_
            rintro e w1 ⟨rfl, hq⟩
            obtain rfl := hq.symm
            rw [hi1]
            go_wp2
            go_ret
            exact ⟨ret_bool' (asB_false HF.out), B0.trans (HB1.out.mono B0.size)⟩

          have he0' : (ex == 0) = false := by simpa using he0
          have hi2' : inB ex (bx + 1) t = true ∨ inB ex (bx + 1) t = false := by cases inB ex (bx + 1) t <;> simp
          have hw1 : IntKind.i64.wrap (bx + 1) = bx + 1 := by simp [IntKind.wrap, IntKind.signed, IntKind.bits]; omega
          rcases hi2' with hi2 | hi2
          · have het : bx + 1 ≤ ex ∧ ex ≤ t := of_decide_eq_true hi2
            have h200 : (200 : Int) < (vx.size : Int) := by
              refine Int.not_le.1 fun h => hver ⟨hK, by simp only; omega, hbt.1, hbt.2, .inr ⟨by simp only; omega, het.2⟩⟩
            go_wp2_with fail
            refine (l07Key_any kx W1 z1).mono ?_
            rintro e w1 ⟨rfl, hq⟩
            obtain rfl := hq.symm
            rw [hok]
            go_wp2_with fail
            refine (l01In_any bx 1 t W1).mono ?_
            rintro e w1 ⟨rfl, hq⟩
            obtain rfl := hq.symm
            rw [hi1]
            go_wp2_with fail
            refine (l01In_any ex (bx + 1) t W1).mono ?_
            rintro e w1 ⟨rfl, hq⟩
            obtain rfl := hq.symm
            rw [hi2]
            go_wp2
            go_ret
            exact ⟨ret_bool' (asB_false HF.out), B0.trans (HB1.out.mono B0.size)⟩

          · go_wp2_with fail
            refine (l07Key_any kx W1 z1).mono ?_
            rintro e w1 ⟨rfl, hq⟩
            obtain rfl := hq.symm
            rw [hok]
            go_wp2_with fail
            refine (l01In_any bx 1 t W1).mono ?_
            rintro e w1 ⟨rfl, hq⟩
            obtain rfl := hq.symm
            rw [hi1]
            go_wp2_with fail
            refine (l01In_any ex (bx + 1) t W1).mono ?_
            rintro e w1 ⟨rfl, hq⟩
            obtain rfl := hq.symm
            rw [hi2]
            go_wp2
            go_ret
            exact ⟨ret_bool' (asB_false HF.out), B0.trans (HB1.out.mono B0.size)⟩

      obtain ⟨hK, hv2, hb1, hb2, hee⟩ := hver
      have HK : Hid (VerP (kx, bx, ex, vx) t) := ⟨hK, hv2, hb1, hb2, hee⟩
      have hok : asB (KeyP kx) = true := (asB_true hK).symm
      have hi1 : inB bx 1 t = true := decide_eq_true ⟨hb1, hb2⟩
      simp only at hv2 hb1 hb2 hee
      have h200 : decide ((200 : Int) < (vx.size : Int)) = false := by simp; omega
      have hw1 : IntKind.i64.wrap (bx + 1) = bx + 1 := by simp [IntKind.wrap, IntKind.signed, IntKind.bits]; omega
      clear hK
      by_cases hz : k = 0
      · subst hz
        have HN : Hid (VrsP vs t (0 + 1)) := HAA.out HK.out (fun h => absurd h (by omega))
        clear HK HAA HYY b1
        rw [Nat.zero_mul, Nat.add_zero] at q0 q1 q2 q3
        rcases hee with rfl | ⟨he1, he2⟩
        · go_wp2_with fail
          refine (l07Key_any kx W1 z1).mono ?_
          rintro e w1 ⟨rfl, hq⟩
          obtain rfl := hq.symm
          rw [hok]
          go_wp2_with fail
          refine (l01In_any bx 1 t W1).mono ?_
          rintro e w1 ⟨rfl, hq⟩
          obtain rfl := hq.symm
          rw [hi1]
          go_wp2
          go_roundw
          case rel => exact ⟨1, by omega, by go_num, HN, HB1.out⟩
          case measure => simp [intOf]; omega

        · have he0' : (ex == 0) = false := by simp; omega
          have hi2 : inB ex (bx + 1) t = true := decide_eq_true ⟨by omega, he2⟩
          go_wp2_with fail
          refine (l07Key_any kx W1 z1).mono ?_
          rintro e w1 ⟨rfl, hq⟩
          obtain rfl := hq.symm
          rw [hok]
          go_wp2_with fail
          refine (l01In_any bx 1 t W1).mono ?_
          rintro e w1 ⟨rfl, hq⟩
          obtain rfl := hq.symm
          rw [hi1]
          go_wp2_with fail
          refine (l01In_any ex (bx + 1) t W1).mono ?_
          rintro e w1 ⟨rfl, hq⟩
          obtain rfl := hq.symm
          rw [hi2]
          go_wp2
          go_roundw
          case rel => exact ⟨1, by omega, by go_num, HN, HB1.out⟩
          case measure => simp [intOf]; omega

      · obtain ⟨j, rfl⟩ : ∃ j, k = j + 1 := ⟨k - 1, by omega⟩
        obtain ⟨b', off', e', hlb', p0, _, _⟩ := (HV.out.below hB) j (by rw [HL.out]; omega)
        cases e'
        have HAB : Hid (BehP (kx, bx, ex, vx) (nthV vs j) → VrsP vs t (j + 1 + 1)) := fun h => HAA.out HK.out (fun _ => by simp only [Nat.add_sub_cancel]; exact h)
        have HYZ : Hid (¬ BehP (kx, bx, ex, vx) (nthV vs j) → ¬ BaseP t vs xs) := fun h => HYY.out (.inr ⟨by omega, fun hh => h (by simp only [Nat.add_sub_cancel] at hh; exact hh)⟩)
        generalize nthV vs j = y at *
        obtain ⟨ky, by', ey, vy⟩ := y
        obtain ⟨r0, r1, r2, r3⟩ := p0.below hlb b1
        simp only at r0 r1 r2 r3
        have hlb1 : b < W1.heap.size := Nat.lt_of_lt_of_le hlb b1.size
        obtain ⟨W2, hW2⟩ : ∃ W2, W1.alloc (.cells #[.string ky, .int .i64 by', .int .i64 ey, .string vy] 57) = W2 := ⟨_, rfl⟩
        have b2 : Below W1.heap.size W1 W2 := hW2 ▸ (Below.refl _ _).alloc (Nat.le_refl _) _
        have ub : W2.heap[W1.heap.size]? = some (.cells #[.string ky, .int .i64 by', .int .i64 ey, .string vy] 57 (0, 0)) := hW2 ▸ heap_new' _ _ _ rfl
        have s0 : W2.cell? ⟨W1.heap.size, 0, none⟩ = some (.string ky) := slab_cell ub
        have s2 : W2.cell? ⟨W1.heap.size, 2, none⟩ = some (.int .i64 ey) := slab_cell ub
        have hnb : wr.heap.size < W1.heap.size := by rw [← hW1]; simp
        have s4 : W2.cell? ⟨wr.heap.size, 0, none⟩ = some (.string kx) := (b2.cell (p := ⟨wr.heap.size, 0, none⟩) hnb).trans y0
        have s5 : W2.cell? ⟨wr.heap.size, 1, none⟩ = some (.int .i64 bx) := (b2.cell (p := ⟨wr.heap.size, 1, none⟩) hnb).trans y1
        have HB2 : Hid (Below W0.heap.size W0 W2) := below_step HB1.out (Nat.le_refl _) b2
        have hsub : (j : Int) + 1 - 1 = (j : Int) := by omega
        have hj : (j : Int) < (len : Int) := by omega
        have hwr : IntKind.i64.wrap (j : Int) = (j : Int) := wrap_nat (by omega)
        have hj1 : ((j : Int) + 1 == 0) = false := by simp; omega
        have HBE : Hid (BehP (kx, bx, ex, vx) (ky, by', ey, vy) ↔ Op.bytesLess ky.toList kx.toList = true ∨ (kx.toList = ky.toList ∧ ey ≠ 0 ∧ ey ≤ bx)) := Iff.rfl
        clear p0 b1 b2 ub HK HAA HYY hnb
        cases hbe : asB (BehP (kx, bx, ex, vx) (ky, by', ey, vy)) with
        | true =>
          have HN : Hid (VrsP vs t (j + 1 + 1)) := HAB.out (asB_is hbe)
          have hB := HBE.out.1 (asB_is hbe)
          clear HAB HYZ hbe HBE
          cases heq : (ky.toList == kx.toList) with
          | true =>
            have hq : ky.toList = kx.toList := by simpa using heq
            have hr : ey ≠ 0 ∧ ey ≤ bx := hB.elim (fun h => by rw [hq, less_irr] at h; cases h) (fun h => h.2)
            have hl0 : Op.bytesLess ky.toList kx.toList = false := by rw [hq]; exact less_irr _
            have hr1 : (ey == 0) = false := by simpa using hr.1
            have hr2 := hr.2
            clear hr hB hq
            rcases hee with rfl | ⟨he1, he2⟩
            · go_wp2_with fail
              refine (l07Key_any kx W1 z1).mono ?_
              rintro e w1 ⟨rfl, hq⟩
              obtain rfl := hq.symm
              rw [hok]
              go_wp2_with fail
              refine (l01In_any bx 1 t W1).mono ?_
              rintro e w1 ⟨rfl, hq⟩
              obtain rfl := hq.symm
              rw [hi1]
              go_wp2
              go_roundw
              case rel => exact ⟨j + 1 + 1, by omega, by go_num, HN, HB2.out⟩
              case measure => simp [intOf]; omega

            · have he0' : (ex == 0) = false := by simp; omega
              have hi2 : inB ex (bx + 1) t = true := decide_eq_true ⟨by omega, he2⟩
              go_wp2_with fail
              refine (l07Key_any kx W1 z1).mono ?_
              rintro e w1 ⟨rfl, hq⟩
              obtain rfl := hq.symm
              rw [hok]
              go_wp2_with fail
              refine (l01In_any bx 1 t W1).mono ?_
              rintro e w1 ⟨rfl, hq⟩
              obtain rfl := hq.symm
              rw [hi1]
              go_wp2_with fail
              refine (l01In_any ex (bx + 1) t W1).mono ?_
              rintro e w1 ⟨rfl, hq⟩
              obtain rfl := hq.symm
              rw [hi2]
              go_wp2
              go_roundw
              case rel => exact ⟨j + 1 + 1, by omega, by go_num, HN, HB2.out⟩
              case measure => simp [intOf]; omega

          | false =>
            have hl0 : Op.bytesLess ky.toList kx.toList = true := hB.elim id (fun h => by rw [h.1] at heq; simp at heq)
            clear hB
            rcases hee with rfl | ⟨he1, he2⟩
            · go_wp2_with fail
              refine (l07Key_any kx W1 z1).mono ?_
              rintro e w1 ⟨rfl, hq⟩
              obtain rfl := hq.symm
              rw [hok]
              go_wp2_with fail
              refine (l01In_any bx 1 t W1).mono ?_
              rintro e w1 ⟨rfl, hq⟩
              obtain rfl := hq.symm
              rw [hi1]
              go_wp2
              go_roundw
              case rel => exact ⟨j + 1 + 1, by omega, by go_num, HN, HB2.out⟩
              case measure => simp [intOf]; omega

            · have he0' : (ex == 0) = false := by simp; omega
              have hi2 : inB ex (bx + 1) t = true := decide_eq_true ⟨by omega, he2⟩
              go_wp2_with fail
              refine (l07Key_any kx W1 z1).mono ?_
              rintro e w1 ⟨rfl, hq⟩
              obtain rfl := hq.symm
              rw [hok]
              go_wp2_with fail
              refine (l01In_any bx 1 t W1).mono ?_
              rintro e w1 ⟨rfl, hq⟩
              obtain rfl := hq.symm
              rw [hi1]
              go_wp2_with fail
              refine (l01In_any ex (bx + 1) t W1).mono ?_
              rintro e w1 ⟨rfl, hq⟩
              obtain rfl := hq.symm
              rw [hi2]
              go_wp2
              go_roundw
              case rel => exact ⟨j + 1 + 1, by omega, by go_num, HN, HB2.out⟩
              case measure => simp [intOf]; omega

        | false =>
          have HF : Hid (¬ BaseP t vs xs) := HYZ.out (asB_not hbe)
          have hB : ¬ (Op.bytesLess ky.toList kx.toList = true ∨ (kx.toList = ky.toList ∧ ey ≠ 0 ∧ ey ≤ bx)) := fun h => asB_not hbe (HBE.out.2 h)
          clear HAB HYZ hbe HBE
          have hl0 : Op.bytesLess ky.toList kx.toList = false := by
            cases h : Op.bytesLess ky.toList kx.toList
            · rfl
            · exact absurd (.inl h) hB
          cases heq : (ky.toList == kx.toList) with
          | true =>
            have hq : ky.toList = kx.toList := by simpa using heq
            by_cases hr : ey = 0
            · subst hr
              clear hB hq
              rcases hee with rfl | ⟨he1, he2⟩
              · go_wp2_with fail
                refine (l07Key_any kx W1 z1).mono ?_
                rintro e w1 ⟨rfl, hq⟩
                obtain rfl := hq.symm
                rw [hok]
                go_wp2_with fail
                refine (l01In_any bx 1 t W1).mono ?_
                rintro e w1 ⟨rfl, hq⟩
                obtain rfl := hq.symm
                rw [hi1]
                go_wp2
                go_ret
                exact ⟨ret_bool' (asB_false HF.out), B0.trans (HB2.out.mono B0.size)⟩

              · have he0' : (ex == 0) = false := by simp; omega
                have hi2 : inB ex (bx + 1) t = true := decide_eq_true ⟨by omega, he2⟩
                go_wp2_with fail
                refine (l07Key_any kx W1 z1).mono ?_
                rintro e w1 ⟨rfl, hq⟩
                obtain rfl := hq.symm
                rw [hok]
                go_wp2_with fail
                refine (l01In_any bx 1 t W1).mono ?_
                rintro e w1 ⟨rfl, hq⟩
                obtain rfl := hq.symm
                rw [hi1]
                go_wp2_with fail
                refine (l01In_any ex (bx + 1) t W1).mono ?_
                rintro e w1 ⟨rfl, hq⟩
                obtain rfl := hq.symm
                rw [hi2]
                go_wp2
                go_ret
                exact ⟨ret_bool' (asB_false HF.out), B0.trans (HB2.out.mono B0.size)⟩

            · have hr1 : (ey == 0) = false := by simpa using hr
              have hr2 : bx < ey := by
                refine Int.not_le.1 fun h => hB (.inr ⟨hq.symm, hr, h⟩)
              clear hB hq
              rcases hee with rfl | ⟨he1, he2⟩
              · go_wp2_with fail
                refine (l07Key_any kx W1 z1).mono ?_
                rintro e w1 ⟨rfl, hq⟩
                obtain rfl := hq.symm
                rw [hok]
                go_wp2_with fail
                refine (l01In_any bx 1 t W1).mono ?_
                rintro e w1 ⟨rfl, hq⟩
                obtain rfl := hq.symm
                rw [hi1]
                go_wp2
                go_ret
                exact ⟨ret_bool' (asB_false HF.out), B0.trans (HB2.out.mono B0.size)⟩

              · have he0' : (ex == 0) = false := by simp; omega
                have hi2 : inB ex (bx + 1) t = true := decide_eq_true ⟨by omega, he2⟩
                go_wp2_with fail
                refine (l07Key_any kx W1 z1).mono ?_
                rintro e w1 ⟨rfl, hq⟩
                obtain rfl := hq.symm
                rw [hok]
                go_wp2_with fail
                refine (l01In_any bx 1 t W1).mono ?_
                rintro e w1 ⟨rfl, hq⟩
                obtain rfl := hq.symm
                rw [hi1]
                go_wp2_with fail
                refine (l01In_any ex (bx + 1) t W1).mono ?_
                rintro e w1 ⟨rfl, hq⟩
                obtain rfl := hq.symm
                rw [hi2]
                go_wp2
                go_ret
                exact ⟨ret_bool' (asB_false HF.out), B0.trans (HB2.out.mono B0.size)⟩

          | false =>
            clear hB
            rcases hee with rfl | ⟨he1, he2⟩
            · go_wp2_with fail
              refine (l07Key_any kx W1 z1).mono ?_
              rintro e w1 ⟨rfl, hq⟩
              obtain rfl := hq.symm
              rw [hok]
              go_wp2_with fail
              refine (l01In_any bx 1 t W1).mono ?_
              rintro e w1 ⟨rfl, hq⟩
              obtain rfl := hq.symm
              rw [hi1]
              go_wp2
              go_ret
              exact ⟨ret_bool' (asB_false HF.out), B0.trans (HB2.out.mono B0.size)⟩

            · have he0' : (ex == 0) = false := by simp; omega
              have hi2 : inB ex (bx + 1) t = true := decide_eq_true ⟨by omega, he2⟩
              go_wp2_with fail
              refine (l07Key_any kx W1 z1).mono ?_
              rintro e w1 ⟨rfl, hq⟩
              obtain rfl := hq.symm
              rw [hok]
              go_wp2_with fail
              refine (l01In_any bx 1 t W1).mono ?_
              rintro e w1 ⟨rfl, hq⟩
              obtain rfl := hq.symm
              rw [hi1]
              go_wp2_with fail
              refine (l01In_any ex (bx + 1) t W1).mono ?_
              rintro e w1 ⟨rfl, hq⟩
              obtain rfl := hq.symm
              rw [hi2]
              go_wp2
              go_ret
              exact ⟨ret_bool' (asB_false HF.out), B0.trans (HB2.out.mono B0.size)⟩

    · obtain rfl : k = len := by omega
      have HVS : Hid (VrsP vs t k) := HS.out
      clear HS HV
      have HB1 : Hid (Below W0.heap.size W0 wr) := hbl
      clear xb hbl hB
      go_wp2
      clear cS
      go_loopw [6] (fun i wr => ∃ m : Nat, m ≤ 4 ∧ i = .int .i64 m ∧ Hid (TxsP xs t m) ∧ Below W0.heap.size W0 wr) (fun i _ => 4 - (intOf i).toNat)
      case atStart => exact ⟨0, by omega, rfl, fun i hi => by omega, HB1.out⟩
      case round =>
        obtain ⟨m, hm, rfl, HM, hbl⟩ := hrel
        have hB := B0.trans (hbl.mono B0.size)
        have xb := kpBlk XB.out hbl (slab_lt XB.out)
        by_cases hlt : m < 4
        · have hltI : (m : Int) < 4 := by omega
          obtain ⟨b, off, wa, wc, rfl, hlb, hcx, hrow, hml⟩ := (HX.out.below hB) m (by rw [H4.out]; exact hlt)
          have hzm := (HZ.out m (by rw [H4.out]; exact hlt)).1
          have HA : Hid (TxP (nthX xs m) t → TxsP xs t (m + 1)) := fun h => HM.out.next h
          have HY : Hid (¬ TxP (nthX xs m) t → ¬ BaseP t vs xs) := fun h hh => h ((HT.out.1 hh).2 m hlt)
          generalize nthX xs m = x at *
          obtain ⟨ox, nx, ws⟩ := x
          simp only at hrow hml hzm
          have hP : Hid (StX wr w.heap.size b (off + m * 3) wa wc (ox, nx, ws) t (.slice (some ⟨b, off, none⟩) 4 xc) wr.drew) := ⟨hcx, slab_cell xb, slab_cell xb, hlb, slab_lt xb, (Below.refl _ _).drew⟩
          have HC : Hid (∀ W, Below wr.heap.size wr W → Calls Try.prog 37 #[ValX ox nx (.slice wa ws.length wc), .int .i64 t] W fun e w' => e = .returned (.bool (asB (TxP (ox, nx, ws) t))) ∧ Below W.heap.size W w') := fun W hb => l07Tx_any ox nx wa wc ws t W (hrow.below hb) hzm
          clear xb hrow hml hcx
          cases hok : asB (TxP (ox, nx, ws) t) with
          | true =>
            have HN : Hid (TxsP xs t (m + 1)) := HA.out (asB_is hok)
            rw [hok] at HC
            clear hok HA HY
            go_wp2_with fail
            refine wp_region_class (C := StX wr w.heap.size b (off + m * 3) wa wc (ox, nx, ws) t (.slice (some ⟨b, off, none⟩) 4 xc)) (by kernel_rfl) (by kernel_rfl) hP.out ?_
            repeat (first | go_big_quiet_skip | (go_big_quiet_want; apply Exists.intro; refine ⟨?_, ?_⟩; (focus (intro w' hw'; first | (obtain ⟨⟨m0, m1, m2⟩, m3, m4, m5, m6, m7⟩ := hw'; go_simp; with_reducible rfl) | (go_simp; refine (HC.out w' hw'.2.2.2.2.2).mono ?_; rintro e w'' ⟨rfl, hb⟩; exact ⟨rfl, hw'.keep hb⟩))); (try simp only [Act.put, List.setIfInBounds_toArray, List.set_cons_zero, List.set_cons_succ]); go_big_quiet_on))
            refine wpQuiet_nil ?_
            intro w2 hw2
            have hB2 := hw2.2.2.2.2.2
            clear hw2
            go_wp2
            go_roundw
            case rel => exact ⟨m + 1, by omega, by go_num, HN, below_step hbl (Nat.le_refl _) hB2⟩
            case measure => simp [intOf]; omega
          | false =>
            have HF : Hid (¬ BaseP t vs xs) := HY.out (asB_not hok)
            rw [hok] at HC
            clear hok HA HY
            go_wp2_with fail
            refine wp_region_class (C := StX wr w.heap.size b (off + m * 3) wa wc (ox, nx, ws) t (.slice (some ⟨b, off, none⟩) 4 xc)) (by kernel_rfl) (by kernel_rfl) hP.out ?_
            repeat (first | go_big_quiet_skip | (go_big_quiet_want; apply Exists.intro; refine ⟨?_, ?_⟩; (focus (intro w' hw'; first | (obtain ⟨⟨m0, m1, m2⟩, m3, m4, m5, m6, m7⟩ := hw'; go_simp; with_reducible rfl) | (go_simp; refine (HC.out w' hw'.2.2.2.2.2).mono ?_; rintro e w'' ⟨rfl, hb⟩; exact ⟨rfl, hw'.keep hb⟩))); (try simp only [Act.put, List.setIfInBounds_toArray, List.set_cons_zero, List.set_cons_succ]); go_big_quiet_on))
            refine wpQuiet_nil ?_
            intro w2 hw2
            have hB2 := hw2.2.2.2.2.2
            clear hw2
            go_wp2
            go_ret
            exact ⟨ret_bool' (asB_false HF.out), B0.trans ((below_step hbl (Nat.le_refl _) hB2).mono B0.size)⟩
        · obtain rfl : m = 4 := by omega
          clear xb
          go_wp2
          go_ret
          exact ⟨ret_bool' (asB_true (HT.out.2 ⟨HVS.out, HM.out⟩)), hB⟩
end Go.Proofs.Ytmkagolechjjkaa
