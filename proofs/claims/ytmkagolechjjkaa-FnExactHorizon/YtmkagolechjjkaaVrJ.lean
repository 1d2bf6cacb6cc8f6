/- Impl's look at a base (stage 7). -/
import Derived.Test.YtmkagolechjjkaaVrH
namespace Go.Proofs.Ytmkagolechjjkaa
open Go.RowKit

/-- The versions up to k are right. -/
def VrsP (vs : List TV) (t : Int) (k : Nat) : Prop := ∀ i, i < k → VerP (nthV vs i) t ∧ (0 < i → BehP (nthV vs i) (nthV vs (i - 1)))
theorem VrsP.next {vs : List TV} {t : Int} {k : Nat} (h : VrsP vs t k) (h1 : VerP (nthV vs k) t) (h2 : 0 < k → BehP (nthV vs k) (nthV vs (k - 1))) : VrsP vs t (k + 1) := fun i hi => by
  by_cases e : i = k
  · subst e; exact ⟨h1, h2⟩
  · exact h i (by omega)
def TxsP (xs : List TX) (t : Int) (k : Nat) : Prop := ∀ i, i < k → TxP (nthX xs i) t
theorem TxsP.next {xs : List TX} {t : Int} {k : Nat} (h : TxsP xs t k) (h1 : TxP (nthX xs k) t) : TxsP xs t (k + 1) := fun i hi => by
  by_cases e : i = k
  · subst e; exact h1
  · exact h i (by omega)
abbrev StV (W : World) (nb bx : Nat) (x : TV) (t : Int) (sv : Value) (w' : World) : Prop := w'.cell? ⟨nb, 0, none⟩ = some (.string x.1) ∧ w'.cell? ⟨nb, 1, none⟩ = some (.int .i64 x.2.1) ∧ w'.cell? ⟨nb, 2, none⟩ = some (.int .i64 x.2.2.1) ∧ w'.cell? ⟨nb, 3, none⟩ = some (.string x.2.2.2) ∧ w'.cell? ⟨bx, 0, none⟩ = some (.int .i64 t) ∧ w'.cell? ⟨bx, 1, none⟩ = some sv ∧ nb < w'.heap.size ∧ bx < w'.heap.size ∧ Below W.heap.size W w'
theorem StV.keep {W : World} {nb bx : Nat} {x : TV} {t : Int} {sv : Value} {w1 w2 : World} (h : StV W nb bx x t sv w1) (hb : Below w1.heap.size w1 w2) : StV W nb bx x t sv w2 :=
  ⟨(hb.cell (p := ⟨nb, 0, none⟩) h.2.2.2.2.2.2.1).trans h.1, (hb.cell (p := ⟨nb, 1, none⟩) h.2.2.2.2.2.2.1).trans h.2.1, (hb.cell (p := ⟨nb, 2, none⟩) h.2.2.2.2.2.2.1).trans h.2.2.1, (hb.cell (p := ⟨nb, 3, none⟩) h.2.2.2.2.2.2.1).trans h.2.2.2.1, (hb.cell (p := ⟨bx, 0, none⟩) h.2.2.2.2.2.2.2.1).trans h.2.2.2.2.1, (hb.cell (p := ⟨bx, 1, none⟩) h.2.2.2.2.2.2.2.1).trans h.2.2.2.2.2.1, Nat.lt_of_lt_of_le h.2.2.2.2.2.2.1 hb.size, Nat.lt_of_lt_of_le h.2.2.2.2.2.2.2.1 hb.size, below_step h.2.2.2.2.2.2.2.2 (Nat.le_refl _) hb⟩

set_option maxRecDepth 100000 in
set_option maxHeartbeats 8000000 in
theorem implBaseOK_any (t : Int) (va xa : Option Addr) (vc xc : Nat) (vs : List TV) (xs : List TX) (w : World) (hv : RowV w va vs) (hx : RowX w xa xs) (lv : vs.length ≤ 1048576) (hz : ∀ i, i < xs.length → SmallX (nthX xs i)) :
    Calls Try.prog 16 #[BW t (.slice va vs.length vc) (.slice xa xs.length xc)] w fun e w' => e = .returned (.bool (asB (BaseP t vs xs))) ∧ Below w.heap.size w w' := by
  have HV : Hid (RowV w va vs) := hv
  have HX : Hid (RowX w xa xs) := hx
  have HZ : Hid (∀ i, i < xs.length → SmallX (nthX xs i)) := hz
  clear hv hx hz
  obtain ⟨W0, hW0⟩ : ∃ W0, w.alloc (.cells #[.int .i64 t, .slice va vs.length vc, .slice xa xs.length xc] 25) = W0 := ⟨_, rfl⟩
  have B0 : Below w.heap.size w W0 := hW0 ▸ (Below.refl _ _).alloc (Nat.le_refl _) _
  have xb : W0.heap[w.heap.size]? = some (.cells #[.int .i64 t, .slice va vs.length vc, .slice xa xs.length xc] 25 (0, 0)) := by rw [← hW0]; exact heap_new' _ _ _ rfl
  have XB : Hid (W0.heap[w.heap.size]? = some (.cells #[.int .i64 t, .slice va vs.length vc, .slice xa xs.length xc] 25 (0, 0))) := xb
  have c0 : W0.cell? ⟨w.heap.size, 0, none⟩ = some (.int .i64 t) := by simp [World.cell?, xb]
  have c1 : W0.cell? ⟨w.heap.size, 1, none⟩ = some (.slice va vs.length vc) := by simp [World.cell?, xb]
  have c2 : W0.cell? ⟨w.heap.size, 2, none⟩ = some (.slice xa xs.length xc) := by simp [World.cell?, xb]
  clear xb
  by_cases h1 : t < 0
  · have HF : Hid (¬ BaseP t vs xs) := fun h => by have := h.1; omega
    go_enter Try.func16, Try.ntmps16
    go_wp2
    go_ret
    exact ⟨ret_bool' (asB_false HF.out), B0⟩
  by_cases h2 : 2000 < t
  · have HF : Hid (¬ BaseP t vs xs) := fun h => by have := h.2.1; omega
    go_enter Try.func16, Try.ntmps16
    go_wp2
    go_ret
    exact ⟨ret_bool' (asB_false HF.out), B0⟩
  by_cases h3 : (4096 : Int) < (vs.length : Int)
  · have HF : Hid (¬ BaseP t vs xs) := fun h => by have := h.2.2.1; omega
    go_enter Try.func16, Try.ntmps16
    go_wp2
    go_ret
    exact ⟨ret_bool' (asB_false HF.out), B0⟩
  by_cases h4 : (xs.length : Int) = 4
  case neg =>
    have HF : Hid (¬ BaseP t vs xs) := fun h => by have := h.2.2.2.1; omega
    have h4' : ((xs.length : Int) == 4) = false := by simpa using h4
    go_enter Try.func16, Try.ntmps16
    go_wp2
    go_ret
    exact ⟨ret_bool' (asB_false HF.out), B0⟩
  have h4n : xs.length = 4 := by omega
  obtain ⟨len, hlen⟩ : ∃ m, vs.length = m := ⟨_, rfl⟩
  have HL : Hid (vs.length = len) := hlen
  have H4 : Hid (xs.length = 4) := h4n
  have HT : Hid (BaseP t vs xs ↔ VrsP vs t len ∧ TxsP xs t 4) := ⟨fun h => ⟨by rw [← hlen]; exact h.2.2.2.2.1, h.2.2.2.2.2⟩, fun h => ⟨by omega, by omega, by omega, h4n, by rw [hlen]; exact h.1, h.2⟩⟩
  rw [hlen] at h3 c1 lv hW0 XB ⊢
  rw [h4n] at c2 hW0 XB ⊢
  clear hlen h4n h4
  go_enter Try.func16, Try.ntmps16
  go_wp2
  go_loopw [30] (fun i wr => ∃ k : Nat, k ≤ len ∧ i = .int .i64 k ∧ Hid (VrsP vs t k) ∧ Below W0.heap.size W0 wr) (fun i _ => len - (intOf i).toNat)
  case atStart => exact ⟨0, by omega, rfl, fun i hi => by omega, Below.refl _ _⟩
  case round =>
    obtain ⟨k, hk, rfl, HS, hbl⟩ := hrel
    have hB := B0.trans (hbl.mono B0.size)
    clear c0 c1 c2 hW0
    have xb := kpBlk XB.out hbl (slab_lt XB.out)
    by_cases hlt : k < len
    · have hltI : (k : Int) < (len : Int) := by omega
      obtain ⟨b, off, rfl, hlb, ⟨q0, q1, q2, q3⟩, z1, z2⟩ := (HV.out.below hB) k (by rw [HL.out]; exact hlt)
      have HA : Hid (∀ x, x = nthV vs k → VerP x t → (0 < k → BehP x (nthV vs (k - 1))) → VrsP vs t (k + 1)) := fun x e h1 h2 => HS.out.next (e ▸ h1) (e ▸ h2)
      have HY : Hid (∀ x, x = nthV vs k → (¬ VerP x t ∨ (0 < k ∧ ¬ BehP x (nthV vs (k - 1)))) → ¬ BaseP t vs xs) := fun x e h hh => by
        subst e
        have := (HT.out.1 hh).1 k hlt
        exact h.elim (fun h => h this.1) (fun h => h.2 (this.2 h.1))
      obtain ⟨x, hx⟩ : ∃ x, x = nthV vs k := ⟨_, rfl⟩
      have HE : Hid (x = nthV vs k) := hx
      rw [← hx] at q0 q1 q2 q3 z1 z2
      clear hx
      obtain ⟨kx, bx, ex, vx⟩ := x
      simp only at q0 q1 q2 q3 z1 z2
      have HAA : Hid (VerP (kx, bx, ex, vx) t → (0 < k → BehP (kx, bx, ex, vx) (nthV vs (k - 1))) → VrsP vs t (k + 1)) := HA.out _ HE.out
      have HYY : Hid ((¬ VerP (kx, bx, ex, vx) t ∨ (0 < k ∧ ¬ BehP (kx, bx, ex, vx) (nthV vs (k - 1)))) → ¬ BaseP t vs xs) := HY.out _ HE.out
      clear HA HY HE
      obtain ⟨W1, hW1⟩ : ∃ W1, wr.alloc (.cells #[.string kx, .int .i64 bx, .int .i64 ex, .string vx] 57) = W1 := ⟨_, rfl⟩
      have b1 : Below wr.heap.size wr W1 := hW1 ▸ (Below.refl _ _).alloc (Nat.le_refl _) _
      have yb : W1.heap[wr.heap.size]? = some (.cells #[.string kx, .int .i64 bx, .int .i64 ex, .string vx] 57 (0, 0)) := hW1 ▸ heap_new' _ _ _ rfl
      have zb := kpBlk xb b1 (slab_lt xb)
      have hP : Hid (StV W0 wr.heap.size w.heap.size (kx, bx, ex, vx) t (.slice (some ⟨b, off, none⟩) len vc) W1.drew) := ⟨slab_cell yb, slab_cell yb, slab_cell yb, slab_cell yb, slab_cell zb, slab_cell zb, slab_lt yb, slab_lt zb, (below_step hbl (Nat.le_refl _) b1).drew⟩
      have HC : Hid (∀ W, Calls Try.prog 40 #[ValV (kx, bx, ex, vx), .int .i64 t] W fun e w' => e = .returned (.bool (asB (VerP (kx, bx, ex, vx) t))) ∧ Below W.heap.size W w') := fun W => versionOK_any _ t W z1 z2
      clear z1 z2 xb yb zb
      cases hok : asB (VerP (kx, bx, ex, vx) t) with
      | false =>
        rw [hok] at HC
        have HF : Hid (¬ BaseP t vs xs) := HYY.out (.inl (asB_not hok))
        clear hok HAA HYY
        go_wp2_with fail
        refine wp_region_class (C := StV W0 wr.heap.size w.heap.size (kx, bx, ex, vx) t (.slice (some ⟨b, off, none⟩) len vc)) (by kernel_rfl) (by kernel_rfl) hP.out ?_
        repeat (first | go_big_quiet_skip | (go_big_quiet_want; apply Exists.intro; refine ⟨?_, ?_⟩; (focus (intro w' hw'; first | (obtain ⟨m0, m1, m2, m3, m4, m5, m6, m7, m8⟩ := hw'; go_simp; with_reducible rfl) | (go_simp; refine (HC.out w').mono ?_; rintro e w'' ⟨rfl, hb⟩; exact ⟨rfl, hw'.keep hb⟩))); (try simp only [Act.put, List.setIfInBounds_toArray, List.set_cons_zero, List.set_cons_succ]); go_big_quiet_on))
        refine wpQuiet_nil ?_
        intro w2 hw2
        have hB2 := hw2.2.2.2.2.2.2.2.2
        clear hw2
        go_wp2
        go_ret
        exact ⟨ret_bool' (asB_false HF.out), B0.trans (hB2.mono B0.size)⟩
      | true =>
        rw [hok] at HC
        have HK : Hid (VerP (kx, bx, ex, vx) t) := asB_is hok
        clear hok
        by_cases hz : k = 0
        · subst hz
          have HN : Hid (VrsP vs t (0 + 1)) := HAA.out HK.out (fun h => absurd h (by omega))
          clear HK HAA HYY
          rw [Nat.zero_mul, Nat.add_zero] at q0 q1 q2 q3
          go_wp2_with fail
          refine wp_region_class (C := StV W0 wr.heap.size w.heap.size (kx, bx, ex, vx) t (.slice (some ⟨b, off, none⟩) len vc)) (by kernel_rfl) (by kernel_rfl) hP.out ?_
          repeat (first | go_big_quiet_skip | (go_big_quiet_want; apply Exists.intro; refine ⟨?_, ?_⟩; (focus (intro w' hw'; first | (obtain ⟨m0, m1, m2, m3, m4, m5, m6, m7, m8⟩ := hw'; go_simp; with_reducible rfl) | (go_simp; refine (HC.out w').mono ?_; rintro e w'' ⟨rfl, hb⟩; exact ⟨rfl, hw'.keep hb⟩))); (try simp only [Act.put, List.setIfInBounds_toArray, List.set_cons_zero, List.set_cons_succ]); go_big_quiet_on))
          refine wpQuiet_nil ?_
          intro w2 hw2
          have hB2 := hw2.2.2.2.2.2.2.2.2
          clear hw2
          go_wp2
          go_roundw
          case rel => exact ⟨1, by omega, by go_num, HN, hB2⟩
          case measure => simp [intOf]; omega
        · obtain ⟨j, rfl⟩ : ∃ j, k = j + 1 := ⟨k - 1, by omega⟩
          obtain ⟨b', off', e', hlb', p0, _, _⟩ := (HV.out.below hB) j (by rw [HL.out]; omega)
          cases e'
          have HAB : Hid (BehP (kx, bx, ex, vx) (nthV vs j) → VrsP vs t (j + 1 + 1)) := fun h => HAA.out HK.out (fun _ => by simp only [Nat.add_sub_cancel]; exact h)
          have HYZ : Hid (¬ BehP (kx, bx, ex, vx) (nthV vs j) → ¬ BaseP t vs xs) := fun h => HYY.out (.inr ⟨by omega, fun hh => h (by simp only [Nat.add_sub_cancel] at hh; exact hh)⟩)
          generalize nthV vs j = y at *
          obtain ⟨ky, by', ey, vy⟩ := y
          have hP2 : Hid (StV W0 wr.heap.size w.heap.size (kx, bx, ex, vx) t (.slice (some ⟨b, off, none⟩) len vc) W1.drew ∧ CellV W1.drew b (off + j * 4) (ky, by', ey, vy) ∧ b < W1.drew.heap.size) := ⟨hP.out, p0.below hlb b1.drew, Nat.lt_of_lt_of_le hlb b1.size⟩
          have hsub : (j : Int) + 1 - 1 = (j : Int) := by omega
          have hj : (j : Int) < (len : Int) := by omega
          have hwr : IntKind.i64.wrap (j : Int) = (j : Int) := wrap_nat (by omega)
          have hpos : (0 : Int) < (j : Int) + 1 := by omega
          have HD : Hid (∀ W, Calls Try.prog 41 #[ValV (kx, bx, ex, vx), ValV (ky, by', ey, vy)] W fun e w' => e = .returned (.bool (asB (BehP (kx, bx, ex, vx) (ky, by', ey, vy)))) ∧ Below W.heap.size W w') := fun W => isBehind_any _ _ W
          clear p0 hP b1 HK HAA HYY
          cases hbe : asB (BehP (kx, bx, ex, vx) (ky, by', ey, vy)) with
          | true =>
            have HN : Hid (VrsP vs t (j + 1 + 1)) := HAB.out (asB_is hbe)
            rw [hbe] at HD
            clear HAB HYZ hbe
            go_wp2_with fail
            refine wp_region_class (C := fun w' => StV W0 wr.heap.size w.heap.size (kx, bx, ex, vx) t (.slice (some ⟨b, off, none⟩) len vc) w' ∧ CellV w' b (off + j * 4) (ky, by', ey, vy) ∧ b < w'.heap.size) (by kernel_rfl) (by kernel_rfl) hP2.out ?_
            repeat (first | go_big_quiet_skip | (go_big_quiet_want; apply Exists.intro; refine ⟨?_, ?_⟩; (focus (intro w' hw'; first | (obtain ⟨⟨m0, m1, m2, m3, m4, m5, m6, m7, m8⟩, ⟨n0, n1, n2, n3⟩, n4⟩ := hw'; go_simp; with_reducible rfl) | (go_simp; first | (refine (HC.out w').mono ?_; rintro e w'' ⟨rfl, hb⟩; exact ⟨rfl, hw'.1.keep hb, hw'.2.1.below hw'.2.2 hb, Nat.lt_of_lt_of_le hw'.2.2 hb.size⟩) | (refine (HD.out w').mono ?_; rintro e w'' ⟨rfl, hb⟩; exact ⟨rfl, hw'.1.keep hb, hw'.2.1.below hw'.2.2 hb, Nat.lt_of_lt_of_le hw'.2.2 hb.size⟩)))); (try simp only [Act.put, List.setIfInBounds_toArray, List.set_cons_zero, List.set_cons_succ]); go_big_quiet_on))
            refine wpQuiet_nil ?_
            intro w2 hw2
            have hB2 := hw2.1.2.2.2.2.2.2.2.2
            clear hw2
            go_wp2
            go_roundw
            case rel => exact ⟨j + 1 + 1, by omega, by go_num, HN, hB2⟩
            case measure => simp [intOf]; omega
          | false =>
            have HF : Hid (¬ BaseP t vs xs) := HYZ.out (asB_not hbe)
            rw [hbe] at HD
            clear HAB HYZ hbe
            go_wp2_with fail
            refine wp_region_class (C := fun w' => StV W0 wr.heap.size w.heap.size (kx, bx, ex, vx) t (.slice (some ⟨b, off, none⟩) len vc) w' ∧ CellV w' b (off + j * 4) (ky, by', ey, vy) ∧ b < w'.heap.size) (by kernel_rfl) (by kernel_rfl) hP2.out ?_
            repeat (first | go_big_quiet_skip | (go_big_quiet_want; apply Exists.intro; refine ⟨?_, ?_⟩; (focus (intro w' hw'; first | (obtain ⟨⟨m0, m1, m2, m3, m4, m5, m6, m7, m8⟩, ⟨n0, n1, n2, n3⟩, n4⟩ := hw'; go_simp; with_reducible rfl) | (go_simp; first | (refine (HC.out w').mono ?_; rintro e w'' ⟨rfl, hb⟩; exact ⟨rfl, hw'.1.keep hb, hw'.2.1.below hw'.2.2 hb, Nat.lt_of_lt_of_le hw'.2.2 hb.size⟩) | (refine (HD.out w').mono ?_; rintro e w'' ⟨rfl, hb⟩; exact ⟨rfl, hw'.1.keep hb, hw'.2.1.below hw'.2.2 hb, Nat.lt_of_lt_of_le hw'.2.2 hb.size⟩)))); (try simp only [Act.put, List.setIfInBounds_toArray, List.set_cons_zero, List.set_cons_succ]); go_big_quiet_on))
            refine wpQuiet_nil ?_
            intro w2 hw2
            have hB2 := hw2.1.2.2.2.2.2.2.2.2
            clear hw2
            go_wp2
            go_ret
            exact ⟨ret_bool' (asB_false HF.out), B0.trans (hB2.mono B0.size)⟩
    · obtain rfl : k = len := by omega
      have HVS : Hid (VrsP vs t k) := HS.out
      clear HS HV
      have d2 : wr.cell? ⟨w.heap.size, 2, none⟩ = some (.slice xa 4 xc) := slab_cell xb
      have HB1 : Hid (Below W0.heap.size W0 wr) := hbl
      clear xb hbl hB
      go_wp2
      clear d2
      go_loopw [59] (fun i wr => ∃ m : Nat, m ≤ 4 ∧ i = .int .i64 m ∧ Hid (TxsP xs t m) ∧ Below W0.heap.size W0 wr) (fun i _ => 4 - (intOf i).toNat)
      case atStart => exact ⟨0, by omega, rfl, fun i hi => by omega, HB1.out⟩
      case round =>
        obtain ⟨m, hm, rfl, HM, hbl⟩ := hrel
        have hB := B0.trans (hbl.mono B0.size)
        have xb := kpBlk XB.out hbl (slab_lt XB.out)
        by_cases hlt : m < 4
        · have hltI : (m : Int) < 4 := by omega
          obtain ⟨b, off, wa, wc, rfl, hlb, ⟨q0, q1, q2⟩, hrow, hml⟩ := (HX.out.below hB) m (by rw [H4.out]; exact hlt)
          have hzm := (HZ.out m (by rw [H4.out]; exact hlt)).1
          have HA : Hid (TxP (nthX xs m) t → TxsP xs t (m + 1)) := fun h => HM.out.next h
          have HY : Hid (¬ TxP (nthX xs m) t → ¬ BaseP t vs xs) := fun h hh => h ((HT.out.1 hh).2 m hlt)
          generalize nthX xs m = x at *
          obtain ⟨ox, nx, ws⟩ := x
          simp only at q0 q1 q2 hrow hml hzm
          obtain ⟨W1, hW1⟩ : ∃ W1, wr.alloc (.cells #[.bool ox, .int .i64 nx, .slice wa ws.length wc] 62) = W1 := ⟨_, rfl⟩
          have b1 : Below wr.heap.size wr W1 := hW1 ▸ (Below.refl _ _).alloc (Nat.le_refl _) _
          have yb : W1.heap[wr.heap.size]? = some (.cells #[.bool ox, .int .i64 nx, .slice wa ws.length wc] 62 (0, 0)) := hW1 ▸ heap_new' _ _ _ rfl
          have zb := kpBlk xb b1 (slab_lt xb)
          have y0 : W1.cell? ⟨wr.heap.size, 0, none⟩ = some (.bool ox) := slab_cell yb
          have y1 : W1.cell? ⟨wr.heap.size, 1, none⟩ = some (.int .i64 nx) := slab_cell yb
          have y2 : W1.cell? ⟨wr.heap.size, 2, none⟩ = some (.slice wa ws.length wc) := slab_cell yb
          have y3 : W1.cell? ⟨w.heap.size, 0, none⟩ = some (.int .i64 t) := slab_cell zb
          have HC := txOK_any ox nx wa wc ws t W1 (hrow.below b1) hzm
          have HB2 : Hid (Below W0.heap.size W0 W1) := below_step hbl (Nat.le_refl _) b1
          clear xb yb zb hrow hml b1
          go_wp2_with fail
          refine HC.mono ?_
          clear HC y0 y1 y2 y3 hW1 q0 q1 q2
          rintro e w2 ⟨rfl, b2⟩
          have HB3 : Hid (Below W0.heap.size W0 w2) := below_step HB2.out (Nat.le_refl _) b2
          clear b2 HB2
          cases hok : asB (TxP (ox, nx, ws) t) with
          | true =>
            have HN : Hid (TxsP xs t (m + 1)) := HA.out (asB_is hok)
            clear hok HA HY
            go_wp2
            go_roundw
            case rel => exact ⟨m + 1, by omega, by go_num, HN, HB3.out⟩
            case measure => simp [intOf]; omega
          | false =>
            have HF : Hid (¬ BaseP t vs xs) := HY.out (asB_not hok)
            clear hok HA HY
            go_wp2
            go_ret
            exact ⟨ret_bool' (asB_false HF.out), B0.trans (HB3.out.mono B0.size)⟩
        · obtain rfl : m = 4 := by omega
          clear xb
          go_wp2
          go_ret
          exact ⟨ret_bool' (asB_true (HT.out.2 ⟨HVS.out, HM.out⟩)), hB⟩
end Go.Proofs.Ytmkagolechjjkaa
