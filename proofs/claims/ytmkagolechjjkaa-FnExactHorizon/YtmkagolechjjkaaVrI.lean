/- Spec's look at a transaction (stage 7). -/
import Derived.Test.YtmkagolechjjkaaVrH
namespace Go.Proofs.Ytmkagolechjjkaa
open Go.RowKit

set_option maxRecDepth 100000 in
set_option maxHeartbeats 4000000 in
theorem l07Tx_any (o : Bool) (n : Int) (wa : Option Addr) (wc : Nat) (ws : List TW) (now : Int) (w : World) (h : RowW w wa ws) (hl : ws.length ≤ 1048576) :
    Calls Try.prog 37 #[ValX o n (.slice wa ws.length wc), .int .i64 now] w fun e w' => e = .returned (.bool (asB (TxP (o, n, ws) now))) ∧ Below w.heap.size w w' := by
  have HR : Hid (RowW w wa ws) := h
  clear h
  obtain ⟨W0, hW0⟩ : ∃ W0, w.alloc (.cells #[.bool o, .int .i64 n, .slice wa ws.length wc] 62) = W0 := ⟨_, rfl⟩
  have B0 : Below w.heap.size w W0 := hW0 ▸ (Below.refl _ _).alloc (Nat.le_refl _) _
  have xb : W0.heap[w.heap.size]? = some (.cells #[.bool o, .int .i64 n, .slice wa ws.length wc] 62 (0, 0)) := by rw [← hW0]; exact heap_new' _ _ _ rfl
  have c0 : W0.cell? ⟨w.heap.size, 0, none⟩ = some (.bool o) := by simp [World.cell?, xb]
  have c1 : W0.cell? ⟨w.heap.size, 1, none⟩ = some (.int .i64 n) := by simp [World.cell?, xb]
  have c2 : W0.cell? ⟨w.heap.size, 2, none⟩ = some (.slice wa ws.length wc) := by simp [World.cell?, xb]
  have XB : Hid (W0.heap[w.heap.size]? = some (.cells #[.bool o, .int .i64 n, .slice wa ws.length wc] 62 (0, 0))) := xb
  clear xb
  cases o with
  | false =>
    by_cases h0 : n = 0
    · subst h0
      go_enter Try.func37, Try.ntmps37
      go_wp2
      go_ret
      exact ⟨ret_bool' (asB_eq (TxP.shut.trans ⟨fun h => by simpa using h.2, fun h => ⟨rfl, by simpa using h⟩⟩)), B0⟩
    · have h0' : (n == 0) = false := by simpa using h0
      go_enter Try.func37, Try.ntmps37
      go_wp2
      go_ret
      exact ⟨ret_bool' (asB_false (fun h => h0 (TxP.shut.1 h).1)), B0⟩
  | true =>
    have hin : inB n 0 now = true ∨ inB n 0 now = false := by cases inB n 0 now <;> simp
    have HI : Hid (inB n 0 now = decide (0 ≤ n ∧ n ≤ now)) := rfl
    rcases hin with hin | hin
    case inr =>
      go_enter Try.func37, Try.ntmps37
      go_wp2_with fail
      refine (l01In_any n 0 now W0).mono ?_
      rintro e w1 ⟨rfl, hq⟩
      obtain rfl := hq.symm
      rw [hin]
      go_wp2
      go_ret
      exact ⟨ret_bool' (asB_false (fun h => by have h1 := (TxP.open.1 h).1; have h2 := (TxP.open.1 h).2.1; rw [HI.out] at hin; have := of_decide_eq_false hin; omega)), B0⟩
    have h12 : 0 ≤ n ∧ n ≤ now := by rw [HI.out] at hin; exact of_decide_eq_true hin
    have h1 := h12.1
    have h2 := h12.2
    clear h12
    by_cases h3 : (8 : Int) < (ws.length : Int)
    · go_enter Try.func37, Try.ntmps37
      go_wp2_with fail
      refine (l01In_any n 0 now W0).mono ?_
      rintro e w1 ⟨rfl, hq⟩
      obtain rfl := hq.symm
      rw [hin]
      go_wp2
      go_ret
      exact ⟨ret_bool' (asB_false (fun h => by have := (TxP.open.1 h).2.2.1; omega)), B0⟩
    obtain ⟨len, hlen⟩ : ∃ m, ws.length = m := ⟨_, rfl⟩
    have HL : Hid (ws.length = len) := hlen
    have HT : Hid (WrsP ws len ↔ TxP (true, n, ws) now) := ⟨fun h => TxP.open.2 ⟨by omega, by omega, by omega, by rw [hlen]; exact h⟩, fun h => by have := (TxP.open.1 h).2.2.2; rw [hlen] at this; exact this⟩
    have SV : ∃ sv, Value.slice wa ws.length wc = sv := ⟨_, rfl⟩
    rw [hlen] at h3 c2 hl hW0 XB ⊢
    clear hlen SV
    go_enter Try.func37, Try.ntmps37
    go_wp2_with fail
    refine (l01In_any n 0 now W0).mono ?_
    rintro e w1 ⟨rfl, hq⟩
    obtain rfl := hq.symm
    rw [hin]
    clear HI hin
    go_wp2
    go_loopw [5] (fun i wr => ∃ k : Nat, k ≤ len ∧ i = .int .i64 k ∧ Hid (WrsP ws k) ∧ Below W0.heap.size W0 wr) (fun i _ => len - (intOf i).toNat)
    case atStart => exact ⟨0, by omega, rfl, fun i hi => by omega, Below.refl _ _⟩
    case round =>
      obtain ⟨k, hk, rfl, HS, hbl⟩ := hrel
      have hB := B0.trans (hbl.mono B0.size)
      clear c0 c1 c2 hW0
      by_cases hlt : k < len
      · have hltI : (k : Int) < (len : Int) := by omega
        obtain ⟨b, off, rfl, hlb, ⟨q0, q1, q2⟩, z1, z2⟩ := (HR.out.below hB) k (by rw [HL.out]; exact hlt)
        have xb := kpBlk XB.out hbl (slab_lt XB.out)
        have cS : wr.cell? ⟨w.heap.size, 2, none⟩ = some (.slice (some ⟨b, off, none⟩) len wc) := slab_cell xb
        have HX : Hid (∀ x, x = nthW ws k → WrP x → (0 < k → Less (nthW ws (k - 1)).1 x.1) → WrsP ws (k + 1)) := fun x e h1 h2 => HS.out.next (e ▸ h1) (e ▸ h2)
        have HY : Hid (∀ x, x = nthW ws k → (¬ WrP x ∨ (0 < k ∧ ¬ Less (nthW ws (k - 1)).1 x.1)) → ¬ TxP (true, n, ws) now) := fun x e h hh => by
          subst e
          have := HT.out.2 hh k hlt
          exact h.elim (fun h => h this.1) (fun h => h.2 (this.2 h.1))
        obtain ⟨x, hx⟩ : ∃ x, x = nthW ws k := ⟨_, rfl⟩
        have HE : Hid (x = nthW ws k) := hx
        rw [← hx] at q0 q1 q2 z1 z2
        clear hx
        obtain ⟨kx, vx, gx⟩ := x
        simp only at q0 q1 q2 z1 z2
        have HX' := HX.out _ HE.out
        have HY' := HY.out _ HE.out
        have HXX : Hid (WrP (kx, vx, gx) → (0 < k → Less (nthW ws (k - 1)).1 kx) → WrsP ws (k + 1)) := HX'
        have HYY : Hid ((¬ WrP (kx, vx, gx) ∨ (0 < k ∧ ¬ Less (nthW ws (k - 1)).1 kx)) → ¬ TxP (true, n, ws) now) := HY'
        clear HX HY HX' HY' HE
        obtain ⟨W1, hW1⟩ : ∃ W1, wr.alloc (.cells #[.string kx, .string vx, .bool gx] 93) = W1 := ⟨_, rfl⟩
        have b1 : Below wr.heap.size wr W1 := hW1 ▸ (Below.refl _ _).alloc (Nat.le_refl _) _
        have yb : W1.heap[wr.heap.size]? = some (.cells #[.string kx, .string vx, .bool gx] 93 (0, 0)) := hW1 ▸ heap_new' _ _ _ rfl
        have zb := kpBlk xb b1 (slab_lt xb)
        have hP : Hid (StW W0 wr.heap.size w.heap.size (kx, vx, gx) (.slice (some ⟨b, off, none⟩) len wc) W1.drew) := ⟨slab_cell yb, slab_cell yb, slab_cell yb, slab_cell zb, slab_lt yb, slab_lt zb, (below_step hbl (Nat.le_refl _) b1).drew⟩
        have HC : Hid (∀ W, Calls Try.prog 36 #[.string kx] W fun e w' => e = .returned (.bool (asB (KeyP kx))) ∧ Below W.heap.size W w') := fun W => (l07Key_any kx W z1).mono fun e w' h => ⟨h.1, h.2 ▸ Below.refl _ _⟩
        clear z1 xb yb zb
        unfold maxLen at z2
        cases hok : asB (KeyP kx) with
        | false =>
          rw [hok] at HC
          have HF : Hid (¬ TxP (true, n, ws) now) := HYY.out (.inl fun h => asB_not hok h.1)
          clear hok HXX HYY
          go_wp2_with fail
          refine wp_region_class (C := StW W0 wr.heap.size w.heap.size (kx, vx, gx) (.slice (some ⟨b, off, none⟩) len wc)) (by kernel_rfl) (by kernel_rfl) hP.out ?_
          repeat (first | go_big_quiet_skip | (go_big_quiet_want; apply Exists.intro; refine ⟨?_, ?_⟩; (focus (intro w' hw'; first | (obtain ⟨m0, m1, m2, m3, m4, m5, m6⟩ := hw'; go_simp; with_reducible rfl) | (go_simp; refine (HC.out w').mono ?_; rintro e w'' ⟨rfl, hb⟩; exact ⟨rfl, hw'.keep hb⟩))); (try simp only [Act.put, List.setIfInBounds_toArray, List.set_cons_zero, List.set_cons_succ]); go_big_quiet_on))
          refine wpQuiet_nil ?_
          intro w2 hw2
          have hB2 := hw2.2.2.2.2.2.2
          clear hw2
          go_wp2
          go_ret
          exact ⟨ret_bool' (asB_false HF.out), B0.trans (hB2.mono B0.size)⟩
        | true =>
          rw [hok] at HC
          have HK : Hid (KeyP kx) := asB_is hok
          clear hok
          by_cases h8 : (200 : Int) < (vx.size : Int)
          · have HF : Hid (¬ TxP (true, n, ws) now) := HYY.out (.inl fun h => by have := h.2.1; simp only at this; omega)
            clear HXX HYY
            go_wp2_with fail
            refine wp_region_class (C := StW W0 wr.heap.size w.heap.size (kx, vx, gx) (.slice (some ⟨b, off, none⟩) len wc)) (by kernel_rfl) (by kernel_rfl) hP.out ?_
            repeat (first | go_big_quiet_skip | (go_big_quiet_want; apply Exists.intro; refine ⟨?_, ?_⟩; (focus (intro w' hw'; first | (obtain ⟨m0, m1, m2, m3, m4, m5, m6⟩ := hw'; go_simp; with_reducible rfl) | (go_simp; refine (HC.out w').mono ?_; rintro e w'' ⟨rfl, hb⟩; exact ⟨rfl, hw'.keep hb⟩))); (try simp only [Act.put, List.setIfInBounds_toArray, List.set_cons_zero, List.set_cons_succ]); go_big_quiet_on))
            refine wpQuiet_nil ?_
            intro w2 hw2
            have hB2 := hw2.2.2.2.2.2.2
            clear hw2
            go_wp2
            go_ret
            exact ⟨ret_bool' (asB_false HF.out), B0.trans (hB2.mono B0.size)⟩
          have h8' : decide ((200 : Int) < (vx.size : Int)) = false := by simpa using h8
          have hem := emp vx
          by_cases hg : gx = true ∧ vx.toList.isEmpty = false
          · obtain ⟨rfl, he⟩ := hg
            have HF : Hid (¬ TxP (true, n, ws) now) := HYY.out (.inl fun h => by have := h.2.2 rfl; simp only at this; rw [he] at hem; have := of_decide_eq_false hem.symm; omega)
            clear HXX HYY hem
            go_wp2_with fail
            refine wp_region_class (C := StW W0 wr.heap.size w.heap.size (kx, vx, true) (.slice (some ⟨b, off, none⟩) len wc)) (by kernel_rfl) (by kernel_rfl) hP.out ?_
            repeat (first | go_big_quiet_skip | (go_big_quiet_want; apply Exists.intro; refine ⟨?_, ?_⟩; (focus (intro w' hw'; first | (obtain ⟨m0, m1, m2, m3, m4, m5, m6⟩ := hw'; go_simp; with_reducible rfl) | (go_simp; refine (HC.out w').mono ?_; rintro e w'' ⟨rfl, hb⟩; exact ⟨rfl, hw'.keep hb⟩))); (try simp only [Act.put, List.setIfInBounds_toArray, List.set_cons_zero, List.set_cons_succ]); go_big_quiet_on))
            refine wpQuiet_nil ?_
            intro w2 hw2
            have hB2 := hw2.2.2.2.2.2.2
            clear hw2
            go_wp2
            go_ret
            exact ⟨ret_bool' (asB_false HF.out), B0.trans (hB2.mono B0.size)⟩
          have HW : Hid (WrP (kx, vx, gx)) := ⟨HK.out, by simp only; omega, fun e => by
            simp only at e ⊢
            cases he : vx.toList.isEmpty with
            | true => rw [he] at hem; exact of_decide_eq_true hem.symm
            | false => exact absurd ⟨e, he⟩ hg⟩
          have hge : gx = false ∨ (gx = true ∧ vx.toList.isEmpty = true) := by
            cases gx
            · exact .inl rfl
            · cases he : vx.toList.isEmpty
              · exact absurd ⟨rfl, he⟩ hg
              · exact .inr ⟨rfl, rfl⟩
          clear hg hem
          by_cases hz : k = 0
          · subst hz
            have HN : Hid (WrsP ws (0 + 1)) := HXX.out HW.out (fun h => absurd h (by omega))
            clear HW HXX HYY
            rw [Nat.zero_mul, Nat.add_zero] at q0 q1 q2
            go_wp2_with fail
            rcases hge with rfl | ⟨rfl, he⟩
            all_goals
              refine wp_region_class (C := StW W0 wr.heap.size w.heap.size (kx, vx, _) (.slice (some ⟨b, off, none⟩) len wc)) (by kernel_rfl) (by kernel_rfl) hP.out ?_
              repeat (first | go_big_quiet_skip | (go_big_quiet_want; apply Exists.intro; refine ⟨?_, ?_⟩; (focus (intro w' hw'; first | (obtain ⟨m0, m1, m2, m3, m4, m5, m6⟩ := hw'; go_simp; with_reducible rfl) | (go_simp; refine (HC.out w').mono ?_; rintro e w'' ⟨rfl, hb⟩; exact ⟨rfl, hw'.keep hb⟩))); (try simp only [Act.put, List.setIfInBounds_toArray, List.set_cons_zero, List.set_cons_succ]); go_big_quiet_on))
              refine wpQuiet_nil ?_
              intro w2 hw2
              have hB2 := hw2.2.2.2.2.2.2
              clear hw2
              go_wp2
              go_roundw
              case rel => exact ⟨1, by omega, by go_num, HN, hB2⟩
              case measure => simp [intOf]; omega
          · obtain ⟨j, rfl⟩ : ∃ j, k = j + 1 := ⟨k - 1, by omega⟩
            obtain ⟨b', off', e', hlb', ⟨p0, _, _⟩, _, _⟩ := (HR.out.below hB) j (by rw [HL.out]; omega)
            cases e'
            have HXY : Hid (Op.bytesLess (nthW ws j).1.toList kx.toList = true → WrsP ws (j + 1 + 1)) := fun h => HXX.out HW.out (fun _ => by simp only [Nat.add_sub_cancel]; exact h)
            have HYZ : Hid (Op.bytesLess (nthW ws j).1.toList kx.toList = false → ¬ TxP (true, n, ws) now) := fun h => HYY.out (.inr ⟨by omega, fun hh => by simp only [Nat.add_sub_cancel] at hh; unfold Less at hh; rw [h] at hh; cases hh⟩)
            generalize (nthW ws j).1 = y at *
            have hP2 : Hid (StW W0 wr.heap.size w.heap.size (kx, vx, gx) (.slice (some ⟨b, off, none⟩) len wc) W1.drew ∧ W1.drew.cell? ⟨b, off + j * 3, none⟩ = some (.string y) ∧ b < W1.drew.heap.size) := ⟨hP.out, (b1.cell (p := ⟨b, off + j * 3, none⟩) hlb).trans p0, Nat.lt_of_lt_of_le hlb b1.size⟩
            have hsub : (j : Int) + 1 - 1 = (j : Int) := by omega
            have hj : (j : Int) < (len : Int) := by omega
            have hwr : IntKind.i64.wrap (j : Int) = (j : Int) := wrap_nat (by omega)
            have hpos : (0 : Int) < (j : Int) + 1 := by omega
            clear p0 hP b1 HW HXX HYY
            cases hless : Op.bytesLess y.toList kx.toList with
            | true =>
              have HN : Hid (WrsP ws (j + 1 + 1)) := HXY.out hless
              clear HXY HYZ
              go_wp2_with fail
              rcases hge with rfl | ⟨rfl, he⟩
              all_goals
                refine wp_region_class (C := fun w' => StW W0 wr.heap.size w.heap.size (kx, vx, _) (.slice (some ⟨b, off, none⟩) len wc) w' ∧ w'.cell? ⟨b, off + j * 3, none⟩ = some (.string y) ∧ b < w'.heap.size) (by kernel_rfl) (by kernel_rfl) hP2.out ?_
                repeat (first | go_big_quiet_skip | (go_big_quiet_want; apply Exists.intro; refine ⟨?_, ?_⟩; (focus (intro w' hw'; first | (obtain ⟨⟨m0, m1, m2, m3, m4, m5, m6⟩, m7, m8⟩ := hw'; go_simp; with_reducible rfl) | (go_simp; refine (HC.out w').mono ?_; rintro e w'' ⟨rfl, hb⟩; exact ⟨rfl, hw'.1.keep hb, (hb.cell (p := ⟨b, off + j * 3, none⟩) hw'.2.2).trans hw'.2.1, Nat.lt_of_lt_of_le hw'.2.2 hb.size⟩))); (try simp only [Act.put, List.setIfInBounds_toArray, List.set_cons_zero, List.set_cons_succ]); go_big_quiet_on))
                refine wpQuiet_nil ?_
                intro w2 hw2
                have hB2 := hw2.1.2.2.2.2.2.2
                clear hw2
                go_wp2
                go_roundw
                case rel => exact ⟨j + 1 + 1, by omega, by go_num, HN, hB2⟩
                case measure => simp [intOf]; omega
            | false =>
              have HF : Hid (¬ TxP (true, n, ws) now) := HYZ.out hless
              clear HXY HYZ
              go_wp2_with fail
              rcases hge with rfl | ⟨rfl, he⟩
              all_goals
                refine wp_region_class (C := fun w' => StW W0 wr.heap.size w.heap.size (kx, vx, _) (.slice (some ⟨b, off, none⟩) len wc) w' ∧ w'.cell? ⟨b, off + j * 3, none⟩ = some (.string y) ∧ b < w'.heap.size) (by kernel_rfl) (by kernel_rfl) hP2.out ?_
                repeat (first | go_big_quiet_skip | (go_big_quiet_want; apply Exists.intro; refine ⟨?_, ?_⟩; (focus (intro w' hw'; first | (obtain ⟨⟨m0, m1, m2, m3, m4, m5, m6⟩, m7, m8⟩ := hw'; go_simp; with_reducible rfl) | (go_simp; refine (HC.out w').mono ?_; rintro e w'' ⟨rfl, hb⟩; exact ⟨rfl, hw'.1.keep hb, (hb.cell (p := ⟨b, off + j * 3, none⟩) hw'.2.2).trans hw'.2.1, Nat.lt_of_lt_of_le hw'.2.2 hb.size⟩))); (try simp only [Act.put, List.setIfInBounds_toArray, List.set_cons_zero, List.set_cons_succ]); go_big_quiet_on))
                refine wpQuiet_nil ?_
                intro w2 hw2
                have hB2 := hw2.1.2.2.2.2.2.2
                clear hw2
                go_wp2
                go_ret
                exact ⟨ret_bool' (asB_false HF.out), B0.trans (hB2.mono B0.size)⟩
      · obtain rfl : k = len := by omega
        have xb := kpBlk XB.out hbl (slab_lt XB.out)
        have cS : wr.cell? ⟨w.heap.size, 2, none⟩ = some (.slice wa k wc) := slab_cell xb
        clear xb
        go_wp2
        go_ret
        exact ⟨ret_bool' (asB_true (HT.out.1 HS.out)), hB⟩
end Go.Proofs.Ytmkagolechjjkaa
