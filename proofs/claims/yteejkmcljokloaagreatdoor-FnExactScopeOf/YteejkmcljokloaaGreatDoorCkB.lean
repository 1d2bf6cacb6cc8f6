/- The specification's look at a catalog (stage 9). -/
import Derived.Test.YteejkmcljokloaaGreatDoorCkA
namespace Go.Proofs.YteejkmcljokloaaGreatDoor
open Go.RowKit

set_option maxRecDepth 100000 in
set_option maxHeartbeats 4000000 in
theorem specCatalogOK_any (a : Option Addr) (cap : Nat) (ss : List TT) (w : World) (h : RowTb w a ss) (hl : ss.length ≤ 1048576) (hz : ∀ i, i < ss.length → SmallT (nthT ss i)) :
    Calls Tryz.prog 20 #[.slice a ss.length cap] w fun e w' => e = .returned (.bool (asB (CatP ss))) ∧ Below w.heap.size w w' := by
  have HR : Hid (RowTb w a ss) := h
  have HZ : Hid (∀ i, i < ss.length → SmallT (nthT ss i)) := hz
  clear h hz
  obtain ⟨len, hL⟩ : ∃ m, ss.length = m := ⟨_, rfl⟩
  have HL : Hid (ss.length = len) := hL
  have HP : Hid (CatP ss ↔ len ≤ 6 ∧ CatUp ss len) := by rw [← hL]; exact Iff.rfl
  rw [hL] at hl HZ ⊢
  clear hL
  by_cases h6 : (6 : Int) < (len : Int)
  · have HF : Hid (¬ CatP ss) := fun h => by have := (HP.out.1 h).1; omega
    by_cases h4 : (4096 : Int) < (len : Int)
    all_goals
      go_enter Tryz.func20, Tryz.ntmps20
      go_wp2
      go_ret
      exact ⟨ret_bool' (asB_false HF.out), Below.refl _ _⟩
  have HT : Hid (CatP ss ↔ CatUp ss len) := ⟨fun h => (HP.out.1 h).2, fun h => HP.out.2 ⟨by omega, h⟩⟩
  clear HP
  go_enter Tryz.func20, Tryz.ntmps20
  go_wp2
  go_loopw [3] (fun i wr => ∃ k : Nat, k ≤ len ∧ i = .int .i64 k ∧ Hid (CatUp ss k) ∧ Below w.heap.size w wr) (fun i _ => len - (intOf i).toNat)
  case atStart => exact ⟨0, by omega, rfl, fun i hi => by omega, Below.refl _ _⟩
  case round =>
    obtain ⟨k, hk, rfl, HS, hbl⟩ := hrel
    by_cases hlt : k < len
    · have hltI : (k : Int) < (len : Int) := by omega
      obtain ⟨b, off, ca, cc, xa, xc, rfl, hlb, ⟨q0, q1, q2, q3⟩, hr, hx, hn, lc, lx, kc, kx⟩ := (HR.out.below hbl) k (by rw [HL.out]; exact hlt)
      have HRr : Hid ((RowC wr ca (nthT ss k).2.1 ∧ RowX wr xa (nthT ss k).2.2.2) ∧ SmallT (nthT ss k)) := ⟨⟨hr, hx⟩, HZ.out k hlt⟩
      have HC1 : Hid (∀ W, RowC W ca (nthT ss k).2.1 → RowX W xa (nthT ss k).2.2.2 → Calls Tryz.prog 39 #[TbV (nthT ss k).1 (.slice ca (nthT ss k).2.1.length cc) (nthT ss k).2.2.1 (.slice xa (nthT ss k).2.2.2.length xc)] W fun e w' => e = .returned (.bool (asB (TabQ (nthT ss k)))) ∧ Below W.heap.size W w') := fun W h1 h2 => specTableOK_any _ _ _ _ _ _ _ _ W h1 h2 hn HRr.out.2.2.1.1 HRr.out.2.2.2.1 HRr.out.2.2.2.2 kc kx
      have HU : Hid (CatP ss → TabQ (nthT ss k) ∧ (0 < k → Less (nthT ss (k - 1)).1 (nthT ss k).1)) := fun h => HT.out.1 h k hlt
      have HV : Hid (TabQ (nthT ss k) → (0 < k → Less (nthT ss (k - 1)).1 (nthT ss k).1) → CatUp ss (k + 1)) := fun h1 h2 => HS.out.next h1 h2
      clear hr hx hn lc lx kc kx HS
      by_cases hz : k = 0
      · subst hz
        generalize nthT ss 0 = x at *
        obtain ⟨nx, cs, ky, xs⟩ := x
        simp only at q0 q1 q2 q3 HRr HC1
        have b1 : Below wr.heap.size wr wr := Below.refl _ _
        have hP : Hid (StK w b (off + 0 * 4) nx (.slice ca cs.length cc) ky (.slice xa xs.length xc) ca cs xa xs wr.drew) := ⟨q0, q1, q2, q3, hlb, fun i hi => HRr.out.1.1 i hi, fun i hi => HRr.out.1.2 i hi, hbl.drew⟩
        rw [Nat.zero_mul, Nat.add_zero] at q0 q1 q2 q3 hP
        cases hok : asB (TabQ (nx, cs, ky, xs)) with
        | false =>
          rw [hok] at HC1
          have HF : Hid (¬ CatP ss) := fun h => asB_not hok (HU.out h).1
          clear hok HU HV HT HRr b1
          go_wp2_with fail
          refine wp_region_class (C := StK w b off nx (.slice ca cs.length cc) ky (.slice xa xs.length xc) ca cs xa xs) (by kernel_rfl) (by kernel_rfl) hP.out ?_
          repeat (first | go_big_quiet_skip | (go_big_quiet_want; apply Exists.intro; refine ⟨?_, ?_⟩; (focus (intro w' hw'; first | (obtain ⟨m0, m1, m2, m3, m4, m5, m6, m7⟩ := hw'; go_simp; with_reducible rfl) | (go_simp; refine (HC1.out w' hw'.2.2.2.2.2.1 hw'.2.2.2.2.2.2.1).mono ?_; rintro e w'' ⟨rfl, hb⟩; exact ⟨rfl, hw'.keep hb⟩))); (try simp only [Act.put, List.setIfInBounds_toArray, List.set_cons_zero, List.set_cons_succ]); go_big_quiet_on))
          refine wpQuiet_nil ?_
          intro w2 hw2
          have hB2 := hw2.2.2.2.2.2.2.2
          clear hw2
          go_wp2
          go_ret
          exact ⟨ret_bool' (asB_false HF.out), hB2⟩
        | true =>
          rw [hok] at HC1
          have HN : Hid (CatUp ss (0 + 1)) := HV.out (asB_is hok) (fun h => absurd h (by omega))
          clear hok HU HV HRr b1
          go_wp2_with fail
          refine wp_region_class (C := StK w b off nx (.slice ca cs.length cc) ky (.slice xa xs.length xc) ca cs xa xs) (by kernel_rfl) (by kernel_rfl) hP.out ?_
          repeat (first | go_big_quiet_skip | (go_big_quiet_want; apply Exists.intro; refine ⟨?_, ?_⟩; (focus (intro w' hw'; first | (obtain ⟨m0, m1, m2, m3, m4, m5, m6, m7⟩ := hw'; go_simp; with_reducible rfl) | (go_simp; refine (HC1.out w' hw'.2.2.2.2.2.1 hw'.2.2.2.2.2.2.1).mono ?_; rintro e w'' ⟨rfl, hb⟩; exact ⟨rfl, hw'.keep hb⟩))); (try simp only [Act.put, List.setIfInBounds_toArray, List.set_cons_zero, List.set_cons_succ]); go_big_quiet_on))
          refine wpQuiet_nil ?_
          intro w2 hw2
          have hB2 := hw2.2.2.2.2.2.2.2
          clear hw2
          go_wp2
          go_roundw
          case rel => exact ⟨1, by omega, by go_num, HN, hB2⟩
          case measure => simp [intOf]; omega
      · obtain ⟨j, hkj⟩ : ∃ j, k = j + 1 := ⟨k - 1, by omega⟩
        have e1 : k - 1 = j := by omega
        rw [e1] at HU HV
        obtain ⟨b', off', _, _, _, _, e', _, ⟨p0, _⟩, _⟩ := (HR.out.below hbl) j (by rw [HL.out]; omega)
        cases e'
        generalize nthT ss k = x at *
        generalize (nthT ss j).1 = y at *
        obtain ⟨nx, cs, ky, xs⟩ := x
        simp only at q0 q1 q2 q3 HRr HC1 HU HV
        have b1 : Below wr.heap.size wr wr := Below.refl _ _
        have hP : Hid (StK w b (off + k * 4) nx (.slice ca cs.length cc) ky (.slice xa xs.length xc) ca cs xa xs wr.drew) := ⟨q0, q1, q2, q3, hlb, fun i hi => HRr.out.1.1 i hi, fun i hi => HRr.out.1.2 i hi, hbl.drew⟩
        have hP2 : Hid (StK w b (off + k * 4) nx (.slice ca cs.length cc) ky (.slice xa xs.length xc) ca cs xa xs wr.drew ∧ wr.drew.cell? ⟨b, off + j * 4, none⟩ = some (.string y) ∧ b < wr.drew.heap.size) := ⟨hP.out, (b1.cell (p := ⟨b, off + j * 4, none⟩) hlb).trans p0, Nat.lt_of_lt_of_le hlb b1.size⟩
        have hsub : (k : Int) - 1 = (j : Int) := by omega
        have hwk : IntKind.i64.wrap (k : Int) = (k : Int) := wrap_nat (by omega)
        have hj : (j : Int) < (len : Int) := by omega
        have hwr : IntKind.i64.wrap (j : Int) = (j : Int) := wrap_nat (by omega)
        have hpos : (0 : Int) < (k : Int) := by omega
        have hk0 : 0 < k := by omega
        clear e1 hkj hz
        clear hP p0 b1
        cases hok : asB (TabQ (nx, cs, ky, xs)) with
        | false =>
          rw [hok] at HC1
          have HF : Hid (¬ CatP ss) := fun h => asB_not hok (HU.out h).1
          clear hok HU HV HT HRr
          go_wp2_with fail
          refine wp_region_class (C := fun w' => StK w b (off + k * 4) nx (.slice ca cs.length cc) ky (.slice xa xs.length xc) ca cs xa xs w' ∧ w'.cell? ⟨b, off + j * 4, none⟩ = some (.string y) ∧ b < w'.heap.size) (by kernel_rfl) (by kernel_rfl) hP2.out ?_
          repeat (first | go_big_quiet_skip | (go_big_quiet_want; apply Exists.intro; refine ⟨?_, ?_⟩; (focus (intro w' hw'; first | (obtain ⟨⟨m0, m1, m2, m3, m4, m5, m6, m7⟩, m8, m9⟩ := hw'; go_simp; with_reducible rfl) | (go_simp; refine (HC1.out w' hw'.1.2.2.2.2.2.1 hw'.1.2.2.2.2.2.2.1).mono ?_; rintro e w'' ⟨rfl, hb⟩; exact ⟨rfl, hw'.1.keep hb, (hb.cell (p := ⟨b, off + j * 4, none⟩) hw'.2.2).trans hw'.2.1, Nat.lt_of_lt_of_le hw'.2.2 hb.size⟩))); (try simp only [Act.put, List.setIfInBounds_toArray, List.set_cons_zero, List.set_cons_succ]); go_big_quiet_on))
          refine wpQuiet_nil ?_
          intro w2 hw2
          have hB2 := hw2.1.2.2.2.2.2.2.2
          clear hw2
          go_wp2
          go_ret
          exact ⟨ret_bool' (asB_false HF.out), hB2⟩
        | true =>
          rw [hok] at HC1
          have HK : Hid (TabQ (nx, cs, ky, xs)) := asB_is hok
          clear hok
          cases hless : Op.bytesLess y.toList nx.toList with
          | false =>
            have HF : Hid (¬ CatP ss) := fun h => by have := (HU.out h).2 hk0; unfold Less at this; rw [hless] at this; cases this
            clear HU HV HT HRr HK
            go_wp2_with fail
            refine wp_region_class (C := fun w' => StK w b (off + k * 4) nx (.slice ca cs.length cc) ky (.slice xa xs.length xc) ca cs xa xs w' ∧ w'.cell? ⟨b, off + j * 4, none⟩ = some (.string y) ∧ b < w'.heap.size) (by kernel_rfl) (by kernel_rfl) hP2.out ?_
            repeat (first | go_big_quiet_skip | (go_big_quiet_want; apply Exists.intro; refine ⟨?_, ?_⟩; (focus (intro w' hw'; first | (obtain ⟨⟨m0, m1, m2, m3, m4, m5, m6, m7⟩, m8, m9⟩ := hw'; go_simp; with_reducible rfl) | (go_simp; refine (HC1.out w' hw'.1.2.2.2.2.2.1 hw'.1.2.2.2.2.2.2.1).mono ?_; rintro e w'' ⟨rfl, hb⟩; exact ⟨rfl, hw'.1.keep hb, (hb.cell (p := ⟨b, off + j * 4, none⟩) hw'.2.2).trans hw'.2.1, Nat.lt_of_lt_of_le hw'.2.2 hb.size⟩))); (try simp only [Act.put, List.setIfInBounds_toArray, List.set_cons_zero, List.set_cons_succ]); go_big_quiet_on))
            refine wpQuiet_nil ?_
            intro w2 hw2
            have hB2 := hw2.1.2.2.2.2.2.2.2
            clear hw2
            go_wp2
            go_ret
            exact ⟨ret_bool' (asB_false HF.out), hB2⟩
          | true =>
            have HN : Hid (CatUp ss (k + 1)) := HV.out HK.out (fun _ => hless)
            clear HU HV HRr HK
            go_wp2_with fail
            refine wp_region_class (C := fun w' => StK w b (off + k * 4) nx (.slice ca cs.length cc) ky (.slice xa xs.length xc) ca cs xa xs w' ∧ w'.cell? ⟨b, off + j * 4, none⟩ = some (.string y) ∧ b < w'.heap.size) (by kernel_rfl) (by kernel_rfl) hP2.out ?_
            repeat (first | go_big_quiet_skip | (go_big_quiet_want; apply Exists.intro; refine ⟨?_, ?_⟩; (focus (intro w' hw'; first | (obtain ⟨⟨m0, m1, m2, m3, m4, m5, m6, m7⟩, m8, m9⟩ := hw'; go_simp; with_reducible rfl) | (go_simp; refine (HC1.out w' hw'.1.2.2.2.2.2.1 hw'.1.2.2.2.2.2.2.1).mono ?_; rintro e w'' ⟨rfl, hb⟩; exact ⟨rfl, hw'.1.keep hb, (hb.cell (p := ⟨b, off + j * 4, none⟩) hw'.2.2).trans hw'.2.1, Nat.lt_of_lt_of_le hw'.2.2 hb.size⟩))); (try simp only [Act.put, List.setIfInBounds_toArray, List.set_cons_zero, List.set_cons_succ]); go_big_quiet_on))
            refine wpQuiet_nil ?_
            intro w2 hw2
            have hB2 := hw2.1.2.2.2.2.2.2.2
            clear hw2
            go_wp2
            go_roundw
            case rel => exact ⟨k + 1, by omega, by go_num, HN, hB2⟩
            case measure => simp [intOf]; omega
    · obtain rfl : k = len := by omega
      go_wp2
      go_ret
      exact ⟨ret_bool' (asB_true (HT.out.2 HS.out)), hbl⟩
end Go.Proofs.YteejkmcljokloaaGreatDoor
