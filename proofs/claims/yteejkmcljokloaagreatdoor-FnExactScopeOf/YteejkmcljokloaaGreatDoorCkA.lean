/- When a catalog is right; both looks at it (stage 9). -/
import Derived.Test.YteejkmcljokloaaGreatDoorTkB
import Derived.Test.YteejkmcljokloaaGreatDoorTbD
namespace Go.Proofs.YteejkmcljokloaaGreatDoor
open Go.RowKit

theorem less_tot : ∀ x y : List UInt8, (Op.bytesLess y x || y == x) = !Op.bytesLess x y
  | [], [] => rfl
  | [], b :: y => by simp [Op.bytesLess]
  | a :: x, [] => by simp [Op.bytesLess]
  | a :: x, b :: y => by
    have ih := less_tot x y
    unfold Op.bytesLess
    by_cases e : a = b
    · subst e
      simp
      rw [← ih]
    · have e' : ¬ b = a := fun h => e h.symm
      have h1 : (b == a) = false := by simpa using e'
      have h2 : (a == b) = false := by simpa using e
      rw [h1, h2]
      have h3 : (b :: y == a :: x) = false := by simp [e']
      rw [h3]
      simp
      have : a.toNat ≠ b.toNat := fun h => e (UInt8.toNat_inj.1 h)
      rcases Nat.lt_or_ge a.toNat b.toNat with h | h
      · have p1 : a < b := UInt8.lt_iff_toNat_lt.2 h
        have p2 : ¬ b < a := fun h' => by have := UInt8.lt_iff_toNat_lt.1 h'; omega
        rw [decide_eq_true p1, decide_eq_false p2]; rfl
      · have p1 : ¬ a < b := fun h' => by have := UInt8.lt_iff_toNat_lt.1 h'; omega
        have p2 : b < a := UInt8.lt_iff_toNat_lt.2 (by omega)
        rw [decide_eq_false p1, decide_eq_true p2]; rfl
def Less (x y : ByteArray) : Prop := Op.bytesLess x.toList y.toList = true
/-- A table is right, as one thing. -/
def TabQ (x : TT) : Prop := TabP x.1 x.2.1 x.2.2.1 x.2.2.2
/-- The tables are right and rise, up to k. -/
def CatUp (ss : List TT) (k : Nat) : Prop := ∀ j, j < k → TabQ (nthT ss j) ∧ (0 < j → Less (nthT ss (j - 1)).1 (nthT ss j).1)
def CatP (ss : List TT) : Prop := ss.length ≤ 6 ∧ CatUp ss ss.length
theorem CatUp.next {ss : List TT} {k : Nat} (h : CatUp ss k) (h1 : TabQ (nthT ss k)) (h2 : 0 < k → Less (nthT ss (k - 1)).1 (nthT ss k).1) : CatUp ss (k + 1) := fun i hi => by
  by_cases e : i = k
  · subst e; exact ⟨h1, h2⟩
  · exact h i (by omega)
/-- What stands while a table is looked at. -/
abbrev StK (W : World) (nb o : Nat) (nm : ByteArray) (cv : Value) (key : Int) (xv : Value) (ca : Option Addr) (cs : List TC) (xa : Option Addr) (xs : List TX) (w' : World) : Prop := w'.cell? ⟨nb, o, none⟩ = some (.string nm) ∧ w'.cell? ⟨nb, o + 1, none⟩ = some cv ∧ w'.cell? ⟨nb, o + 2, none⟩ = some (.int .i64 key) ∧ w'.cell? ⟨nb, o + 3, none⟩ = some xv ∧ nb < w'.heap.size ∧ RowC w' ca cs ∧ RowX w' xa xs ∧ Below W.heap.size W w'
theorem StK.keep {W : World} {nb o : Nat} {nm : ByteArray} {cv xv : Value} {key : Int} {ca xa : Option Addr} {cs : List TC} {xs : List TX} {w1 w2 : World} (h : StK W nb o nm cv key xv ca cs xa xs w1) (hb : Below w1.heap.size w1 w2) : StK W nb o nm cv key xv ca cs xa xs w2 :=
  ⟨(hb.cell (p := ⟨nb, o, none⟩) h.2.2.2.2.1).trans h.1, (hb.cell (p := ⟨nb, o + 1, none⟩) h.2.2.2.2.1).trans h.2.1, (hb.cell (p := ⟨nb, o + 2, none⟩) h.2.2.2.2.1).trans h.2.2.1, (hb.cell (p := ⟨nb, o + 3, none⟩) h.2.2.2.2.1).trans h.2.2.2.1, Nat.lt_of_lt_of_le h.2.2.2.2.1 hb.size, h.2.2.2.2.2.1.below hb, h.2.2.2.2.2.2.1.below hb, below_step h.2.2.2.2.2.2.2 (Nat.le_refl _) hb⟩

set_option maxRecDepth 100000 in
set_option maxHeartbeats 4000000 in
theorem implCatalogOK_any (a : Option Addr) (cap : Nat) (ss : List TT) (w : World) (h : RowTb w a ss) (hl : ss.length ≤ 1048576) (hz : ∀ i, i < ss.length → SmallT (nthT ss i)) :
    Calls Tryz.prog 50 #[.slice a ss.length cap] w fun e w' => e = .returned (.bool (asB (CatP ss))) ∧ Below w.heap.size w w' := by
  have HR : Hid (RowTb w a ss) := h
  have HZ : Hid (∀ i, i < ss.length → SmallT (nthT ss i)) := hz
  clear h hz
  obtain ⟨len, hL⟩ : ∃ m, ss.length = m := ⟨_, rfl⟩
  have HL : Hid (ss.length = len) := hL
  have HP : Hid (CatP ss ↔ len ≤ 6 ∧ CatUp ss len) := by rw [← hL]; exact Iff.rfl
  rw [hL] at hl HZ ⊢
  clear hL
  by_cases h6 : (6 : Int) < (len : Int)
  · have HF : Hid (¬ CatP ss) := fun h => by have := (HP.out.1 h).1; omega

    go_enter Tryz.func50, Tryz.ntmps50
    go_wp2
    go_ret
    exact ⟨ret_bool' (asB_false HF.out), Below.refl _ _⟩
  have HT : Hid (CatP ss ↔ CatUp ss len) := ⟨fun h => (HP.out.1 h).2, fun h => HP.out.2 ⟨by omega, h⟩⟩
  clear HP
  go_enter Tryz.func50, Tryz.ntmps50
  go_wp2
  go_loopw [10] (fun i wr => ∃ k : Nat, k ≤ len ∧ i = .int .i64 k ∧ Hid (CatUp ss k) ∧ Below w.heap.size w wr) (fun i _ => len - (intOf i).toNat)
  case atStart => exact ⟨0, by omega, rfl, fun i hi => by omega, Below.refl _ _⟩
  case round =>
    obtain ⟨k, hk, rfl, HS, hbl⟩ := hrel
    by_cases hlt : k < len
    · have hltI : (k : Int) < (len : Int) := by omega
      obtain ⟨b, off, ca, cc, xa, xc, rfl, hlb, ⟨q0, q1, q2, q3⟩, hr, hx, hn, lc, lx, kc, kx⟩ := (HR.out.below hbl) k (by rw [HL.out]; exact hlt)
      have HRr : Hid ((RowC wr ca (nthT ss k).2.1 ∧ RowX wr xa (nthT ss k).2.2.2) ∧ SmallT (nthT ss k)) := ⟨⟨hr, hx⟩, HZ.out k hlt⟩
      have HC1 : Hid (∀ W, RowC W ca (nthT ss k).2.1 → RowX W xa (nthT ss k).2.2.2 → Calls Tryz.prog 71 #[TbV (nthT ss k).1 (.slice ca (nthT ss k).2.1.length cc) (nthT ss k).2.2.1 (.slice xa (nthT ss k).2.2.2.length xc)] W fun e w' => e = .returned (.bool (asB (TabQ (nthT ss k)))) ∧ Below W.heap.size W w') := fun W h1 h2 => implTableOK_any _ _ _ _ _ _ _ _ W h1 h2 hn HRr.out.2.2.1.1 HRr.out.2.2.2.1 HRr.out.2.2.2.2 kc kx
      have HU : Hid (CatP ss → TabQ (nthT ss k) ∧ (0 < k → Less (nthT ss (k - 1)).1 (nthT ss k).1)) := fun h => HT.out.1 h k hlt
      have HV : Hid (TabQ (nthT ss k) → (0 < k → Less (nthT ss (k - 1)).1 (nthT ss k).1) → CatUp ss (k + 1)) := fun h1 h2 => HS.out.next h1 h2
      clear hr hx hn lc lx kc kx HS
      by_cases hz : k = 0
      · subst hz
        generalize nthT ss 0 = x at *
        obtain ⟨nx, cs, ky, xs⟩ := x
        simp only at q0 q1 q2 q3 HRr HC1
        obtain ⟨W1, hW1⟩ : ∃ W1, wr.alloc (.cells #[.string nx, .slice ca cs.length cc, .int .i64 ky, .slice xa xs.length xc] 59) = W1 := ⟨_, rfl⟩
        have b1 : Below wr.heap.size wr W1 := hW1 ▸ (Below.refl _ _).alloc (Nat.le_refl _) _
        have yb : W1.heap[wr.heap.size]? = some (.cells #[.string nx, .slice ca cs.length cc, .int .i64 ky, .slice xa xs.length xc] 59 (0, 0)) := hW1 ▸ heap_new' _ _ _ rfl
        have hP : Hid (StK w wr.heap.size 0 nx (.slice ca cs.length cc) ky (.slice xa xs.length xc) ca cs xa xs W1.drew) := ⟨slab_cell yb, slab_cell yb, slab_cell yb, slab_cell yb, slab_lt yb, fun i hi => (HRr.out.1.1.below b1) i hi, fun i hi => (HRr.out.1.2.below b1) i hi, (below_step hbl (Nat.le_refl _) b1).drew⟩
        rw [Nat.zero_mul, Nat.add_zero] at q0 q1 q2 q3
        cases hok : asB (TabQ (nx, cs, ky, xs)) with
        | false =>
          rw [hok] at HC1
          have HF : Hid (¬ CatP ss) := fun h => asB_not hok (HU.out h).1
          clear hok HU HV HT HRr b1
          go_wp2_with fail
          refine wp_region_class (C := StK w wr.heap.size 0 nx (.slice ca cs.length cc) ky (.slice xa xs.length xc) ca cs xa xs) (by kernel_rfl) (by kernel_rfl) hP.out ?_
          repeat (first | go_big_quiet_skip | (go_big_quiet_want; apply Exists.intro; refine ⟨?_, ?_⟩; (focus (intro w' hw'; first | (obtain ⟨m0, m1, m2, m3, m4, m5, m6, m7⟩ := hw'; go_simp; with_reducible rfl) | (go_simp; refine (HC1.out w' hw'.2.2.2.2.2.1 hw'.2.2.2.2.2.2.1).mono ?_; rintro e w'' ⟨rfl, hb⟩; exact ⟨rfl, hw'.keep hb⟩))); (try simp only [Act.put, List.setIfInBounds_toArray, List.set_cons_zero, List.set_cons_succ]); go_big_quiet_on))
          refine wpQuiet_nil ?_
          intro w2 hw2
          have hB2 := hw2.2.2.2.2.2.2.2
          clear hw2
          go_wp2
          go_ret
          exact ⟨ret_bool' (asB_false HF.out), hB2⟩
        | true =>
          rw [hok] at HC1
          have HN : Hid (CatUp ss (0 + 1)) := HV.out (asB_is hok) (fun h => absurd h (by omega))
          clear hok HU HV HRr b1
          go_wp2_with fail
          refine wp_region_class (C := StK w wr.heap.size 0 nx (.slice ca cs.length cc) ky (.slice xa xs.length xc) ca cs xa xs) (by kernel_rfl) (by kernel_rfl) hP.out ?_
          repeat (first | go_big_quiet_skip | (go_big_quiet_want; apply Exists.intro; refine ⟨?_, ?_⟩; (focus (intro w' hw'; first | (obtain ⟨m0, m1, m2, m3, m4, m5, m6, m7⟩ := hw'; go_simp; with_reducible rfl) | (go_simp; refine (HC1.out w' hw'.2.2.2.2.2.1 hw'.2.2.2.2.2.2.1).mono ?_; rintro e w'' ⟨rfl, hb⟩; exact ⟨rfl, hw'.keep hb⟩))); (try simp only [Act.put, List.setIfInBounds_toArray, List.set_cons_zero, List.set_cons_succ]); go_big_quiet_on))
          refine wpQuiet_nil ?_
          intro w2 hw2
          have hB2 := hw2.2.2.2.2.2.2.2
          clear hw2
          go_wp2
          go_roundw
          case rel => exact ⟨1, by omega, by go_num, HN, hB2⟩
          case measure => simp [intOf]; omega
      · obtain ⟨j, rfl⟩ : ∃ j, k = j + 1 := ⟨k - 1, by omega⟩
        simp only [Nat.add_sub_cancel] at HU HV
        obtain ⟨b', off', _, _, _, _, e', _, ⟨p0, _⟩, _⟩ := (HR.out.below hbl) j (by rw [HL.out]; omega)
        cases e'
        generalize nthT ss (j + 1) = x at *
        generalize (nthT ss j).1 = y at *
        obtain ⟨nx, cs, ky, xs⟩ := x
        simp only at q0 q1 q2 q3 HRr HC1 HU HV
        obtain ⟨W1, hW1⟩ : ∃ W1, wr.alloc (.cells #[.string nx, .slice ca cs.length cc, .int .i64 ky, .slice xa xs.length xc] 59) = W1 := ⟨_, rfl⟩
        have b1 : Below wr.heap.size wr W1 := hW1 ▸ (Below.refl _ _).alloc (Nat.le_refl _) _
        have yb : W1.heap[wr.heap.size]? = some (.cells #[.string nx, .slice ca cs.length cc, .int .i64 ky, .slice xa xs.length xc] 59 (0, 0)) := hW1 ▸ heap_new' _ _ _ rfl
        have hP : Hid (StK w wr.heap.size 0 nx (.slice ca cs.length cc) ky (.slice xa xs.length xc) ca cs xa xs W1.drew) := ⟨slab_cell yb, slab_cell yb, slab_cell yb, slab_cell yb, slab_lt yb, fun i hi => (HRr.out.1.1.below b1) i hi, fun i hi => (HRr.out.1.2.below b1) i hi, (below_step hbl (Nat.le_refl _) b1).drew⟩
        have hP2 : Hid (StK w wr.heap.size 0 nx (.slice ca cs.length cc) ky (.slice xa xs.length xc) ca cs xa xs W1.drew ∧ W1.drew.cell? ⟨b, off + j * 4, none⟩ = some (.string y) ∧ b < W1.drew.heap.size) := ⟨hP.out, (b1.cell (p := ⟨b, off + j * 4, none⟩) hlb).trans p0, Nat.lt_of_lt_of_le hlb b1.size⟩
        have hsub : (j : Int) + 1 - 1 = (j : Int) := by omega
        have hj : (j : Int) < (len : Int) := by omega
        have hwr : IntKind.i64.wrap (j : Int) = (j : Int) := wrap_nat (by omega)
        have hpos : (0 : Int) < (j : Int) + 1 := by omega
        have htot := less_tot y.toList nx.toList
        clear hP p0 b1
        cases hok : asB (TabQ (nx, cs, ky, xs)) with
        | false =>
          rw [hok] at HC1
          have HF : Hid (¬ CatP ss) := fun h => asB_not hok (HU.out h).1
          clear hok HU HV HT HRr htot
          go_wp2_with fail
          refine wp_region_class (C := fun w' => StK w wr.heap.size 0 nx (.slice ca cs.length cc) ky (.slice xa xs.length xc) ca cs xa xs w' ∧ w'.cell? ⟨b, off + j * 4, none⟩ = some (.string y) ∧ b < w'.heap.size) (by kernel_rfl) (by kernel_rfl) hP2.out ?_
          repeat (first | go_big_quiet_skip | (go_big_quiet_want; apply Exists.intro; refine ⟨?_, ?_⟩; (focus (intro w' hw'; first | (obtain ⟨⟨m0, m1, m2, m3, m4, m5, m6, m7⟩, m8, m9⟩ := hw'; go_simp; with_reducible rfl) | (go_simp; refine (HC1.out w' hw'.1.2.2.2.2.2.1 hw'.1.2.2.2.2.2.2.1).mono ?_; rintro e w'' ⟨rfl, hb⟩; exact ⟨rfl, hw'.1.keep hb, (hb.cell (p := ⟨b, off + j * 4, none⟩) hw'.2.2).trans hw'.2.1, Nat.lt_of_lt_of_le hw'.2.2 hb.size⟩))); (try simp only [Act.put, List.setIfInBounds_toArray, List.set_cons_zero, List.set_cons_succ]); go_big_quiet_on))
          refine wpQuiet_nil ?_
          intro w2 hw2
          have hB2 := hw2.1.2.2.2.2.2.2.2
          clear hw2
          go_wp2
          go_ret
          exact ⟨ret_bool' (asB_false HF.out), hB2⟩
        | true =>
          rw [hok] at HC1
          have HK : Hid (TabQ (nx, cs, ky, xs)) := asB_is hok
          clear hok
          cases hless : Op.bytesLess y.toList nx.toList with
          | false =>
            have HF : Hid (¬ CatP ss) := fun h => by have := (HU.out h).2 (by omega); unfold Less at this; rw [hless] at this; cases this
            rw [hless] at htot
            have ht : _ = true := htot
            clear HU HV HT HRr HK htot hless
            go_wp2_with fail
            refine wp_region_class (C := fun w' => StK w wr.heap.size 0 nx (.slice ca cs.length cc) ky (.slice xa xs.length xc) ca cs xa xs w' ∧ w'.cell? ⟨b, off + j * 4, none⟩ = some (.string y) ∧ b < w'.heap.size) (by kernel_rfl) (by kernel_rfl) hP2.out ?_
            repeat (first | go_big_quiet_skip | (go_big_quiet_want; apply Exists.intro; refine ⟨?_, ?_⟩; (focus (intro w' hw'; first | (obtain ⟨⟨m0, m1, m2, m3, m4, m5, m6, m7⟩, m8, m9⟩ := hw'; go_simp; with_reducible rfl) | (go_simp; refine (HC1.out w' hw'.1.2.2.2.2.2.1 hw'.1.2.2.2.2.2.2.1).mono ?_; rintro e w'' ⟨rfl, hb⟩; exact ⟨rfl, hw'.1.keep hb, (hb.cell (p := ⟨b, off + j * 4, none⟩) hw'.2.2).trans hw'.2.1, Nat.lt_of_lt_of_le hw'.2.2 hb.size⟩))); (try simp only [Act.put, List.setIfInBounds_toArray, List.set_cons_zero, List.set_cons_succ]); go_big_quiet_on))
            refine wpQuiet_nil ?_
            intro w2 hw2
            have hB2 := hw2.1.2.2.2.2.2.2.2
            clear hw2
            go_wp2
            go_ret
            exact ⟨ret_bool' (asB_false HF.out), hB2⟩
          | true =>
            have HN : Hid (CatUp ss (j + 1 + 1)) := HV.out HK.out (fun _ => hless)
            rw [hless] at htot
            have ht : _ = false := htot
            clear HU HV HRr HK htot hless
            go_wp2_with fail
            refine wp_region_class (C := fun w' => StK w wr.heap.size 0 nx (.slice ca cs.length cc) ky (.slice xa xs.length xc) ca cs xa xs w' ∧ w'.cell? ⟨b, off + j * 4, none⟩ = some (.string y) ∧ b < w'.heap.size) (by kernel_rfl) (by kernel_rfl) hP2.out ?_
            repeat (first | go_big_quiet_skip | (go_big_quiet_want; apply Exists.intro; refine ⟨?_, ?_⟩; (focus (intro w' hw'; first | (obtain ⟨⟨m0, m1, m2, m3, m4, m5, m6, m7⟩, m8, m9⟩ := hw'; go_simp; with_reducible rfl) | (go_simp; refine (HC1.out w' hw'.1.2.2.2.2.2.1 hw'.1.2.2.2.2.2.2.1).mono ?_; rintro e w'' ⟨rfl, hb⟩; exact ⟨rfl, hw'.1.keep hb, (hb.cell (p := ⟨b, off + j * 4, none⟩) hw'.2.2).trans hw'.2.1, Nat.lt_of_lt_of_le hw'.2.2 hb.size⟩))); (try simp only [Act.put, List.setIfInBounds_toArray, List.set_cons_zero, List.set_cons_succ]); go_big_quiet_on))
            refine wpQuiet_nil ?_
            intro w2 hw2
            have hB2 := hw2.1.2.2.2.2.2.2.2
            clear hw2
            go_wp2
            go_roundw
            case rel => exact ⟨j + 1 + 1, by omega, by go_num, HN, hB2⟩
            case measure => simp [intOf]; omega
    · obtain rfl : k = len := by omega
      go_wp2
      go_ret
      exact ⟨ret_bool' (asB_true (HT.out.2 HS.out)), hbl⟩
end Go.Proofs.YteejkmcljokloaaGreatDoor
