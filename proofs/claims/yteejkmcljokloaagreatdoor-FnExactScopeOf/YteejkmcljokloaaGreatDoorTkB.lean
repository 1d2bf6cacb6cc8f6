/- The specification's look at a table (stage 11). -/
import Derived.Test.YteejkmcljokloaaGreatDoorTkA
namespace Go.Proofs.YteejkmcljokloaaGreatDoor
open Go.RowKit

/-- What stands while the specification looks at an index. -/
abbrev StY (W : World) (tb : Nat) (tn : ByteArray) (cv : Value) (key : Int) (xv : Value) (b o : Nat) (nm : ByteArray) (iv : Value) (ia : Option Addr) (is : List Int) (xa : Option Addr) (xs : List TX) (w' : World) : Prop := w'.cell? ⟨tb, 0, none⟩ = some (.string tn) ∧ w'.cell? ⟨tb, 1, none⟩ = some cv ∧ w'.cell? ⟨tb, 2, none⟩ = some (.int .i64 key) ∧ w'.cell? ⟨tb, 3, none⟩ = some xv ∧ tb < w'.heap.size ∧ (w'.cell? ⟨b, o, none⟩ = some (.string nm) ∧ w'.cell? ⟨b, o + 1, none⟩ = some iv) ∧ b < w'.heap.size ∧ RowI w' ia is ∧ RowX w' xa xs ∧ Below W.heap.size W w'
theorem StY.keep {W : World} {tb : Nat} {tn : ByteArray} {cv : Value} {key : Int} {xv : Value} {b o : Nat} {nm : ByteArray} {iv : Value} {ia : Option Addr} {is : List Int} {xa : Option Addr} {xs : List TX} {w1 w2 : World} (h : StY W tb tn cv key xv b o nm iv ia is xa xs w1) (hb : Below w1.heap.size w1 w2) : StY W tb tn cv key xv b o nm iv ia is xa xs w2 :=
  ⟨(hb.cell (p := ⟨tb, 0, none⟩) h.2.2.2.2.1).trans h.1, (hb.cell (p := ⟨tb, 1, none⟩) h.2.2.2.2.1).trans h.2.1, (hb.cell (p := ⟨tb, 2, none⟩) h.2.2.2.2.1).trans h.2.2.1, (hb.cell (p := ⟨tb, 3, none⟩) h.2.2.2.2.1).trans h.2.2.2.1, Nat.lt_of_lt_of_le h.2.2.2.2.1 hb.size, ⟨(hb.cell (p := ⟨b, o, none⟩) h.2.2.2.2.2.2.1).trans h.2.2.2.2.2.1.1, (hb.cell (p := ⟨b, o + 1, none⟩) h.2.2.2.2.2.2.1).trans h.2.2.2.2.2.1.2⟩, Nat.lt_of_lt_of_le h.2.2.2.2.2.2.1 hb.size, h.2.2.2.2.2.2.2.1.below hb, h.2.2.2.2.2.2.2.2.1.below hb, below_step h.2.2.2.2.2.2.2.2.2 (Nat.le_refl _) hb⟩

set_option maxRecDepth 100000 in
set_option maxHeartbeats 8000000 in
theorem specTableOK_any (nm : ByteArray) (ca xa : Option Addr) (cc xc : Nat) (cs : List TC) (key : Int) (xs : List TX) (w : World) (hC : RowC w ca cs) (hX : RowX w xa xs) (hs : nm.size ≤ maxLen) (lc : cs.length ≤ 1048576) (lx : xs.length ≤ 1048576) (hz : ∀ i, i < xs.length → SmallX (nthX xs i)) (kc : cs.length ≤ cc) (kx : xs.length ≤ xc) :
    Calls Tryz.prog 39 #[TbV nm (.slice ca cs.length cc) key (.slice xa xs.length xc)] w fun e w' => e = .returned (.bool (asB (TabP nm cs key xs))) ∧ Below w.heap.size w w' := by
  obtain ⟨n, hn⟩ : ∃ m, cs.length = m := ⟨_, rfl⟩
  obtain ⟨m, hm⟩ : ∃ m, xs.length = m := ⟨_, rfl⟩
  have HN : Hid (cs.length = n ∧ xs.length = m) := ⟨hn, hm⟩
  have HR : Hid (RowC w ca cs ∧ RowX w xa xs) := ⟨hC, hX⟩
  have HZ : Hid (∀ i, i < m → SmallX (nthX xs i)) := (hm ▸ hz : ∀ i, i < m → SmallX (nthX xs i))
  have HP : Hid (TabP nm cs key xs ↔ givenB nm = true ∧ n ≤ 8 ∧ m ≤ 4 ∧ 1 ≤ key ∧ key ≤ n ∧ ColUp cs key n ∧ IdxUp xs n m) := by rw [← hn, ← hm]; exact Iff.rfl
  rw [hn] at lc kc ⊢
  rw [hm] at lx kx ⊢
  clear hn hm hC hX hz
  obtain ⟨V0, hV0⟩ : ∃ V0, w.alloc (.cells #[.string nm, .slice ca n cc, .int .i64 key, .slice xa m xc] 59) = V0 := ⟨_, rfl⟩
  have A0 : Below w.heap.size w V0 := hV0 ▸ (Below.refl _ _).alloc (Nat.le_refl _) _
  have XA : Hid (V0.heap[w.heap.size]? = some (.cells #[.string nm, .slice ca n cc, .int .i64 key, .slice xa m xc] 59 (0, 0))) := (hV0 ▸ heap_new' _ _ _ rfl : V0.heap[w.heap.size]? = _)
  have c0 : V0.cell? ⟨w.heap.size, 0, none⟩ = some (.string nm) := by simp [World.cell?, XA.out]
  have hcall := l09Name_any nm V0 hs
  clear hs
  go_enter Tryz.func39, Tryz.ntmps39
  go_wp2_with fail
  refine hcall.mono ?_
  rintro e W0 ⟨rfl, b1⟩
  have B0 : Below w.heap.size w W0 := below_step A0 (Nat.le_refl _) b1
  have XB : Hid (W0.heap[w.heap.size]? = some (.cells #[.string nm, .slice ca n cc, .int .i64 key, .slice xa m xc] 59 (0, 0))) := (b1.block _ (slab_lt XA.out)).trans XA.out
  clear hcall c0 XA A0 hV0 b1 V0
  have c0 : W0.cell? ⟨w.heap.size, 0, none⟩ = some (.string nm) := by simp [World.cell?, XB.out]
  have c1 : W0.cell? ⟨w.heap.size, 1, none⟩ = some (.slice ca n cc) := by simp [World.cell?, XB.out]
  have c2 : W0.cell? ⟨w.heap.size, 2, none⟩ = some (.int .i64 key) := by simp [World.cell?, XB.out]
  have c3 : W0.cell? ⟨w.heap.size, 3, none⟩ = some (.slice xa m xc) := by simp [World.cell?, XB.out]
  cases hg : givenB nm with
  | false =>
    have HF : Hid (¬ TabP nm cs key xs) := fun h => by have h1 := h.1; rw [hg] at h1; cases h1
    clear hg
    go_wp2
    go_ret
    exact ⟨ret_bool' (asB_false HF.out), B0⟩
  | true =>
  have HI1 : Hid (∀ W, Calls Tryz.prog 60 #[.int .i64 (n : Int), .int .i64 1, .int .i64 8] W fun e w' => e = .returned (.bool (inB n 1 8)) ∧ w' = W) := fun W => l01In_any _ _ _ W
  have HI2 : Hid (∀ W, Calls Tryz.prog 60 #[.int .i64 key, .int .i64 1, .int .i64 (n : Int)] W fun e w' => e = .returned (.bool (inB key 1 n)) ∧ w' = W) := fun W => l01In_any _ _ _ W
  cases hi1 : inB n 1 8 with
  | false =>
    rw [hi1] at HI1
    have HF : Hid (¬ TabP nm cs key xs) := fun h => by have := HP.out.1 h; have := of_decide_eq_false hi1; omega
    clear hg hi1
    go_wp2_with (go_at_call 60; refine (HI1.out _).mono ?_; rintro e w' ⟨rfl, hq⟩; obtain rfl := hq.symm)
    go_ret
    exact ⟨ret_bool' (asB_false HF.out), B0⟩
  | true =>
  rw [hi1] at HI1
  have hn8 := of_decide_eq_true hi1
  cases hi2 : inB key 1 n with
  | false =>
    rw [hi2] at HI2
    have HF : Hid (¬ TabP nm cs key xs) := fun h => by have := HP.out.1 h; have := of_decide_eq_false hi2; omega
    clear hg hi1 hi2
    go_wp2_with (first | (go_at_call 60; with_reducible refine (HI1.out _).mono ?_; rintro e w' ⟨rfl, hq⟩; obtain rfl := hq.symm) | (go_at_call 60; with_reducible refine (HI2.out _).mono ?_; rintro e w' ⟨rfl, hq⟩; obtain rfl := hq.symm))
    go_ret
    exact ⟨ret_bool' (asB_false HF.out), B0⟩
  | true =>
  rw [hi2] at HI2
  have hk8 := of_decide_eq_true hi2
  clear hi1 hi2
  by_cases h2 : (4 : Int) < (m : Int)
  · have HF : Hid (¬ TabP nm cs key xs) := fun h => by have := (HP.out.1 h).2.2.1; omega
    clear hg
    go_wp2_with (first | (go_at_call 60; with_reducible refine (HI1.out _).mono ?_; rintro e w' ⟨rfl, hq⟩; obtain rfl := hq.symm) | (go_at_call 60; with_reducible refine (HI2.out _).mono ?_; rintro e w' ⟨rfl, hq⟩; obtain rfl := hq.symm))
    go_ret
    exact ⟨ret_bool' (asB_false HF.out), B0⟩
  have HT : Hid (TabP nm cs key xs ↔ ColUp cs key n ∧ IdxUp xs n m) := ⟨fun h => (HP.out.1 h).2.2.2.2.2, fun h => HP.out.2 ⟨hg, by omega, by omega, by omega, by omega, h⟩⟩
  clear hg HP
  go_wp2_with (first | (go_at_call 60; with_reducible refine (HI1.out _).mono ?_; rintro e w' ⟨rfl, hq⟩; obtain rfl := hq.symm) | (go_at_call 60; with_reducible refine (HI2.out _).mono ?_; rintro e w' ⟨rfl, hq⟩; obtain rfl := hq.symm))
  clear HI1 HI2
  go_loopw [3] (fun i wr => ∃ k : Nat, k ≤ n ∧ i = .int .i64 k ∧ Hid (ColUp cs key k) ∧ Below W0.heap.size W0 wr) (fun i _ => n - (intOf i).toNat)
  case atStart => exact ⟨0, by omega, rfl, fun j hj => by omega, Below.refl _ _⟩
  case round =>
    obtain ⟨k, hk, rfl, HS, hbl⟩ := hrel
    have hB := B0.trans (hbl.mono B0.size)
    clear c0 c1 c2 c3
    have xt := kpBk XB.out hbl (slab_lt XB.out)
    have c1 : wr.cell? ⟨w.heap.size, 1, none⟩ = some (.slice ca n cc) := by simp [World.cell?, xt]
    by_cases hlt : k < n
    · have hltI : (k : Int) < (n : Int) := by omega
      have HRw := HR.out.1.below hB
      obtain ⟨b, off, rfl, hlb, ⟨q0, q1, q2⟩, hsz⟩ := HRw k (by rw [HN.out.1]; exact hlt)
      obtain ⟨W1, hW1⟩ : ∃ W1, wr.alloc (.cells #[.string (nthC cs k).1, .int .i64 (nthC cs k).2.1, .bool (nthC cs k).2.2] 101) = W1 := ⟨_, rfl⟩
      have b1 : Below wr.heap.size wr W1 := hW1 ▸ (Below.refl _ _).alloc (Nat.le_refl _) _
      have yb : W1.heap[wr.heap.size]? = some (.cells #[.string (nthC cs k).1, .int .i64 (nthC cs k).2.1, .bool (nthC cs k).2.2] 101 (0, 0)) := hW1 ▸ heap_new' _ _ _ rfl
      have zb := kpBk xt b1 (slab_lt xt)
      have hP : Hid (StC W0 w.heap.size wr.heap.size (nthC cs k) (.slice (some ⟨b, off, none⟩) n cc) key (some ⟨b, off, none⟩) cs W1.drew) := ⟨slab_cell yb, slab_cell yb, slab_cell yb, slab_cell zb, slab_cell zb, slab_lt yb, slab_lt zb, fun i hi => (HRw.below b1) i hi, (below_step hbl (Nat.le_refl _) b1).drew⟩
      have HC1 : Hid (∀ W, Calls Tryz.prog 42 #[.string (nthC cs k).1] W fun e w' => e = .returned (.bool (givenB (nthC cs k).1)) ∧ Below W.heap.size W w') := fun W => l09Name_any _ W hsz
      have HC3 : Hid (∀ W, Calls Tryz.prog 60 #[.int .i64 (nthC cs k).2.1, .int .i64 1, .int .i64 4] W fun e w' => e = .returned (.bool (inB (nthC cs k).2.1 1 4)) ∧ w' = W) := fun W => l01In_any _ _ _ W
      have HC2 : Hid (∀ W, RowC W (some ⟨b, off, none⟩) cs → Calls Tryz.prog 61 #[.slice (some ⟨b, off, none⟩) k cc, .string (nthC cs k).1] W fun e w' => e = .returned (.int .i64 (findN (nmC cs) (nmC cs k) k)) ∧ Below W.heap.size W w') := fun W hW => l09C_any _ cc k cs _ W hW (by rw [HN.out.1]; omega) (by omega)
      have HU : Hid (TabP nm cs key xs → (givenB (nthC cs k).1 = true ∧ inB (nthC cs k).2.1 1 4 = true) ∧ ((k : Int) < key → (nthC cs k).2.2 = false) ∧ ¬ 0 ≤ findN (nmC cs) (nmC cs k) k) := fun h => have g := (HT.out.1 h).1 k hlt; ⟨⟨g.1.1, decide_eq_true g.1.2⟩, g.2⟩
      have HV : Hid ((givenB (nthC cs k).1 = true ∧ inB (nthC cs k).2.1 1 4 = true) → ((k : Int) < key → (nthC cs k).2.2 = false) → ¬ 0 ≤ findN (nmC cs) (nmC cs k) k → ColUp cs key (k + 1)) := fun h1 h2 h3 => HS.out.next ⟨h1.1, of_decide_eq_true h1.2⟩ h2 h3
      have hcap : ¬ cc = 0 := by omega
      have hkc : (k : Int) ≤ (cc : Int) := by omega
      have hwk : IntKind.i64.wrap (k : Int) = (k : Int) := wrap_nat (by omega)
      clear HRw hsz yb zb xt hbl HS b1
      generalize findN (nmC cs) (nmC cs k) k = fd at *
      generalize nthC cs k = xk at *
      obtain ⟨kx', tx, nx⟩ := xk
      simp only at HU HV q0 q1 q2 HC2 HC1 HC3
      generalize givenB kx' = gb at *
      generalize inB tx 1 4 = ib at *
      cases gb with
      | false =>
        have HF : Hid (¬ TabP nm cs key xs) := fun h => by have := (HU.out h).1.1; cases this
        clear HU HV HT
        go_wp2_with fail
        refine wp_region_class (C := StC W0 w.heap.size wr.heap.size (kx', tx, nx) (.slice (some ⟨b, off, none⟩) n cc) key (some ⟨b, off, none⟩) cs) (by kernel_rfl) (by kernel_rfl) hP.out ?_
        repeat (first | go_big_quiet_skip | (go_big_quiet_want; apply Exists.intro; refine ⟨?_, ?_⟩; (focus (intro w' hw'; first | (obtain ⟨m0, m1, m2, m3, m4, m5, m6, m7, m8⟩ := hw'; go_simp; with_reducible rfl) | (go_simp; refine (HC1.out w').mono ?_; rintro e w'' ⟨rfl, hb⟩; exact ⟨rfl, hw'.keep hb⟩) | (go_simp; refine (HC3.out w').mono ?_; rintro e w'' ⟨rfl, hq⟩; obtain rfl := hq.symm; exact ⟨rfl, hw'⟩) | (go_simp; refine (HC2.out w' hw'.2.2.2.2.2.2.2.1).mono ?_; rintro e w'' ⟨rfl, hb⟩; exact ⟨rfl, hw'.keep hb⟩))); (try simp only [Act.put, List.setIfInBounds_toArray, List.set_cons_zero, List.set_cons_succ]); go_big_quiet_on))
        refine wpQuiet_nil ?_
        intro w2 hw2
        have hB2 := hw2.2.2.2.2.2.2.2.2
        clear hw2
        go_wp2
        go_ret
        exact ⟨ret_bool' (asB_false HF.out), B0.trans (hB2.mono B0.size)⟩
      | true =>
      cases ib with
      | false =>
        have HF : Hid (¬ TabP nm cs key xs) := fun h => by have := (HU.out h).1.2; cases this
        clear HU HV HT
        go_wp2_with fail
        refine wp_region_class (C := StC W0 w.heap.size wr.heap.size (kx', tx, nx) (.slice (some ⟨b, off, none⟩) n cc) key (some ⟨b, off, none⟩) cs) (by kernel_rfl) (by kernel_rfl) hP.out ?_
        repeat (first | go_big_quiet_skip | (go_big_quiet_want; apply Exists.intro; refine ⟨?_, ?_⟩; (focus (intro w' hw'; first | (obtain ⟨m0, m1, m2, m3, m4, m5, m6, m7, m8⟩ := hw'; go_simp; with_reducible rfl) | (go_simp; refine (HC1.out w').mono ?_; rintro e w'' ⟨rfl, hb⟩; exact ⟨rfl, hw'.keep hb⟩) | (go_simp; refine (HC3.out w').mono ?_; rintro e w'' ⟨rfl, hq⟩; obtain rfl := hq.symm; exact ⟨rfl, hw'⟩) | (go_simp; refine (HC2.out w' hw'.2.2.2.2.2.2.2.1).mono ?_; rintro e w'' ⟨rfl, hb⟩; exact ⟨rfl, hw'.keep hb⟩))); (try simp only [Act.put, List.setIfInBounds_toArray, List.set_cons_zero, List.set_cons_succ]); go_big_quiet_on))
        refine wpQuiet_nil ?_
        intro w2 hw2
        have hB2 := hw2.2.2.2.2.2.2.2.2
        clear hw2
        go_wp2
        go_ret
        exact ⟨ret_bool' (asB_false HF.out), B0.trans (hB2.mono B0.size)⟩
      | true =>
        by_cases hkey : (k : Int) < key
        · have hkd : decide ((k : Int) < key) = true := decide_eq_true hkey
          cases nx with
          | true =>
            have HF : Hid (¬ TabP nm cs key xs) := fun h => by have := (HU.out h).2.1 hkey; cases this
            clear HU HV HT
            go_wp2_with fail
            refine wp_region_class (C := StC W0 w.heap.size wr.heap.size (kx', tx, true) (.slice (some ⟨b, off, none⟩) n cc) key (some ⟨b, off, none⟩) cs) (by kernel_rfl) (by kernel_rfl) hP.out ?_
            repeat (first | go_big_quiet_skip | (go_big_quiet_want; apply Exists.intro; refine ⟨?_, ?_⟩; (focus (intro w' hw'; first | (obtain ⟨m0, m1, m2, m3, m4, m5, m6, m7, m8⟩ := hw'; go_simp; with_reducible rfl) | (go_simp; refine (HC1.out w').mono ?_; rintro e w'' ⟨rfl, hb⟩; exact ⟨rfl, hw'.keep hb⟩) | (go_simp; refine (HC3.out w').mono ?_; rintro e w'' ⟨rfl, hq⟩; obtain rfl := hq.symm; exact ⟨rfl, hw'⟩) | (go_simp; refine (HC2.out w' hw'.2.2.2.2.2.2.2.1).mono ?_; rintro e w'' ⟨rfl, hb⟩; exact ⟨rfl, hw'.keep hb⟩))); (try simp only [Act.put, List.setIfInBounds_toArray, List.set_cons_zero, List.set_cons_succ]); go_big_quiet_on))
            refine wpQuiet_nil ?_
            intro w2 hw2
            have hB2 := hw2.2.2.2.2.2.2.2.2
            clear hw2
            go_wp2
            go_ret
            exact ⟨ret_bool' (asB_false HF.out), B0.trans (hB2.mono B0.size)⟩
          | false =>
            subst hW1
            by_cases hfd : 0 ≤ fd
            · have hfdd : decide (0 ≤ fd) = true := decide_eq_true hfd
              have HF : Hid (¬ TabP nm cs key xs) := fun h => (HU.out h).2.2 hfd
              clear HU HV HT
              go_wp2_with fail
              refine wp_region_class (C := StC W0 w.heap.size wr.heap.size (kx', tx, false) (.slice (some ⟨b, off, none⟩) n cc) key (some ⟨b, off, none⟩) cs) (by kernel_rfl) (by kernel_rfl) hP.out ?_
              repeat (first | go_big_quiet_skip | (go_big_quiet_want; apply Exists.intro; refine ⟨?_, ?_⟩; (focus (intro w' hw'; first | (obtain ⟨m0, m1, m2, m3, m4, m5, m6, m7, m8⟩ := hw'; go_simp; with_reducible rfl) | (go_simp; refine (HC1.out w').mono ?_; rintro e w'' ⟨rfl, hb⟩; exact ⟨rfl, hw'.keep hb⟩) | (go_simp; refine (HC3.out w').mono ?_; rintro e w'' ⟨rfl, hq⟩; obtain rfl := hq.symm; exact ⟨rfl, hw'⟩) | (go_simp; refine (HC2.out w' hw'.2.2.2.2.2.2.2.1).mono ?_; rintro e w'' ⟨rfl, hb⟩; exact ⟨rfl, hw'.keep hb⟩))); (try simp only [Act.put, List.setIfInBounds_toArray, List.set_cons_zero, List.set_cons_succ]); go_big_quiet_on))
              refine wpQuiet_nil ?_
              intro w2 hw2
              have hB2 := hw2.2.2.2.2.2.2.2.2
              clear hw2
              go_wp2
              go_ret
              exact ⟨ret_bool' (asB_false HF.out), B0.trans (hB2.mono B0.size)⟩
            · have hfdd : decide (0 ≤ fd) = false := decide_eq_false hfd
              have HE : Hid (ColUp cs key (k + 1)) := HV.out ⟨rfl, rfl⟩ (fun _ => rfl) hfd
              clear HU HV
              go_wp2_with fail
              refine wp_region_class (C := StC W0 w.heap.size wr.heap.size (kx', tx, false) (.slice (some ⟨b, off, none⟩) n cc) key (some ⟨b, off, none⟩) cs) (by kernel_rfl) (by kernel_rfl) hP.out ?_
              repeat (first | go_big_quiet_skip | (go_big_quiet_want; apply Exists.intro; refine ⟨?_, ?_⟩; (focus (intro w' hw'; first | (obtain ⟨m0, m1, m2, m3, m4, m5, m6, m7, m8⟩ := hw'; go_simp; with_reducible rfl) | (go_simp; refine (HC1.out w').mono ?_; rintro e w'' ⟨rfl, hb⟩; exact ⟨rfl, hw'.keep hb⟩) | (go_simp; refine (HC3.out w').mono ?_; rintro e w'' ⟨rfl, hq⟩; obtain rfl := hq.symm; exact ⟨rfl, hw'⟩) | (go_simp; refine (HC2.out w' hw'.2.2.2.2.2.2.2.1).mono ?_; rintro e w'' ⟨rfl, hb⟩; exact ⟨rfl, hw'.keep hb⟩))); (try simp only [Act.put, List.setIfInBounds_toArray, List.set_cons_zero, List.set_cons_succ]); go_big_quiet_on))
              refine wpQuiet_nil ?_
              intro w2 hw2
              have hB2 := hw2.2.2.2.2.2.2.2.2
              clear hw2
              go_wp2
              go_roundw
              case rel => exact ⟨k + 1, by omega, by go_num, HE, hB2⟩
              case measure => simp [intOf]; omega
        · have hkd : decide ((k : Int) < key) = false := decide_eq_false hkey
          by_cases hfd : 0 ≤ fd
          · have hfdd : decide (0 ≤ fd) = true := decide_eq_true hfd
            have HF : Hid (¬ TabP nm cs key xs) := fun h => (HU.out h).2.2 hfd
            clear HU HV HT
            go_wp2_with fail
            refine wp_region_class (C := StC W0 w.heap.size wr.heap.size (kx', tx, nx) (.slice (some ⟨b, off, none⟩) n cc) key (some ⟨b, off, none⟩) cs) (by kernel_rfl) (by kernel_rfl) hP.out ?_
            repeat (first | go_big_quiet_skip | (go_big_quiet_want; apply Exists.intro; refine ⟨?_, ?_⟩; (focus (intro w' hw'; first | (obtain ⟨m0, m1, m2, m3, m4, m5, m6, m7, m8⟩ := hw'; go_simp; with_reducible rfl) | (go_simp; refine (HC1.out w').mono ?_; rintro e w'' ⟨rfl, hb⟩; exact ⟨rfl, hw'.keep hb⟩) | (go_simp; refine (HC3.out w').mono ?_; rintro e w'' ⟨rfl, hq⟩; obtain rfl := hq.symm; exact ⟨rfl, hw'⟩) | (go_simp; refine (HC2.out w' hw'.2.2.2.2.2.2.2.1).mono ?_; rintro e w'' ⟨rfl, hb⟩; exact ⟨rfl, hw'.keep hb⟩))); (try simp only [Act.put, List.setIfInBounds_toArray, List.set_cons_zero, List.set_cons_succ]); go_big_quiet_on))
            refine wpQuiet_nil ?_
            intro w2 hw2
            have hB2 := hw2.2.2.2.2.2.2.2.2
            clear hw2
            go_wp2
            go_ret
            exact ⟨ret_bool' (asB_false HF.out), B0.trans (hB2.mono B0.size)⟩
          · have hfdd : decide (0 ≤ fd) = false := decide_eq_false hfd
            have HE : Hid (ColUp cs key (k + 1)) := HV.out ⟨rfl, rfl⟩ (fun h => absurd h hkey) hfd
            clear HU HV
            go_wp2_with fail
            refine wp_region_class (C := StC W0 w.heap.size wr.heap.size (kx', tx, nx) (.slice (some ⟨b, off, none⟩) n cc) key (some ⟨b, off, none⟩) cs) (by kernel_rfl) (by kernel_rfl) hP.out ?_
            repeat (first | go_big_quiet_skip | (go_big_quiet_want; apply Exists.intro; refine ⟨?_, ?_⟩; (focus (intro w' hw'; first | (obtain ⟨m0, m1, m2, m3, m4, m5, m6, m7, m8⟩ := hw'; go_simp; with_reducible rfl) | (go_simp; refine (HC1.out w').mono ?_; rintro e w'' ⟨rfl, hb⟩; exact ⟨rfl, hw'.keep hb⟩) | (go_simp; refine (HC3.out w').mono ?_; rintro e w'' ⟨rfl, hq⟩; obtain rfl := hq.symm; exact ⟨rfl, hw'⟩) | (go_simp; refine (HC2.out w' hw'.2.2.2.2.2.2.2.1).mono ?_; rintro e w'' ⟨rfl, hb⟩; exact ⟨rfl, hw'.keep hb⟩))); (try simp only [Act.put, List.setIfInBounds_toArray, List.set_cons_zero, List.set_cons_succ]); go_big_quiet_on))
            refine wpQuiet_nil ?_
            intro w2 hw2
            have hB2 := hw2.2.2.2.2.2.2.2.2
            clear hw2
            go_wp2
            go_roundw
            case rel => exact ⟨k + 1, by omega, by go_num, HE, hB2⟩
            case measure => simp [intOf]; omega
    · obtain rfl : k = n := by omega
      have HT2 : Hid (TabP nm cs key xs ↔ IdxUp xs k m) := ⟨fun h => (HT.out.1 h).2, fun h => HT.out.2 (And.intro HS.out h)⟩
      have HBL : Hid (Below W0.heap.size W0 wr) := hbl
      clear xt HT HS hB hlt
      go_wp2
      clear c1
      go_loopw [5] (fun i wr => ∃ j : Nat, j ≤ m ∧ i = .int .i64 j ∧ Hid (IdxUp xs k j) ∧ Below W0.heap.size W0 wr) (fun i _ => m - (intOf i).toNat)
      case atStart => exact ⟨0, by omega, rfl, fun j hj => by omega, HBL.out⟩
      case round =>
        clear hbl HBL
        obtain ⟨j, hj, rfl, HS, hbl⟩ := hrel
        have hB := B0.trans (hbl.mono B0.size)
        have xt := kpBk XB.out hbl (slab_lt XB.out)
        have c3 : wr.cell? ⟨w.heap.size, 3, none⟩ = some (.slice xa m xc) := by simp [World.cell?, xt]
        by_cases hltj : j < m
        · have hltI : (j : Int) < (m : Int) := by omega
          have HRw := HR.out.2.below hB
          obtain ⟨b, off, ia, ic, rfl, hlb, ⟨q0, q1⟩, hri, hml, hsz, hcp⟩ := HRw j (by rw [HN.out.2]; exact hltj)
          have hP : Hid (StY W0 w.heap.size nm (.slice ca k cc) key (.slice (some ⟨b, off, none⟩) m xc) b (off + j * 2) (nthX xs j).1 (.slice ia (nthX xs j).2.length ic) ia (nthX xs j).2 (some ⟨b, off, none⟩) xs wr.drew) := ⟨slab_cell xt, slab_cell xt, slab_cell xt, slab_cell xt, slab_lt xt, ⟨q0, q1⟩, hlb, fun i hi => hri i hi, fun i hi => HRw i hi, hbl.drew⟩
          have HC1 : Hid (∀ W, RowI W ia (nthX xs j).2 → Calls Tryz.prog 62 #[TbV nm (.slice ca k cc) key (.slice (some ⟨b, off, none⟩) m xc), ValX (nthX xs j).1 (.slice ia (nthX xs j).2.length ic)] W fun e w' => e = .returned (.bool (asB (IdxP (nthX xs j) k))) ∧ Below W.heap.size W w') := fun W hW => l09IndexOK_any nm ca k cc key _ _ ia ic _ W hW hsz (HZ.out j hltj).2 (by omega) hcp
          have HC2 : Hid (∀ W, RowX W (some ⟨b, off, none⟩) xs → Calls Tryz.prog 63 #[.slice (some ⟨b, off, none⟩) j xc, .string (nthX xs j).1] W fun e w' => e = .returned (.int .i64 (findN (nmX xs) (nmX xs j) j)) ∧ Below W.heap.size W w') := fun W hW => l09X_any _ xc j xs _ W hW (by rw [HN.out.2]; omega) (by omega)
          have HU : Hid (TabP nm cs key xs → IdxP (nthX xs j) k ∧ ¬ 0 ≤ findN (nmX xs) (nmX xs j) j) := fun h => HT2.out.1 h j hltj
          have HV : Hid (IdxP (nthX xs j) k → ¬ 0 ≤ findN (nmX xs) (nmX xs j) j → IdxUp xs k (j + 1)) := fun h1 h3 => HS.out.next h1 h3
          have hcap : ¬ xc = 0 := by omega
          have hkc : (j : Int) ≤ (xc : Int) := by omega
          have hwk : IntKind.i64.wrap (j : Int) = (j : Int) := wrap_nat (by omega)
          clear HRw hsz xt hbl HS hri hml hcp
          generalize findN (nmX xs) (nmX xs j) j = fd at *
          generalize nthX xs j = xk at *
          obtain ⟨yn, ys⟩ := xk
          simp only at HU HV q0 q1 HC2 HC1 hP
          cases hok : asB (IdxP (yn, ys) k) with
          | false =>
            rw [hok] at HC1
            have HF : Hid (¬ TabP nm cs key xs) := fun h => asB_not hok (HU.out h).1
            clear hok HU HV HT2
            go_wp2_with fail
            refine wp_region_class (C := StY W0 w.heap.size nm (.slice ca k cc) key (.slice (some ⟨b, off, none⟩) m xc) b (off + j * 2) yn (.slice ia ys.length ic) ia ys (some ⟨b, off, none⟩) xs) (by kernel_rfl) (by kernel_rfl) hP.out ?_
            repeat (first | go_big_quiet_skip | (go_big_quiet_want; apply Exists.intro; refine ⟨?_, ?_⟩; (focus (intro w' hw'; first | (obtain ⟨m0, m1, m2, m3, m4, m5, m6, m7, m8, m9⟩ := hw'; go_simp; with_reducible rfl) | (go_simp; refine (HC1.out w' hw'.2.2.2.2.2.2.2.1).mono ?_; rintro e w'' ⟨rfl, hb⟩; exact ⟨rfl, hw'.keep hb⟩) | (go_simp; refine (HC2.out w' hw'.2.2.2.2.2.2.2.2.1).mono ?_; rintro e w'' ⟨rfl, hb⟩; exact ⟨rfl, hw'.keep hb⟩))); (try simp only [Act.put, List.setIfInBounds_toArray, List.set_cons_zero, List.set_cons_succ]); go_big_quiet_on))
            refine wpQuiet_nil ?_
            intro w2 hw2
            have hB2 := hw2.2.2.2.2.2.2.2.2.2
            clear hw2
            go_wp2
            go_ret
            exact ⟨ret_bool' (asB_false HF.out), B0.trans (hB2.mono B0.size)⟩
          | true =>
            rw [hok] at HC1
            have HK : Hid (IdxP (yn, ys) k) := asB_is hok
            clear hok
            by_cases hfd : 0 ≤ fd
            · have hfdd : decide (0 ≤ fd) = true := decide_eq_true hfd
              have HF : Hid (¬ TabP nm cs key xs) := fun h => (HU.out h).2 hfd
              clear HU HV HT2 HK
              go_wp2_with fail
              refine wp_region_class (C := StY W0 w.heap.size nm (.slice ca k cc) key (.slice (some ⟨b, off, none⟩) m xc) b (off + j * 2) yn (.slice ia ys.length ic) ia ys (some ⟨b, off, none⟩) xs) (by kernel_rfl) (by kernel_rfl) hP.out ?_
              repeat (first | go_big_quiet_skip | (go_big_quiet_want; apply Exists.intro; refine ⟨?_, ?_⟩; (focus (intro w' hw'; first | (obtain ⟨m0, m1, m2, m3, m4, m5, m6, m7, m8, m9⟩ := hw'; go_simp; with_reducible rfl) | (go_simp; refine (HC1.out w' hw'.2.2.2.2.2.2.2.1).mono ?_; rintro e w'' ⟨rfl, hb⟩; exact ⟨rfl, hw'.keep hb⟩) | (go_simp; refine (HC2.out w' hw'.2.2.2.2.2.2.2.2.1).mono ?_; rintro e w'' ⟨rfl, hb⟩; exact ⟨rfl, hw'.keep hb⟩))); (try simp only [Act.put, List.setIfInBounds_toArray, List.set_cons_zero, List.set_cons_succ]); go_big_quiet_on))
              refine wpQuiet_nil ?_
              intro w2 hw2
              have hB2 := hw2.2.2.2.2.2.2.2.2.2
              clear hw2
              go_wp2
              go_ret
              exact ⟨ret_bool' (asB_false HF.out), B0.trans (hB2.mono B0.size)⟩
            · have hfdd : decide (0 ≤ fd) = false := decide_eq_false hfd
              have HE : Hid (IdxUp xs k (j + 1)) := HV.out HK.out hfd
              clear HU HV HK
              go_wp2_with fail
              refine wp_region_class (C := StY W0 w.heap.size nm (.slice ca k cc) key (.slice (some ⟨b, off, none⟩) m xc) b (off + j * 2) yn (.slice ia ys.length ic) ia ys (some ⟨b, off, none⟩) xs) (by kernel_rfl) (by kernel_rfl) hP.out ?_
              repeat (first | go_big_quiet_skip | (go_big_quiet_want; apply Exists.intro; refine ⟨?_, ?_⟩; (focus (intro w' hw'; first | (obtain ⟨m0, m1, m2, m3, m4, m5, m6, m7, m8, m9⟩ := hw'; go_simp; with_reducible rfl) | (go_simp; refine (HC1.out w' hw'.2.2.2.2.2.2.2.1).mono ?_; rintro e w'' ⟨rfl, hb⟩; exact ⟨rfl, hw'.keep hb⟩) | (go_simp; refine (HC2.out w' hw'.2.2.2.2.2.2.2.2.1).mono ?_; rintro e w'' ⟨rfl, hb⟩; exact ⟨rfl, hw'.keep hb⟩))); (try simp only [Act.put, List.setIfInBounds_toArray, List.set_cons_zero, List.set_cons_succ]); go_big_quiet_on))
              refine wpQuiet_nil ?_
              intro w2 hw2
              have hB2 := hw2.2.2.2.2.2.2.2.2.2
              clear hw2
              go_wp2
              go_roundw
              case rel => exact ⟨j + 1, by omega, by go_num, HE, hB2⟩
              case measure => simp [intOf]; omega
        · obtain rfl : j = m := by omega
          clear xt
          go_wp2
          go_ret
          exact ⟨ret_bool' (asB_true (HT2.out.2 HS.out)), hB⟩
end Go.Proofs.YteejkmcljokloaaGreatDoor
