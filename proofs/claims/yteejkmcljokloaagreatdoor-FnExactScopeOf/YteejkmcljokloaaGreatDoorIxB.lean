/- The specification's look at an index (stage 11). -/
import Derived.Test.YteejkmcljokloaaGreatDoorIxA
namespace Go.Proofs.YteejkmcljokloaaGreatDoor
open Go.RowKit

theorem wp_region_class {P : Program} {C : World → Prop} {id : Nat} {Q : Exit → Act → World → Prop} {a : Act} {w : World} {l : List Oper} (hm : P.follows .mixedOrders = true) (hB : Region.lexB .any l.toArray = true) (hC : C w.drew)
    (h : wpQuiet P l.toArray C (fun a' => ∀ w', C w' → Q .normal a' w') l a) : (Code.region id l.toArray true).wp P Q a w :=
  wp_region_quiet (C := C) hm hB hC (by simpa using h)
theorem wrap_nat {j : Nat} (h : j ≤ 1048576) : IntKind.i64.wrap (j : Int) = (j : Int) := by
  simp [IntKind.wrap, IntKind.signed, IntKind.bits]; omega
theorem wrap_pred {j : Nat} (h : j ≤ 1048576) : IntKind.i64.wrap ((j : Int) - 1) = (j : Int) - 1 := by
  simp [IntKind.wrap, IntKind.signed, IntKind.bits]; omega
/-- A table as a value. -/
abbrev TbV (nm : ByteArray) (cv : Value) (key : Int) (xv : Value) : Value := .agg #[.string nm, cv, .int .i64 key, xv]
theorem RowI.take {w : World} {a : Option Addr} {ss : List Int} (h : RowI w a ss) (k : Nat) : RowI w a (ss.take k) := fun i hi => by
  have hi' : i < k ∧ i < ss.length := by rw [List.length_take] at hi; omega
  obtain ⟨b, off, e, hb, hc⟩ := h i hi'.2
  refine ⟨b, off, e, hb, ?_⟩
  have : nthI (ss.take k) i = nthI ss i := by
    unfold nthI
    rw [List.getD_eq_getElem?_getD, List.getD_eq_getElem?_getD, List.getElem?_take_of_lt hi'.1]
  rw [this]; exact hc
theorem nodup_take {l : List Int} : l.Nodup ↔ ∀ j, j < l.length → (l.take j).any (fun x => x == nthI l j) = false := by
  constructor
  · intro h j hj
    rw [List.any_eq_false]
    intro x hx
    obtain ⟨i, hi, rfl⟩ := List.mem_iff_getElem.1 hx
    have hi' : i < j ∧ i < l.length := by rw [List.length_take] at hi; omega
    have := List.pairwise_iff_getElem.1 h i j hi'.2 hj hi'.1
    rw [nthI_get hj]
    simp only [List.getElem_take, beq_iff_eq]
    exact this
  · intro h
    refine List.pairwise_iff_getElem.2 fun i j hi hj hij e => ?_
    have hf := h j hj
    rw [List.any_eq_false] at hf
    have hm : l[i] ∈ l.take j := by
      have : i < (l.take j).length := by rw [List.length_take]; omega
      have e2 : (l.take j)[i] = l[i] := List.getElem_take
      rw [← e2]; exact List.getElem_mem _
    refine hf l[i] hm ?_
    rw [nthI_get hj]
    simp only [beq_iff_eq]
    exact e
/-- The columns of an index are right up to k. -/
def IxUp (is : List Int) (n k : Nat) : Prop := ∀ j, j < k → (0 ≤ nthI is j ∧ nthI is j < n) ∧ (is.take j).any (fun x => x == nthI is j) = false
theorem idxP_up {nm : ByteArray} {is : List Int} {n : Nat} (hg : givenB nm = true) (h0 : is.length ≠ 0) (h1 : is.length ≤ n) : IdxP (nm, is) n ↔ IxUp is n is.length :=
  ⟨fun h j hj => ⟨⟨h.2.2.2.1 j hj, h.2.2.2.2.1 j hj⟩, nodup_take.1 h.2.2.2.2.2 j hj⟩, fun h => ⟨hg, h0, h1, fun j hj => (h j hj).1.1, fun j hj => (h j hj).1.2, nodup_take.2 fun j hj => (h j hj).2⟩⟩
/-- What stands while a column of an index is looked at. -/
abbrev StI (W : World) (tb xb : Nat) (cv iv : Value) (b o : Nat) (x : Int) (a : Option Addr) (is : List Int) (w' : World) : Prop := w'.cell? ⟨tb, 1, none⟩ = some cv ∧ w'.cell? ⟨xb, 1, none⟩ = some iv ∧ w'.cell? ⟨b, o, none⟩ = some (.int .i64 x) ∧ RowI w' a is ∧ Below W.heap.size W w'

set_option maxRecDepth 100000 in
set_option maxHeartbeats 4000000 in
theorem l09IndexOK_any (tn : ByteArray) (ca : Option Addr) (n cc : Nat) (key : Int) (xv : Value) (nm : ByteArray) (ia : Option Addr) (ic : Nat) (is : List Int) (w : World) (hI : RowI w ia is) (hs : nm.size ≤ maxLen) (hl : is.length ≤ 1048576) (hn : n ≤ 1048576) (hic : is.length ≤ ic) :
    Calls Tryz.prog 62 #[TbV tn (.slice ca n cc) key xv, ValX nm (.slice ia is.length ic)] w fun e w' => e = .returned (.bool (asB (IdxP (nm, is) n))) ∧ Below w.heap.size w w' := by
  obtain ⟨W0, hW0⟩ : ∃ W0, (w.alloc (.cells #[.string tn, .slice ca n cc, .int .i64 key, xv] 59)).alloc (.cells #[.string nm, .slice ia is.length ic] 104) = W0 := ⟨_, rfl⟩
  have B0 : Below w.heap.size w W0 := hW0 ▸ ((Below.refl _ _).alloc (Nat.le_refl _) _).alloc (by simp) _
  have XT : Hid (W0.heap[w.heap.size]? = some (.cells #[.string tn, .slice ca n cc, .int .i64 key, xv] 59 (0, 0))) := (hW0 ▸ (heap_old _ _ _ (by simp)).trans (heap_new' _ _ _ rfl) : W0.heap[w.heap.size]? = _)
  have XI : Hid (W0.heap[w.heap.size + 1]? = some (.cells #[.string nm, .slice ia is.length ic] 104 (0, 0))) := (hW0 ▸ heap_new' _ _ _ (by simp) : W0.heap[w.heap.size + 1]? = _)
  have t1 : W0.cell? ⟨w.heap.size, 1, none⟩ = some (.slice ca n cc) := by simp [World.cell?, XT.out]
  have c0 : W0.cell? ⟨w.heap.size + 1, 0, none⟩ = some (.string nm) := by simp [World.cell?, XI.out]
  have c1 : W0.cell? ⟨w.heap.size + 1, 1, none⟩ = some (.slice ia is.length ic) := by simp [World.cell?, XI.out]
  have HI : Hid (RowI w ia is) := hI
  have hc := l09Name_any nm W0 hs
  clear hs hI
  cases hg : givenB nm with
  | false =>
    have HF : Hid (¬ IdxP (nm, is) n) := fun h => by have h1 : givenB nm = true := h.1; rw [hg] at h1; cases h1
    rw [hg] at hc
    clear hg
    go_enter Tryz.func62, Tryz.ntmps62
    go_wp2_with fail
    refine hc.mono ?_
    rintro e w1 ⟨rfl, b1⟩
    have B1 := below_step B0 (Nat.le_refl _) b1
    clear hc
    go_wp2
    go_ret
    exact ⟨ret_bool' (asB_false HF.out), B1⟩
  | true =>
    rw [hg] at hc
    go_enter Tryz.func62, Tryz.ntmps62
    go_wp2_with fail
    refine hc.mono ?_
    rintro e w1 ⟨rfl, b1⟩
    have B1 := below_step B0 (Nat.le_refl _) b1
    have XT1 : Hid (w1.heap[w.heap.size]? = _) := (b1.block _ (slab_lt XT.out)).trans XT.out
    have XI1 : Hid (w1.heap[w.heap.size + 1]? = _) := (b1.block _ (slab_lt XI.out)).trans XI.out
    clear t1 c0 c1
    have t1 : w1.cell? ⟨w.heap.size, 1, none⟩ = some (.slice ca n cc) := by simp [World.cell?, XT1.out]
    have c1 : w1.cell? ⟨w.heap.size + 1, 1, none⟩ = some (.slice ia is.length ic) := by simp [World.cell?, XI1.out]
    clear hc b1 XT XI hW0 B0
    by_cases h0 : is.length = 0
    · have HF : Hid (¬ IdxP (nm, is) n) := fun h => h.2.1 h0
      have hz : ((is.length : Int) == 0) = true := by simp [h0]
      clear hg h0
      go_wp2
      go_ret
      exact ⟨ret_bool' (asB_false HF.out), B1⟩
    have hz : ((is.length : Int) == 0) = false := by simpa using h0
    by_cases h1 : n < is.length
    · have HF : Hid (¬ IdxP (nm, is) n) := fun h => by have h2 : is.length ≤ n := h.2.2.1; omega
      have h1' : (n : Int) < (is.length : Int) := by omega
      clear hg h0
      go_wp2
      go_ret
      exact ⟨ret_bool' (asB_false HF.out), B1⟩
    have h1' : ¬ (n : Int) < (is.length : Int) := by omega
    have HT : Hid (IdxP (nm, is) n ↔ IxUp is n is.length) := idxP_up hg h0 (by omega)
    clear hg h0 h1
    obtain ⟨len, hL⟩ : ∃ m, is.length = m := ⟨_, rfl⟩
    have HL : Hid (is.length = len) := hL
    rw [hL] at hic hl c1 hz h1' XI1 HT ⊢
    clear hL
    go_wp2
    go_loopw [5] (fun i wr => ∃ k : Nat, k ≤ len ∧ i = .int .i64 k ∧ Hid (IxUp is n k) ∧ Below w1.heap.size w1 wr) (fun i _ => len - (intOf i).toNat)
    case atStart => exact ⟨0, by omega, rfl, fun i hi => by omega, Below.refl _ _⟩
    case round =>
      obtain ⟨k, hk, rfl, HS, hbl⟩ := hrel
      have hB := B1.trans (hbl.mono B1.size)
      have xt := kpBk XT1.out hbl (slab_lt XT1.out)
      have xi := kpBk XI1.out hbl (slab_lt XI1.out)
      clear c1 t1
      have t1 : wr.cell? ⟨w.heap.size, 1, none⟩ = some (.slice ca n cc) := by simp [World.cell?, xt]
      have c1 : wr.cell? ⟨w.heap.size + 1, 1, none⟩ = some (.slice ia len ic) := by simp [World.cell?, xi]
      by_cases hlt : k < len
      · have hltI : (k : Int) < (len : Int) := by omega
        have HIw := HI.out.below hB
        obtain ⟨b, off, rfl, hlb, q0⟩ := HIw k (by rw [HL.out]; exact hlt)
        have hP : Hid (StI w1 w.heap.size (w.heap.size + 1) (.slice ca n cc) (.slice (some ⟨b, off, none⟩) len ic) b (off + k) (nthI is k) (some ⟨b, off, none⟩) is wr.drew) := ⟨t1, c1, q0, fun i hi => HIw i hi, hbl.drew⟩
        have hwp : IntKind.i64.wrap ((n : Int) - 1) = (n : Int) - 1 := wrap_pred hn
        have hcap : ¬ ic = 0 := by omega
        have hkc : (k : Int) ≤ (ic : Int) := by omega
        have hwk : IntKind.i64.wrap (k : Int) = (k : Int) := wrap_nat (by omega)
        have HC1 : Hid (∀ W, Calls Tryz.prog 60 #[.int .i64 (nthI is k), .int .i64 0, .int .i64 ((n : Int) - 1)] W fun e w' => e = .returned (.bool (inB (nthI is k) 0 ((n : Int) - 1))) ∧ w' = W) := fun W => l01In_any _ _ _ W
        have HC2 : Hid (∀ W, RowI W (some ⟨b, off, none⟩) is → Calls Tryz.prog 88 #[.slice (some ⟨b, off, none⟩) k ic, .int .i64 (nthI is k)] W fun e w' => e = .returned (.bool ((is.take k).any fun x => x == nthI is k)) ∧ w' = W) := fun W hW => by
          have hlk : (is.take k).length = k := by rw [List.length_take, HL.out]; omega
          have := l03Has_any (some ⟨b, off, none⟩) ic (is.take k) (nthI is k) W (hW.take k) (by omega)
          rw [hlk] at this
          exact this
        have HN : Hid (IxUp is n len → inB (nthI is k) 0 ((n : Int) - 1) = true ∧ ((is.take k).any fun x => x == nthI is k) = false) := fun h => ⟨decide_eq_true ⟨(h k hlt).1.1, by have := (h k hlt).1.2; omega⟩, (h k hlt).2⟩
        have HN2 : Hid (inB (nthI is k) 0 ((n : Int) - 1) = true → ((is.take k).any fun x => x == nthI is k) = false → IxUp is n (k + 1)) := fun h1 h2 j hj => by
          by_cases e : j = k
          · subst e
            have := of_decide_eq_true h1
            exact ⟨⟨this.1, by omega⟩, h2⟩
          · exact HS.out j (by omega)
        clear q0 HIw xt xi hbl HS XT1 XI1 hlb
        generalize nthI is k = xk at *
        generalize ((is.take k).any fun x => x == xk) = has at *
        cases hin : inB xk 0 ((n : Int) - 1) with
        | false =>
          rw [hin] at HC1 HN
          have HF : Hid (¬ IdxP (nm, is) n) := fun h => by have := (HN.out (HT.out.1 h)).1; cases this
          clear HT HN HN2 hin
          go_wp2_with fail
          refine wp_region_class (C := StI w1 w.heap.size (w.heap.size + 1) (.slice ca n cc) (.slice (some ⟨b, off, none⟩) len ic) b (off + k) xk (some ⟨b, off, none⟩) is) (by kernel_rfl) (by kernel_rfl) hP.out ?_
          repeat (first | go_big_quiet_skip | (go_big_quiet_want; apply Exists.intro; refine ⟨?_, ?_⟩; (focus (intro w' hw'; first | (obtain ⟨m0, m1, m2, m3, m4⟩ := hw'; go_simp; with_reducible rfl) | (go_simp; refine (HC1.out w').mono ?_; rintro e w'' ⟨rfl, hq⟩; obtain rfl := hq.symm; exact ⟨rfl, hw'⟩) | (go_simp; refine (HC2.out w' hw'.2.2.2.1).mono ?_; rintro e w'' ⟨rfl, hq⟩; obtain rfl := hq.symm; exact ⟨rfl, hw'⟩))); (try simp only [Act.put, List.setIfInBounds_toArray, List.set_cons_zero, List.set_cons_succ]); go_big_quiet_on))
          refine wpQuiet_nil ?_
          intro w2 hw2
          have hB2 := hw2.2.2.2.2
          clear hw2
          go_wp2
          go_ret
          exact ⟨ret_bool' (asB_false HF.out), B1.trans (hB2.mono B1.size)⟩
        | true =>
          rw [hin] at HC1 HN HN2
          clear hin
          cases has with
          | true =>
            have HF : Hid (¬ IdxP (nm, is) n) := fun h => by have := (HN.out (HT.out.1 h)).2; cases this
            clear HT HN HN2
            go_wp2_with fail
            refine wp_region_class (C := StI w1 w.heap.size (w.heap.size + 1) (.slice ca n cc) (.slice (some ⟨b, off, none⟩) len ic) b (off + k) xk (some ⟨b, off, none⟩) is) (by kernel_rfl) (by kernel_rfl) hP.out ?_
            repeat (first | go_big_quiet_skip | (go_big_quiet_want; apply Exists.intro; refine ⟨?_, ?_⟩; (focus (intro w' hw'; first | (obtain ⟨m0, m1, m2, m3, m4⟩ := hw'; go_simp; with_reducible rfl) | (go_simp; refine (HC1.out w').mono ?_; rintro e w'' ⟨rfl, hq⟩; obtain rfl := hq.symm; exact ⟨rfl, hw'⟩) | (go_simp; refine (HC2.out w' hw'.2.2.2.1).mono ?_; rintro e w'' ⟨rfl, hq⟩; obtain rfl := hq.symm; exact ⟨rfl, hw'⟩))); (try simp only [Act.put, List.setIfInBounds_toArray, List.set_cons_zero, List.set_cons_succ]); go_big_quiet_on))
            refine wpQuiet_nil ?_
            intro w2 hw2
            have hB2 := hw2.2.2.2.2
            clear hw2
            go_wp2
            go_ret
            exact ⟨ret_bool' (asB_false HF.out), B1.trans (hB2.mono B1.size)⟩
          | false =>
            have HE : Hid (IxUp is n (k + 1)) := HN2.out rfl rfl
            clear HN HN2
            go_wp2_with fail
            refine wp_region_class (C := StI w1 w.heap.size (w.heap.size + 1) (.slice ca n cc) (.slice (some ⟨b, off, none⟩) len ic) b (off + k) xk (some ⟨b, off, none⟩) is) (by kernel_rfl) (by kernel_rfl) hP.out ?_
            repeat (first | go_big_quiet_skip | (go_big_quiet_want; apply Exists.intro; refine ⟨?_, ?_⟩; (focus (intro w' hw'; first | (obtain ⟨m0, m1, m2, m3, m4⟩ := hw'; go_simp; with_reducible rfl) | (go_simp; refine (HC1.out w').mono ?_; rintro e w'' ⟨rfl, hq⟩; obtain rfl := hq.symm; exact ⟨rfl, hw'⟩) | (go_simp; refine (HC2.out w' hw'.2.2.2.1).mono ?_; rintro e w'' ⟨rfl, hq⟩; obtain rfl := hq.symm; exact ⟨rfl, hw'⟩))); (try simp only [Act.put, List.setIfInBounds_toArray, List.set_cons_zero, List.set_cons_succ]); go_big_quiet_on))
            refine wpQuiet_nil ?_
            intro w2 hw2
            have hB2 := hw2.2.2.2.2
            clear hw2
            go_wp2
            go_roundw
            case rel => exact ⟨k + 1, by omega, by go_num, HE, hB2⟩
            case measure => simp [intOf]; omega
      · obtain rfl : k = len := by omega
        clear xt xi
        go_wp2
        go_ret
        exact ⟨ret_bool' (asB_true (HT.out.2 HS.out)), hB⟩
end Go.Proofs.YteejkmcljokloaaGreatDoor
