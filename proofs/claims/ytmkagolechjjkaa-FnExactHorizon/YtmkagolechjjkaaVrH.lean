/- A region that draws its order, over a class of worlds; impl's look at a transaction (stage 7). -/
import Derived.Test.YtmkagolechjjkaaVrG
import Derived.BigQuiet
namespace Go.Proofs.Ytmkagolechjjkaa
open Go.RowKit

theorem wp_region_class {P : Program} {C : World → Prop} {id : Nat} {Q : Exit → Act → World → Prop} {a : Act} {w : World} {l : List Oper} (hm : P.follows .mixedOrders = true) (hB : Region.lexB .any l.toArray = true) (hC : C w.drew)
    (h : wpQuiet P l.toArray C (fun a' => ∀ w', C w' → Q .normal a' w') l a) : (Code.region id l.toArray true).wp P Q a w :=
  wp_region_quiet (C := C) hm hB hC (by simpa using h)
theorem wrap_nat {j : Nat} (h : j ≤ 1048576) : IntKind.i64.wrap (j : Int) = (j : Int) := by
  simp [IntKind.wrap, IntKind.signed, IntKind.bits]; omega
/-- The writes up to k are right. -/
def WrsP (ws : List TW) (k : Nat) : Prop := ∀ i, i < k → WrP (nthW ws i) ∧ (0 < i → Less (nthW ws (i - 1)).1 (nthW ws i).1)
theorem WrsP.next {ws : List TW} {k : Nat} (h : WrsP ws k) (h1 : WrP (nthW ws k)) (h2 : 0 < k → Less (nthW ws (k - 1)).1 (nthW ws k).1) : WrsP ws (k + 1) := fun i hi => by
  by_cases e : i = k
  · subst e; exact ⟨h1, h2⟩
  · exact h i (by omega)
theorem TxP.open {n now : Int} {ws : List TW} : TxP (true, n, ws) now ↔ 0 ≤ n ∧ n ≤ now ∧ ws.length ≤ 8 ∧ WrsP ws ws.length :=
  ⟨fun h => h.2 rfl, fun h => ⟨fun e => (by cases e), fun _ => h⟩⟩
theorem TxP.shut {n now : Int} {ws : List TW} : TxP (false, n, ws) now ↔ n = 0 ∧ ws.length = 0 :=
  ⟨fun h => h.1 rfl, fun h => ⟨fun _ => h, fun e => by cases e⟩⟩
/-- What stands while a write is looked at. -/
abbrev StW (W : World) (nb bx : Nat) (x : TW) (sv : Value) (w' : World) : Prop := w'.cell? ⟨nb, 0, none⟩ = some (.string x.1) ∧ w'.cell? ⟨nb, 1, none⟩ = some (.string x.2.1) ∧ w'.cell? ⟨nb, 2, none⟩ = some (.bool x.2.2) ∧ w'.cell? ⟨bx, 2, none⟩ = some sv ∧ nb < w'.heap.size ∧ bx < w'.heap.size ∧ Below W.heap.size W w'
theorem StW.keep {W : World} {nb bx : Nat} {x : TW} {sv : Value} {w1 w2 : World} (h : StW W nb bx x sv w1) (hb : Below w1.heap.size w1 w2) : StW W nb bx x sv w2 :=
  ⟨(hb.cell (p := ⟨nb, 0, none⟩) h.2.2.2.2.1).trans h.1, (hb.cell (p := ⟨nb, 1, none⟩) h.2.2.2.2.1).trans h.2.1, (hb.cell (p := ⟨nb, 2, none⟩) h.2.2.2.2.1).trans h.2.2.1, (hb.cell (p := ⟨bx, 2, none⟩) h.2.2.2.2.2.1).trans h.2.2.2.1, Nat.lt_of_lt_of_le h.2.2.2.2.1 hb.size, Nat.lt_of_lt_of_le h.2.2.2.2.2.1 hb.size, below_step h.2.2.2.2.2.2 (Nat.le_refl _) hb⟩

set_option maxRecDepth 100000 in
set_option maxHeartbeats 4000000 in
theorem txOK_any (o : Bool) (n : Int) (wa : Option Addr) (wc : Nat) (ws : List TW) (now : Int) (w : World) (h : RowW w wa ws) (hl : ws.length ≤ 1048576) :
    Calls Try.prog 42 #[ValX o n (.slice wa ws.length wc), .int .i64 now] w fun e w' => e = .returned (.bool (asB (TxP (o, n, ws) now))) ∧ Below w.heap.size w w' := by
  have HR : Hid (RowW w wa ws) := h
  clear h
  obtain ⟨W0, hW0⟩ : ∃ W0, w.alloc (.cells #[.bool o, .int .i64 n, .slice wa ws.length wc] 62) = W0 := ⟨_, rfl⟩
  have B0 : Below w.heap.size w W0 := hW0 ▸ (Below.refl _ _).alloc (Nat.le_refl _) _
  have xb : W0.heap[w.heap.size]? = some (.cells #[.bool o, .int .i64 n, .slice wa ws.length wc] 62 (0, 0)) := by rw [← hW0]; exact heap_new' _ _ _ rfl
  have c0 : W0.cell? ⟨w.heap.size, 0, none⟩ = some (.bool o) := by simp [World.cell?, xb]
  have c1 : W0.cell? ⟨w.heap.size, 1, none⟩ = some (.int .i64 n) := by simp [World.cell?, xb]
  have c2 : W0.cell? ⟨w.heap.size, 2, none⟩ = some (.slice wa ws.length wc) := by simp [World.cell?, xb]
  have XB : Hid (W0.heap[w.heap.size]? = some (.cells #[.bool o, .int .i64 n, .slice wa ws.length wc] 62 (0, 0))) := xb
  clear xb
  cases o with
  | false =>
    by_cases h0 : n = 0
    · subst h0
      go_enter Try.func42, Try.ntmps42
      go_wp2
      go_ret
      exact ⟨ret_bool' (asB_eq (TxP.shut.trans ⟨fun h => by simpa using h.2, fun h => ⟨rfl, by simpa using h⟩⟩)), B0⟩
    · have h0' : (n == 0) = false := by simpa using h0
      go_enter Try.func42, Try.ntmps42
      go_wp2
      go_ret
      exact ⟨ret_bool' (asB_false (fun h => h0 (TxP.shut.1 h).1)), B0⟩
  | true =>
    by_cases h1 : n < 0
    · go_enter Try.func42, Try.ntmps42
      go_wp2
      go_ret
      exact ⟨ret_bool' (asB_false (fun h => by have := (TxP.open.1 h).1; omega)), B0⟩
    by_cases h2 : now < n
    · go_enter Try.func42, Try.ntmps42
      go_wp2
      go_ret
      exact ⟨ret_bool' (asB_false (fun h => by have := (TxP.open.1 h).2.1; omega)), B0⟩
    by_cases h3 : (8 : Int) < (ws.length : Int)
    · go_enter Try.func42, Try.ntmps42
      go_wp2
      go_ret
      exact ⟨ret_bool' (asB_false (fun h => by have := (TxP.open.1 h).2.2.1; omega)), B0⟩
    obtain ⟨len, hlen⟩ : ∃ m, ws.length = m := ⟨_, rfl⟩
    have HL : Hid (ws.length = len) := hlen
    have HT : Hid (WrsP ws len ↔ TxP (true, n, ws) now) := ⟨fun h => TxP.open.2 ⟨by omega, by omega, by omega, by rw [hlen]; exact h⟩, fun h => by have := (TxP.open.1 h).2.2.2; rw [hlen] at this; exact this⟩
    have SV : ∃ sv, Value.slice wa ws.length wc = sv := ⟨_, rfl⟩
    rw [hlen] at h3 c2 hl hW0 XB ⊢
    clear hlen SV
    go_enter Try.func42, Try.ntmps42
    go_wp2
    go_loopw [37] (fun i wr => ∃ k : Nat, k ≤ len ∧ i = .int .i64 k ∧ Hid (WrsP ws k) ∧ Below W0.heap.size W0 wr) (fun i _ => len - (intOf i).toNat)
    case atStart => exact ⟨0, by omega, rfl, fun i hi => by omega, Below.refl _ _⟩
    case round =>
      obtain ⟨k, hk, rfl, HS, hbl⟩ := hrel
      have hB := B0.trans (hbl.mono B0.size)
      clear c0 c1 c2 hW0
      by_cases hlt : k < len
      · have hltI : (k : Int) < (len : Int) := by omega
        obtain ⟨b, off, rfl, hlb, ⟨q0, q1, q2⟩, z1, z2⟩ := (HR.out.below hB) k (by rw [HL.out]; exact hlt)
        have xb := kpBlk XB.out hbl (slab_lt XB.out)
        obtain ⟨W1, hW1⟩ : ∃ W1, wr.alloc (.cells #[.string (nthW ws k).1, .string (nthW ws k).2.1, .bool (nthW ws k).2.2] 93) = W1 := ⟨_, rfl⟩
        have b1 : Below wr.heap.size wr W1 := hW1 ▸ (Below.refl _ _).alloc (Nat.le_refl _) _
        have yb : W1.heap[wr.heap.size]? = some (.cells #[.string (nthW ws k).1, .string (nthW ws k).2.1, .bool (nthW ws k).2.2] 93 (0, 0)) := hW1 ▸ heap_new' _ _ _ rfl
        have zb := kpBlk xb b1 (slab_lt xb)
        have hP : Hid (StW W0 wr.heap.size w.heap.size (nthW ws k) (.slice (some ⟨b, off, none⟩) len wc) W1.drew) := ⟨slab_cell yb, slab_cell yb, slab_cell yb, slab_cell zb, slab_lt yb, slab_lt zb, (below_step hbl (Nat.le_refl _) b1).drew⟩
        have HC : Hid (∀ W, Calls Try.prog 63 #[ValW (nthW ws k)] W fun e w' => e = .returned (.bool (asB (WrP (nthW ws k)))) ∧ Below W.heap.size W w') := fun W => writeOK_any _ W z1 z2
        clear z1 z2 xb yb zb
        cases hok : asB (WrP (nthW ws k)) with
        | false =>
          rw [hok] at HC
          have HF : Hid (¬ TxP (true, n, ws) now) := fun h => asB_not hok (HT.out.2 h k hlt).1
          clear hok
          go_wp2_with fail
          refine wp_region_class (C := StW W0 wr.heap.size w.heap.size (nthW ws k) (.slice (some ⟨b, off, none⟩) len wc)) (by kernel_rfl) (by kernel_rfl) hP.out ?_
          repeat (first | go_big_quiet_skip | (go_big_quiet_want; apply Exists.intro; refine ⟨?_, ?_⟩; (focus (intro w' hw'; first | (obtain ⟨m0, m1, m2, m3, m4, m5, m6⟩ := hw'; go_simp; with_reducible rfl) | (go_simp; refine (HC.out w').mono ?_; rintro e w'' ⟨rfl, hb⟩; exact ⟨rfl, hw'.keep hb⟩))); (try simp only [Act.put, List.setIfInBounds_toArray, List.set_cons_zero, List.set_cons_succ]); go_big_quiet_on))
          refine wpQuiet_nil ?_
          intro w2 hw2
          have hB2 := hw2.2.2.2.2.2.2
          clear hw2
          go_wp2
          go_ret
          exact ⟨ret_bool' (asB_false HF.out), B0.trans (hB2.mono B0.size)⟩
        | true =>
          rw [hok] at HC
          have HW : Hid (WrP (nthW ws k)) := asB_is hok
          clear hok
          by_cases hz : k = 0
          · subst hz
            have HN : Hid (WrsP ws (0 + 1)) := HS.out.next HW.out (fun h => absurd h (by omega))
            clear HW
            rw [Nat.zero_mul, Nat.add_zero] at q0 q1 q2
            go_wp2_with fail
            refine wp_region_class (C := StW W0 wr.heap.size w.heap.size (nthW ws 0) (.slice (some ⟨b, off, none⟩) len wc)) (by kernel_rfl) (by kernel_rfl) hP.out ?_
            repeat (first | go_big_quiet_skip | (go_big_quiet_want; apply Exists.intro; refine ⟨?_, ?_⟩; (focus (intro w' hw'; first | (obtain ⟨m0, m1, m2, m3, m4, m5, m6⟩ := hw'; go_simp; with_reducible rfl) | (go_simp; refine (HC.out w').mono ?_; rintro e w'' ⟨rfl, hb⟩; exact ⟨rfl, hw'.keep hb⟩))); (try simp only [Act.put, List.setIfInBounds_toArray, List.set_cons_zero, List.set_cons_succ]); go_big_quiet_on))
            refine wpQuiet_nil ?_
            intro w2 hw2
            have hB2 := hw2.2.2.2.2.2.2
            have HB3 : Hid (Below W0.heap.size W0 w2) := hB2
            clear hw2
            go_wp2
            go_roundw
            case rel => exact ⟨1, by omega, by go_num, HN, HB3.out⟩
            case measure => simp [intOf]; omega
          · obtain ⟨j, rfl⟩ : ∃ j, k = j + 1 := ⟨k - 1, by omega⟩
            obtain ⟨b', off', e', hlb', ⟨p0, _, _⟩, _, _⟩ := (HR.out.below hB) j (by rw [HL.out]; omega)
            cases e'
            have hP2 : Hid (StW W0 wr.heap.size w.heap.size (nthW ws (j + 1)) (.slice (some ⟨b, off, none⟩) len wc) W1.drew ∧ W1.drew.cell? ⟨b, off + j * 3, none⟩ = some (.string (nthW ws j).1) ∧ b < W1.drew.heap.size) := ⟨hP.out, (b1.cell (p := ⟨b, off + j * 3, none⟩) hlb).trans p0, Nat.lt_of_lt_of_le hlb b1.size⟩
            have hsub : (j : Int) + 1 - 1 = (j : Int) := by omega
            have hj : (j : Int) < (len : Int) := by omega
            have hwr : IntKind.i64.wrap (j : Int) = (j : Int) := wrap_nat (by omega)
            have hpos : (0 : Int) < (j : Int) + 1 := by omega
            have htot := less_tot (nthW ws j).1.toList (nthW ws (j + 1)).1.toList
            clear p0 hP b1
            cases hless : Op.bytesLess (nthW ws j).1.toList (nthW ws (j + 1)).1.toList with
            | true =>
              have HN : Hid (WrsP ws (j + 1 + 1)) := HS.out.next HW.out (fun _ => by simp only [Nat.add_sub_cancel]; exact hless)
              rw [hless] at htot
              have ht : (Op.bytesLess (nthW ws (j + 1)).1.toList (nthW ws j).1.toList || (nthW ws (j + 1)).1.toList == (nthW ws j).1.toList) = false := htot
              clear HW hless htot
              generalize nthW ws (j + 1) = x at *
              generalize (nthW ws j).1 = y at *
              go_wp2_with fail
              refine wp_region_class (C := fun w' => StW W0 wr.heap.size w.heap.size x (.slice (some ⟨b, off, none⟩) len wc) w' ∧ w'.cell? ⟨b, off + j * 3, none⟩ = some (.string y) ∧ b < w'.heap.size) (by kernel_rfl) (by kernel_rfl) hP2.out ?_
              repeat (first | go_big_quiet_skip | (go_big_quiet_want; apply Exists.intro; refine ⟨?_, ?_⟩; (focus (intro w' hw'; first | (obtain ⟨⟨m0, m1, m2, m3, m4, m5, m6⟩, m7, m8⟩ := hw'; go_simp; with_reducible rfl) | (go_simp; refine (HC.out w').mono ?_; rintro e w'' ⟨rfl, hb⟩; exact ⟨rfl, hw'.1.keep hb, (hb.cell (p := ⟨b, off + j * 3, none⟩) hw'.2.2).trans hw'.2.1, Nat.lt_of_lt_of_le hw'.2.2 hb.size⟩))); (try simp only [Act.put, List.setIfInBounds_toArray, List.set_cons_zero, List.set_cons_succ]); go_big_quiet_on))
              refine wpQuiet_nil ?_
              intro w2 hw2
              have hB2 := hw2.1.2.2.2.2.2.2
              clear hw2
              go_wp2
              go_roundw
              case rel => exact ⟨j + 1 + 1, by omega, by go_num, HN, hB2⟩
              case measure => simp [intOf]; omega
            | false =>
              have HF : Hid (¬ TxP (true, n, ws) now) := fun h => by have := (HT.out.2 h (j + 1) hlt).2 (by omega); simp only [Nat.add_sub_cancel] at this; unfold Less at this; rw [hless] at this; cases this
              rw [hless] at htot
              have ht : (Op.bytesLess (nthW ws (j + 1)).1.toList (nthW ws j).1.toList || (nthW ws (j + 1)).1.toList == (nthW ws j).1.toList) = true := htot
              clear HW hless htot
              generalize nthW ws (j + 1) = x at *
              generalize (nthW ws j).1 = y at *
              go_wp2_with fail
              refine wp_region_class (C := fun w' => StW W0 wr.heap.size w.heap.size x (.slice (some ⟨b, off, none⟩) len wc) w' ∧ w'.cell? ⟨b, off + j * 3, none⟩ = some (.string y) ∧ b < w'.heap.size) (by kernel_rfl) (by kernel_rfl) hP2.out ?_
              repeat (first | go_big_quiet_skip | (go_big_quiet_want; apply Exists.intro; refine ⟨?_, ?_⟩; (focus (intro w' hw'; first | (obtain ⟨⟨m0, m1, m2, m3, m4, m5, m6⟩, m7, m8⟩ := hw'; go_simp; with_reducible rfl) | (go_simp; refine (HC.out w').mono ?_; rintro e w'' ⟨rfl, hb⟩; exact ⟨rfl, hw'.1.keep hb, (hb.cell (p := ⟨b, off + j * 3, none⟩) hw'.2.2).trans hw'.2.1, Nat.lt_of_lt_of_le hw'.2.2 hb.size⟩))); (try simp only [Act.put, List.setIfInBounds_toArray, List.set_cons_zero, List.set_cons_succ]); go_big_quiet_on))
              refine wpQuiet_nil ?_
              intro w2 hw2
              have hB2 := hw2.1.2.2.2.2.2.2
              clear hw2
              go_wp2
              go_ret
              exact ⟨ret_bool' (asB_false HF.out), B0.trans (hB2.mono B0.size)⟩
      · obtain rfl : k = len := by omega
        go_wp2
        go_ret
        exact ⟨ret_bool' (asB_true (HT.out.1 HS.out)), hB⟩
end Go.Proofs.Ytmkagolechjjkaa
