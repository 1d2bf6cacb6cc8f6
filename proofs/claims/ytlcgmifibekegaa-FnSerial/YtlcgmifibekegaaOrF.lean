/- The specification's order, walked (stage 8). -/
import Derived.Test.YtlcgmifibekegaaOrE
namespace Go.Proofs.Ytlcgmifibekegaa
open Go.RowKit

/-- What stands while an edge is looked at. -/
abbrev StG (W : World) (b off j : Nat) (fr to : Int) (g k : Nat) (x : Int) (Rs : List Int) (w' : World) : Prop := w'.cell? ⟨b, off + j * 2, none⟩ = some (.int .i64 fr) ∧ w'.cell? ⟨b, off + j * 2 + 1, none⟩ = some (.int .i64 to) ∧ b < w'.heap.size ∧ w'.cell? ⟨g, k, none⟩ = some (.int .i64 x) ∧ g < w'.heap.size ∧ RowI w' (some ⟨g, 0, none⟩) Rs ∧ Below W.heap.size W w'
theorem app_none (base : Nat) (c : Nat) (v : Value) (l : List Int) (w : World) (hown : OwnI w base v l) : (Builtin.append_ #[25, 25] 25 #[v, .slice none 0 c]).run Try.prog w = .ok v w := by
  obtain ⟨i0, hi, hz0, hz1, hz2⟩ := info_parts info3
  rcases hown.2 with ⟨rfl, _⟩ | ⟨g, cap, cur, rfl, _, _, hnc, _⟩
  · simp [Builtin.append_, run_underlying Try.underlying25, sizeOf, typeInfo, hi, Builtin.lenOf, Builtin.firstCells]
  · simp [Builtin.append_, run_underlying Try.underlying25, sizeOf, typeInfo, hi, Builtin.lenOf, Builtin.firstCells, hnc, storeCells]
theorem app_O (v : Value) (l xs : List Int) (w : World) (B c : Nat) (h : OwnI w B v l) (hl : l.length + xs.length ≤ 1048576) (a : Option Addr) (hx : RowI w a xs) (hB : B ≤ w.heap.size) :
    ∃ v' w', (Builtin.append_ #[25, 25] 25 #[v, .slice a xs.length c]).run Try.prog w = .ok v' w' ∧ OwnI w' B v' (l ++ xs) ∧ w.grownBy w' v.ownBlock := by
  cases a with
  | none =>
    obtain rfl : xs = [] := by
      cases xs with
      | nil => rfl
      | cons y ys => obtain ⟨b, off, e, _⟩ := hx 0 (by simp); cases e
    exact ⟨v, w, app_none B c v l w h, by rw [List.append_nil]; exact h, ⟨rfl, rfl, rfl, Nat.le_refl _, fun _ _ _ => rfl⟩⟩
  | some ad =>
    refine app_I v l xs w B c h hl ad (fun j hj => ?_) hB
    obtain ⟨b, off, e, _, q⟩ := hx j hj
    cases e
    rw [add_plain]; exact q
theorem cell_of_block {w w' : World} {g o : Nat} (h : w'.heap[g]? = w.heap[g]?) : w'.cell? ⟨g, o, none⟩ = w.cell? ⟨g, o, none⟩ := by
  simp [World.cell?, h]

set_option maxRecDepth 100000 in
set_option maxHeartbeats 8000000 in
theorem l08Order_any (a a' : Option Addr) (cap cap' : Nat) (ns : List Int) (es : List P2) (w : World) (h : RowI w a ns) (h' : RowP w a' es) (hl : ns.length ≤ 20) (hl' : es.length ≤ 400) (hnd : ns.Nodup) :
    Calls Try.prog 77 #[.slice a ns.length cap, .slice a' es.length cap'] w fun e w' => ∃ v L c, e = .returned (.tuple #[v, .bool c]) ∧ RunV es ns L ∧ DoneV es ns L ∧ c = decide (¬ L.length < ns.length) ∧ OwnI w' w.heap.size v (if L.length < ns.length then [] else L) ∧ Below w.heap.size w w' := by
  have HP : Hid (RowP w a' es) := h'
  have HST : Hid (IO es ns ns []) := IO.start hnd
  have O1 := OwnI.made w w.heap.size (Nat.le_refl _)
  have b1 : Below w.heap.size w (w.alloc (.cells #[] 3)) := (Below.refl _ _).alloc (Nat.le_refl _) _
  obtain ⟨v6, w1, hrun, o6, gr⟩ := app_O (.slice (some ⟨w.heap.size, 0, none⟩) 0 0) [] ns (w.alloc (.cells #[] 3)) w.heap.size cap O1 (by simp; omega) a (h.below b1) (by simp)
  rw [List.nil_append] at o6
  have BW1 : Below w.heap.size w w1 := own_below b1 (by simp) O1 gr
  have HS0 : Hid (OwnI (w1.alloc (.cells #[] 3)) w.heap.size v6 ns ∧ OwnI (w1.alloc (.cells #[] 3)) w.heap.size (.slice (some ⟨w1.heap.size, 0, none⟩) 0 0) [] ∧ ∀ j, v6.ownBlock = some j → (Value.slice (some ⟨w1.heap.size, 0, none⟩) 0 0).ownBlock ≠ some j) := ⟨o6.alloc _, OwnI.made w1 _ BW1.size, fun j hj e => by have := (own_lt o6 hj).2; simp [Value.ownBlock] at e; omega⟩
  have BS0 : Below w.heap.size w (w1.alloc (.cells #[] 3)) := BW1.alloc BW1.size _
  obtain ⟨n, hn⟩ : ∃ m, ns.length = m := ⟨_, rfl⟩
  have HN : Hid (ns.length = n) := hn
  rw [hn] at hl hrun ⊢
  obtain ⟨ne, hne⟩ : ∃ m, es.length = m := ⟨_, rfl⟩
  have HNE : Hid (es.length = ne) := hne
  rw [hne] at hl' ⊢
  clear h h' hnd hn hne O1 b1 o6 gr BW1
  go_enter Try.func77, Try.ntmps77
  go_wp2_with (at_builtin; refine Lib.wpList_append_run _ rfl _ _ _ _ rfl _ _ rfl rfl _ _ hrun ?_)
  clear hrun
  go_loopw [6, 7] (fun v6 v7 wr => ∃ Rs L, Hid (IO es ns Rs L) ∧ Hid (OwnI wr w.heap.size v6 Rs ∧ OwnI wr w.heap.size v7 L ∧ ∀ j, v6.ownBlock = some j → v7.ownBlock ≠ some j) ∧ Below w.heap.size w wr) (fun v6 _ _ => lenOfV v6)
  case atStart => exact ⟨ns, [], HST, HS0, BS0⟩
  case round =>
    clear HS0 BS0 HST
    obtain ⟨Rs, L, HIO, HO, hbl⟩ := hrel
    obtain ⟨n6, hn6⟩ : ∃ m, Rs.length = m := ⟨_, rfl⟩
    have HN6 : Hid (Rs.length = n6) := hn6
    have h6 : wr.ownsRow w.heap.size 3 1 u6 n6 (Rs.map (Value.int .i64)) := by rw [← hn6]; exact HO.out.1
    have hle6 : n6 ≤ 20 := by have := HIO.out.len; rw [HN6.out, HN.out] at this; omega
    clear hn6
    by_cases h0 : n6 = 0
    · obtain ⟨a6, c6, rfl⟩ := own_shp h6
      subst h0
      have HFU := HIO.out.full HN6.out
      have HLN : Hid (¬ L.length < n) := by show ¬ _; have := HFU.2; rw [HN.out] at this; omega
      have HD : Hid (DoneV es ns L) := HFU.1
      have HOW : Hid (OwnI wr w.heap.size u7 L) := HO.out.2.1
      clear HFU HO h6
      go_wp2
      go_ret2
      exact ⟨_, L, _, rfl, HIO.out.run, HD.out, (decide_eq_true HLN.out).symm, by rw [if_neg HLN.out]; exact HOW.out, hbl⟩
    · rcases h6.2 with ⟨_, q⟩ | ⟨g6, cap6, cur, rfl, hb6, hcur, hnc, hcm, _, _⟩
      · exact absurd q h0
      have HR0 : Hid (RowI wr (some ⟨g6, 0, none⟩) Rs) := by
        obtain ⟨a1, c1, e1, r1, _⟩ := HO.out.1.row
        cases e1
        exact r1
      have HB0 : Hid (Below w.heap.size w wr) := hbl
      have h0I : (0 : Int) < (n6 : Int) := by omega
      clear h6 hcur
      rename World => W0
      go_wp2
      go_loopw [8, 9] (fun b i wr => ∃ k : Nat, k ≤ n6 ∧ i = .int .i64 k ∧ ∃ z : Int, b = .int .i64 z ∧ Hid (BestP es Rs k z) ∧ Below W0.heap.size W0 wr) (fun _ i _ => n6 - (intOf i).toNat)
      case atStart => exact ⟨0, by omega, rfl, -1, rfl, .inl ⟨rfl, fun j hj => by omega⟩, Below.refl _ _⟩
      case round =>
        clear hbl
        obtain ⟨k, hk, rfl, z, rfl, HBP, hbk⟩ := hrel
        by_cases hlt : k < n6
        · have hltI : (k : Int) < (n6 : Int) := by omega
          obtain ⟨x, hx⟩ : ∃ x, nthI Rs k = x := ⟨_, rfl⟩
          have HX : Hid (nthI Rs k = x) := hx
          clear hx
          go_wp2
          go_loopw [10, 11] (fun o i wr => ∃ j : Nat, j ≤ ne ∧ o = .bool (okJ es Rs x j) ∧ i = .int .i64 j ∧ Below W0.heap.size W0 wr) (fun _ i _ => ne - (intOf i).toNat)
          case atStart => exact ⟨0, by omega, by rw [okJ_zero], rfl, hbk⟩
          case round =>
            clear hbk
            obtain ⟨j, hj, rfl, rfl, hbj⟩ := hrel
            by_cases hltj : j < ne
            · skip
              have hltjI : (j : Int) < (ne : Int) := by omega
              have hwj : IntKind.i64.wrap (j : Int) = (j : Int) := wrap_nat (by omega)
              have hwk : IntKind.i64.wrap (k : Int) = (k : Int) := wrap_nat (by omega)
              obtain ⟨b, off, rfl, hlb, q0, q1⟩ := (HP.out.below (below_step HB0.out (Nat.le_refl _) hbj)) j (by rw [HNE.out]; exact hltj)
              have hrow := HR0.out.below hbj
              obtain ⟨b', off', e', hlb', qx⟩ := hrow k (by rw [HN6.out]; exact hlt)
              cases e'
              rw [Nat.zero_add, HX.out] at qx
              have hst := okJ_step es Rs x j
              obtain ⟨p, hp⟩ : ∃ p, nthP es j = p := ⟨_, rfl⟩
              rw [hp] at q0 q1 hst
              clear hp
              obtain ⟨fr, to⟩ := p
              simp only at q0 q1 hst
              have hcall : ∀ W : World, RowI W (some ⟨g6, 0, none⟩) Rs → Calls Try.prog 76 #[.slice (some ⟨g6, 0, none⟩) n6 cap6, .int .i64 fr] W fun r w' => r = .returned (.bool (Rs.any (fun y => y == fr))) ∧ w' = W := fun W hW => by
                have := l03Has_any (some ⟨g6, 0, none⟩) cap6 Rs fr W hW (by rw [HN6.out]; omega)
                rw [HN6.out] at this
                exact this
              generalize Rs.any (fun y => y == fr) = an at hst hcall
              generalize okJ es Rs x j = oj at hst
              have HCL : Hid (∀ W, StG W0 b off j fr to g6 k x Rs W → Calls Try.prog 76 #[.slice (some ⟨g6, 0, none⟩) n6 cap6, .int .i64 fr] W fun r w' => r = .returned (.bool an) ∧ w' = W) := fun W hW => hcall W hW.2.2.2.2.2.1
              have hC : Hid (StG W0 b off j fr to g6 k x Rs wr.drew) := ⟨q0, q1, hlb, qx, hlb', hrow, hbj.drew⟩
              clear hcall q0 q1 qx hrow hbj
              cases oj with
              | false =>
                have HOK : Hid (okJ es Rs x (j + 1) = false) := hst
                clear hst
                go_wp2_with fail
                refine wp_region_class (C := StG W0 b off j fr to g6 k x Rs) (by kernel_rfl) (by kernel_rfl) hC.out ?_
                repeat (first | go_big_quiet_skip | (go_big_quiet_want; apply Exists.intro; refine ⟨?_, ?_⟩; (focus (intro w' hw'; first | (obtain ⟨m0, m1, m2, m3, m4, m5, m6⟩ := hw'; go_simp; with_reducible rfl) | (go_simp; refine (HCL.out w' hw').mono ?_; rintro e w'' ⟨rfl, rfl⟩; exact ⟨rfl, hw'⟩))); (try simp only [Act.put, List.setIfInBounds_toArray, List.set_cons_zero, List.set_cons_succ]); go_big_quiet_on))
                refine wpQuiet_nil ?_
                intro w2 hw2
                have B2 : Below W0.heap.size W0 w2 := hw2.2.2.2.2.2.2
                clear hw2 hC HCL
                go_wp2
                go_roundw
                case rel => exact ⟨j + 1, by omega, by rw [HOK.out], by go_num, B2⟩
                case measure => simp [intOf]; omega
              | true =>
                cases htx : (to == x) with
                | false =>
                  rw [htx] at hst
                  have HOK : Hid (okJ es Rs x (j + 1) = true) := hst
                  clear hst
                  go_wp2_with fail
                  refine wp_region_class (C := StG W0 b off j fr to g6 k x Rs) (by kernel_rfl) (by kernel_rfl) hC.out ?_
                  repeat (first | go_big_quiet_skip | (go_big_quiet_want; apply Exists.intro; refine ⟨?_, ?_⟩; (focus (intro w' hw'; first | (obtain ⟨m0, m1, m2, m3, m4, m5, m6⟩ := hw'; go_simp; with_reducible rfl) | (go_simp; refine (HCL.out w' hw').mono ?_; rintro e w'' ⟨rfl, rfl⟩; exact ⟨rfl, hw'⟩))); (try simp only [Act.put, List.setIfInBounds_toArray, List.set_cons_zero, List.set_cons_succ]); go_big_quiet_on))
                  refine wpQuiet_nil ?_
                  intro w2 hw2
                  have B2 : Below W0.heap.size W0 w2 := hw2.2.2.2.2.2.2
                  clear hw2 hC HCL
                  go_wp2
                  go_roundw
                  case rel => exact ⟨j + 1, by omega, by rw [HOK.out], by go_num, B2⟩
                  case measure => simp [intOf]; omega
                | true =>
                  rw [htx] at hst
                  cases an with
                  | false =>
                    have HOK : Hid (okJ es Rs x (j + 1) = true) := hst
                    clear hst
                    go_wp2_with fail
                    refine wp_region_class (C := StG W0 b off j fr to g6 k x Rs) (by kernel_rfl) (by kernel_rfl) hC.out ?_
                    repeat (first | go_big_quiet_skip | (go_big_quiet_want; apply Exists.intro; refine ⟨?_, ?_⟩; (focus (intro w' hw'; first | (obtain ⟨m0, m1, m2, m3, m4, m5, m6⟩ := hw'; go_simp; with_reducible rfl) | (go_simp; refine (HCL.out w' hw').mono ?_; rintro e w'' ⟨rfl, rfl⟩; exact ⟨rfl, hw'⟩))); (try simp only [Act.put, List.setIfInBounds_toArray, List.set_cons_zero, List.set_cons_succ]); go_big_quiet_on))
                    refine wpQuiet_nil ?_
                    intro w2 hw2
                    have B2 : Below W0.heap.size W0 w2 := hw2.2.2.2.2.2.2
                    clear hw2 hC HCL
                    go_wp2
                    go_roundw
                    case rel => exact ⟨j + 1, by omega, by rw [HOK.out], by go_num, B2⟩
                    case measure => simp [intOf]; omega
                  | true =>
                    have HOK : Hid (okJ es Rs x (j + 1) = false) := hst
                    clear hst
                    go_wp2_with fail
                    refine wp_region_class (C := StG W0 b off j fr to g6 k x Rs) (by kernel_rfl) (by kernel_rfl) hC.out ?_
                    repeat (first | go_big_quiet_skip | (go_big_quiet_want; apply Exists.intro; refine ⟨?_, ?_⟩; (focus (intro w' hw'; first | (obtain ⟨m0, m1, m2, m3, m4, m5, m6⟩ := hw'; go_simp; with_reducible rfl) | (go_simp; refine (HCL.out w' hw').mono ?_; rintro e w'' ⟨rfl, rfl⟩; exact ⟨rfl, hw'⟩))); (try simp only [Act.put, List.setIfInBounds_toArray, List.set_cons_zero, List.set_cons_succ]); go_big_quiet_on))
                    refine wpQuiet_nil ?_
                    intro w2 hw2
                    have B2 : Below W0.heap.size W0 w2 := hw2.2.2.2.2.2.2
                    clear hw2 hC HCL
                    go_wp2
                    go_roundw
                    case rel => exact ⟨j + 1, by omega, by rw [HOK.out], by go_num, B2⟩
                    case measure => simp [intOf]; omega
            · skip
              obtain rfl : j = ne := by omega
              have hwk : IntKind.i64.wrap (k : Int) = (k : Int) := wrap_nat (by omega)
              have hrow := HR0.out.below hbj
              obtain ⟨b', off', e', hlb', qx⟩ := hrow k (by rw [HN6.out]; exact hlt)
              cases e'
              rw [Nat.zero_add, HX.out] at qx
              have HFR : Hid (okJ es Rs x j = true ↔ FreeV es (fun x => x ∈ Rs) (nthI Rs k)) := by
                have := okJ_free (es := es) (Rs := Rs) (k := k) (by rw [HN6.out]; exact hlt)
                rw [HX.out, HNE.out] at this
                rw [HX.out]
                exact this
              cases hoj : okJ es Rs x j with
              | false =>
                have HB2 : Hid (BestP es Rs (k + 1) z) := HBP.out.skip (fun h => by have := HFR.out.2 h; rw [hoj] at this; cases this)
                clear hoj
                go_wp2_with fail
                go_quiet (fail)
                go_wp2
                go_roundw
                case rel => exact ⟨k + 1, by omega, by go_num, z, rfl, HB2, below_drewN hbj _⟩
                case measure => simp [intOf]; omega
              | true =>
                have HF : Hid (FreeV es (fun x => x ∈ Rs) (nthI Rs k)) := HFR.out.1 hoj
                clear hoj
                rcases HBP.out with ⟨rfl, _⟩ | ⟨m, rfl, hm, _, _⟩
                · have HB2 : Hid (BestP es Rs (k + 1) (k : Nat)) := HBP.out.first HF.out
                  go_wp2_with fail
                  go_quiet (fail)
                  go_wp2
                  go_roundw
                  case rel => exact ⟨k + 1, by omega, by go_num, k, rfl, HB2, below_drewN hbj _⟩
                  case measure => simp [intOf]; omega
                · have hwm : IntKind.i64.wrap (m : Int) = (m : Int) := wrap_nat (by omega)
                  have hm0 : decide ((m : Int) < 0) = false := decide_eq_false (by omega)
                  have hmn : (m : Int) < (n6 : Int) := by omega
                  obtain ⟨b', off', e', hlb'', qm⟩ := hrow m (by rw [HN6.out]; omega)
                  cases e'
                  rw [Nat.zero_add] at qm
                  obtain ⟨y, hy⟩ : ∃ y, nthI Rs m = y := ⟨_, rfl⟩
                  have HY : Hid (nthI Rs m = y) := hy
                  rw [hy] at qm
                  clear hy
                  cases hxy : decide (x < y) with
                  | true =>
                    have HB2 : Hid (BestP es Rs (k + 1) (k : Nat)) := HBP.out.less HF.out (by rw [HX.out, HY.out]; exact of_decide_eq_true hxy)
                    go_wp2_with fail
                    go_quiet (fail)
                    go_wp2
                    go_roundw
                    case rel => exact ⟨k + 1, by omega, by go_num, k, rfl, HB2, below_drewN hbj _⟩
                    case measure => simp [intOf]; omega
                  | false =>
                    have HB2 : Hid (BestP es Rs (k + 1) (m : Nat)) := HBP.out.more (by rw [HX.out, HY.out]; exact of_decide_eq_false hxy)
                    go_wp2_with fail
                    go_quiet (fail)
                    go_wp2
                    go_roundw
                    case rel => exact ⟨k + 1, by omega, by go_num, m, rfl, HB2, below_drewN hbj _⟩
                    case measure => simp [intOf]; omega
        · skip
          obtain rfl : n6 = k := by omega
          rcases HBP.out with ⟨rfl, _⟩ | ⟨m, rfl, hm, _, _⟩
          · have HD : Hid (DoneV es ns L) := HIO.out.done (by rw [HN6.out]; exact HBP.out)
            have HLT : Hid (L.length < n) := by show _ < _; have := HIO.out.len; rw [HN6.out, HN.out] at this; omega
            have HBW : Hid (Below w.heap.size w wr) := below_step HB0.out (Nat.le_refl _) hbk
            have HOW : Hid (OwnI (wr.alloc (.cells #[] 3)) w.heap.size (.slice (some ⟨wr.heap.size, 0, none⟩) 0 0) []) := OwnI.made wr w.heap.size HBW.out.size
            go_wp2
            go_ret2
            exact ⟨_, L, _, rfl, HIO.out.run, HD.out, (decide_eq_false (fun h => h HLT.out)).symm, by rw [if_pos HLT.out]; exact HOW.out, HBW.out.alloc HBW.out.size _⟩
          · obtain ⟨hmn', HIO2⟩ := HIO.out.step (m := m) (by rw [HN6.out]; exact HBP.out)
            have HIN : Hid (IO es ns (Rs.take m ++ Rs.drop (m + 1)) (L ++ [nthI Rs m])) := HIO2
            have HBW : Hid (Below w.heap.size w wr) := below_step HB0.out (Nat.le_refl _) hbk
            have hwm : IntKind.i64.wrap (m : Int) = (m : Int) := wrap_nat (by omega)
            have hmnI : (m : Int) < (n6 : Int) := by omega
            have hrow := HR0.out.below hbk
            obtain ⟨b', off', e', hlb', qm⟩ := hrow m (by rw [HN6.out]; exact hm)
            cases e'
            rw [Nat.zero_add] at qm
            obtain ⟨y, hy⟩ : ∃ y, nthI Rs m = y := ⟨_, rfl⟩
            have HY : Hid (nthI Rs m = y) := hy
            rw [hy] at qm HIN
            clear hy HIO2
            have hLn : L.length ≤ 20 := by have := HIO.out.len; rw [HN6.out, HN.out] at this; omega
            have O7 : OwnI (wr.alloc (.cells #[.int .i64 y] 3)) w.heap.size u7 L := (HO.out.2.1.below hbk).alloc _
            obtain ⟨v7, w4, hrun, o7, gr7⟩ := app_I u7 L [y] (wr.alloc (.cells #[.int .i64 y] 3)) w.heap.size 1 O7 (by simp; omega) ⟨wr.heap.size, 0, none⟩ (fun j hj => by obtain rfl : j = 0 := (by simp at hj; omega); exact slab_cell (heap_new' _ _ _ rfl)) (by have := HBW.out.size; simp; omega)
            have hrun' : (Builtin.append_ #[25, 25] 25 #[u7, .slice (some ⟨wr.heap.size, 0, none⟩) 1 1]).run Try.prog (wr.alloc (.cells #[.int .i64 y] 3)) = .ok v7 w4 := hrun
            have B4 : Hid (Below w.heap.size w w4) := own_below (HBW.out.alloc HBW.out.size _) (by have := HBW.out.size; simp; omega) O7 gr7
            have hne6 : some g6 ≠ u7.ownBlock := fun e => HO.out.2.2 g6 rfl e.symm
            have hrow4 : Hid (RowI w4 (some ⟨g6, 0, none⟩) Rs) := fun i hi => by
              obtain ⟨b1, off1, e1, hl1, q1⟩ := hrow i hi
              cases e1
              refine ⟨g6, 0, rfl, Nat.lt_of_lt_of_le hl1 (Nat.le_trans (by simp) gr7.size), ?_⟩
              rw [← q1]
              exact cell_of_block ((gr7.block g6 (by simp; omega) hne6).trans (heap_old _ _ _ hl1))
            clear hrun O7 gr7 hrow
            have lt6 : g6 < w4.heap.size := by obtain ⟨b1, off1, e1, hl1, _⟩ := hrow4.out m (by rw [HN6.out]; exact hm); cases e1; exact hl1
            have O8 := OwnI.made w4.drew w4.heap.size (Nat.le_refl _)
            have cA : ∀ i, i < Rs.length → (w4.drew.alloc (.cells #[] 3)).cell? ⟨g6, i, none⟩ = some (.int .i64 (nthI Rs i)) := fun i hi => by
              obtain ⟨b1, off1, e1, hl1, q1⟩ := hrow4.out i hi
              cases e1
              rw [Nat.zero_add] at q1
              rw [← q1]
              exact cell_of_block (heap_old _ _ _ hl1)
            obtain ⟨v8, w6, hrunA, o8, gr8⟩ := app_I (.slice (some ⟨w4.heap.size, 0, none⟩) 0 0) [] (Rs.take m) (w4.drew.alloc (.cells #[] 3)) w4.heap.size cap6 O8 (by rw [List.length_take]; simp; omega) ⟨g6, 0, none⟩ (fun j hj => by
              rw [List.length_take] at hj
              rw [add_plain, Nat.zero_add, cA j (by omega), nthI_get (by omega : j < Rs.length), nthI_get (by rw [List.length_take]; exact hj), List.getElem_take]) (by simp)
            rw [List.nil_append] at o8
            have hlt1 : (Rs.take m).length = m := by rw [List.length_take, HN6.out]; omega
            have hlt2 : (Rs.drop (m + 1)).length = n6 - (m + 1) := by rw [List.length_drop, HN6.out]
            rw [hlt1] at hrunA
            obtain ⟨ad2, hAd, hcells⟩ : ∃ ad2 : Addr, (if cap6 = m + 1 then some (⟨g6, 0, none⟩ : Addr) else some ⟨g6, m + 1, none⟩) = some ad2 ∧ ∀ j, j < (Rs.drop (m + 1)).length → w6.cell? (ad2.add j) = some (.int .i64 (nthI (Rs.drop (m + 1)) j)) := by
              by_cases hce : cap6 = m + 1
              · exact ⟨⟨g6, 0, none⟩, if_pos hce, fun j hj => by rw [hlt2] at hj; omega⟩
              · refine ⟨⟨g6, m + 1, none⟩, if_neg hce, fun j hj => ?_⟩
                rw [hlt2] at hj
                have h1 : m + 1 + j < Rs.length := by rw [HN6.out]; omega
                rw [add_plain, nthI_get (by rw [hlt2]; exact hj), List.getElem_drop, ← nthI_get h1, ← cA _ h1]
                exact cell_of_block (gr8.block g6 (by simp; omega) (by simp [Value.ownBlock]; omega))
            obtain ⟨v9, w7, hrunB, o9, gr9⟩ := app_I v8 (Rs.take m) (Rs.drop (m + 1)) w6 w4.heap.size (cap6 - (m + 1)) o8 (by rw [hlt1, hlt2]; omega) ad2 hcells (by have := gr8.size; simp at this; omega)
            rw [hlt2] at hrunB
            have B6 : Below w4.heap.size w4 w6 := own_below ((Below.refl _ _).drew.alloc (Nat.le_refl _) _) (by simp) O8 gr8
            have B7 : Below w4.heap.size w4 w7 := own_below B6 B6.size o8 gr9
            have HFIN : Hid (IO es ns (Rs.take m ++ Rs.drop (m + 1)) (L ++ [y]) ∧ (OwnI w7 w.heap.size v9 (Rs.take m ++ Rs.drop (m + 1)) ∧ OwnI w7 w.heap.size v7 (L ++ [y]) ∧ ∀ j, v9.ownBlock = some j → v7.ownBlock ≠ some j) ∧ Below w.heap.size w w7 ∧ lenOfV v9 < n6) := ⟨HIN.out, ⟨own_mono o9 B4.out.size, o7.below B7, fun j hj e => by have h1 := (own_lt o9 hj).1; have h2 := (own_lt o7 e).2; omega⟩, below_step B4.out (Nat.le_refl _) B7, by obtain ⟨a9, c9, e9⟩ := own_shp o9; rw [e9]; show (Rs.take m ++ Rs.drop (m + 1)).length < n6; rw [List.length_append, hlt1, hlt2]; omega⟩
            have hmc : (m : Int) ≤ (cap6 : Int) := by omega
            have hcap : ¬ cap6 = 0 := by omega
            have hwm1 : IntKind.i64.wrap ((m : Int) + 1) = (m : Int) + 1 := by have := wrap_nat (j := m + 1) (by omega); simpa using this
            have hm10 : (0 : Int) ≤ (m : Int) + 1 := by omega
            have hm1n : (m : Int) + 1 ≤ (n6 : Int) := by omega
            have hm1c : (m : Int) + 1 ≤ (cap6 : Int) := by omega
            clear hcells B6 B7 o9 gr9 o8 gr8 O8 cA hlt1 hlt2 o7 B4 HIN
            go_wp2_with (at_builtin; refine Lib.wpList_append_run _ rfl _ _ _ _ rfl _ _ rfl rfl _ _ hrun' ?_)
            go_region_law (first | (refine step_append_run (by rfl) _ _ _ _ (by rfl) _ _ (by rfl) (by rfl) _ _ hrunA ?_) | (refine step_append_run (by rfl) _ _ _ _ (by rfl) _ _ (by rfl) (by rfl) _ _ hrunB ?_))
            all_goals
              simp only [List.getElem_toArray, List.getElem_cons_succ, List.getElem_cons_zero, Act.put, List.setIfInBounds_toArray, List.set_cons_zero, List.set_cons_succ]
              go_wp2
              go_roundw
              case rel => exact ⟨_, _, HFIN.out.1, HFIN.out.2.1, HFIN.out.2.2.1⟩
              case measure => exact HFIN.out.2.2.2


end Go.Proofs.Ytlcgmifibekegaa
