/- impl's product (stage 13). -/
import Derived.Test.YtmcjgncpblbhpaaPrF
namespace Go.Proofs.Ytmcjgncpblbhpaa
open Go.RowKit

theorem size_zeros (k : Nat) : (Builtin.zeroCells (Value.agg #[.int .i64 0, .int .i64 0, .string ⟨#[]⟩]).cells k).size = k * 3 := by
  rw [size_zeroCells]
  rfl
set_option maxRecDepth 100000 in
set_option maxHeartbeats 2000000 in
theorem grow_any (n : Nat) (w : World) (hn : n ≤ 4096) :
    Calls Try.prog 98 #[.slice none 0 0, .int .i64 n] w fun e w' => ∃ v, e = .returned v ∧ OwnV w' w.heap.size v [] ∧ Below w.heap.size w w' := by
  by_cases h0 : n = 0
  · subst h0
    go_enter Try.func98, Try.ntmps98
    go_wp2
    go_ret
    exact ⟨_, rfl, OwnV.nil _ _, Below.refl _ _⟩
  · obtain ⟨i0, hi, hz0, hz1, hz2⟩ := info_parts infoV
    have hrun := Lib.run_append_nil_zeros (P := Try.prog) w 28 3 28 39 i0 _ .i64 .i64 Try.underlying28 Try.underlying3 hi hz0 n (by omega) (by rw [hz1]; omega) (by omega) (by rw [hz2]; omega)
    have hge := grownCap_ge w n 0 39
    have hle := grownCap_le_maxLen w n 0 39 (by unfold maxLen; omega)
    have HO : Hid (OwnV (w.drew.alloc (.cells (Builtin.zeroCells (Value.agg #[.int .i64 0, .int .i64 0, .string ⟨#[]⟩]).cells n ++ Builtin.zeroCells (Value.agg #[.int .i64 0, .int .i64 0, .string ⟨#[]⟩]).cells (grownCap w n 0 39 - n)) 39)) w.heap.size (.slice (some ⟨w.heap.size, 0, none⟩) 0 (grownCap w n 0 39)) []) :=
      ⟨rfl, .inr ⟨w.heap.size, _, _, rfl, Nat.le_refl _, heap_alloc_new w.drew _, by simp, hle, by rw [Array.size_append, size_zeros, size_zeros]; rw [← Nat.add_mul]; congr 1; omega, by simp [cellsV]⟩⟩
    have HB : Hid (Below w.heap.size w (w.drew.alloc (.cells (Builtin.zeroCells (Value.agg #[.int .i64 0, .int .i64 0, .string ⟨#[]⟩]).cells n ++ Builtin.zeroCells (Value.agg #[.int .i64 0, .int .i64 0, .string ⟨#[]⟩]).cells (grownCap w n 0 39 - n)) 39))) := (Below.refl _ _).drew.alloc (Nat.le_refl _) _
    generalize w.drew.alloc (.cells (Builtin.zeroCells (Value.agg #[.int .i64 0, .int .i64 0, .string ⟨#[]⟩]).cells n ++ Builtin.zeroCells (Value.agg #[.int .i64 0, .int .i64 0, .string ⟨#[]⟩]).cells (grownCap w n 0 39 - n)) 39) = w1 at *
    generalize grownCap w n 0 39 = cp at *
    unfold maxLen at hle
    clear hi hz0 hz1 hz2
    have hn0 : ¬ (n : Int) < 0 := by omega
    have hnp : (0 : Int) < (n : Int) := by omega
    go_enter Try.func98, Try.ntmps98
    go_wp2_with (at_builtin; refine Lib.wpList_append_run _ rfl _ _ _ _ rfl _ _ rfl rfl _ _ hrun ?_)
    go_ret
    exact ⟨_, rfl, HO.out, HB.out⟩
set_option maxRecDepth 100000 in
set_option maxHeartbeats 4000000 in
theorem concat_any (s p1 q1 d1 p2 q2 d2 : Nat) (xs ys : List V3) (w : World) (c0 : w.cell? ⟨s, 0, none⟩ = some (.slice (some ⟨p1, q1, none⟩) xs.length d1)) (c1 : w.cell? ⟨s, 1, none⟩ = some (.slice (some ⟨p2, q2, none⟩) ys.length d2)) (hs : s < w.heap.size)
    (h1 : RowV w (some ⟨p1, q1, none⟩) xs) (h2 : RowV w (some ⟨p2, q2, none⟩) ys) (l1 : xs.length ≤ 2048) (l2 : ys.length ≤ 2048) :
    Calls Try.prog 71 #[.slice (some ⟨s, 0, none⟩) 2 2] w fun e w' => ∃ u, e = .returned u ∧ OwnV w' w.heap.size u (xs ++ ys) ∧ Below w.heap.size w w' := by
  have HR : Hid (RowV w (some ⟨p1, q1, none⟩) xs ∧ RowV w (some ⟨p2, q2, none⟩) ys) := ⟨h1, h2⟩
  have HL : Hid (xs.length ≤ 2048 ∧ ys.length ≤ 2048) := ⟨l1, l2⟩
  have HA1 : Hid (∀ v W B, OwnV W B v [] → B ≤ W.heap.size → RowV W (some ⟨p1, q1, none⟩) xs → ∃ v' w', (Builtin.append_ #[28, 28] 28 #[v, .slice (some ⟨p1, q1, none⟩) xs.length d1]).run Try.prog W = .ok v' w' ∧ OwnV w' B v' xs ∧ W.grownBy w' v.ownBlock) := fun v W B ho hB hr => by
    obtain ⟨v', w', r, o, g⟩ := app_V v [] xs W B p1 q1 d1 ho (by simp; omega) hr hB
    exact ⟨v', w', r, o, g⟩
  have HA2 : Hid (∀ v W B, OwnV W B v xs → B ≤ W.heap.size → RowV W (some ⟨p2, q2, none⟩) ys → ∃ v' w', (Builtin.append_ #[28, 28] 28 #[v, .slice (some ⟨p2, q2, none⟩) ys.length d2]).run Try.prog W = .ok v' w' ∧ OwnV w' B v' (xs ++ ys) ∧ W.grownBy w' v.ownBlock) := fun v W B ho hB hr => app_V v xs ys W B p2 q2 d2 ho (by omega) hr hB
  have HC : Hid (w.cell? ⟨s, 0, none⟩ = some (.slice (some ⟨p1, q1, none⟩) xs.length d1) ∧ w.cell? ⟨s, 1, none⟩ = some (.slice (some ⟨p2, q2, none⟩) ys.length d2)) := ⟨c0, c1⟩
  clear h1 h2
  generalize xs.length = n1 at *
  generalize ys.length = n2 at *
  go_enter Try.func71, Try.ntmps71
  go_wp2
  go_loop [3, 11] (fun sz i => ∃ k : Nat, k ≤ 2 ∧ i = .int .i64 k ∧ sz = .int .i64 (if k = 0 then 0 else if k = 1 then (n1 : Int) else (n1 : Int) + n2)) (fun _ i => 2 - (intOf i).toNat)
  case atStart => exact ⟨0, by omega, rfl, rfl⟩
  case round =>
    obtain ⟨k, hk, rfl, rfl⟩ := hrel
    obtain rfl | rfl | rfl : k = 0 ∨ k = 1 ∨ k = 2 := by omega
    · have hng : ¬ (n1 : Int) < 0 := by omega
      go_wp2
      go_round
      case rel => exact ⟨1, by omega, by go_num, by simp⟩
      case measure => simp [intOf]
    · have hng : ¬ (n1 : Int) + (n2 : Int) < 0 := by omega
      go_wp2
      go_round
      case rel => exact ⟨2, by omega, by go_num, by simp⟩
      case measure => simp [intOf]
    · have G := grow_any (n1 + n2) w (by omega)
      rw [show ((n1 + n2 : Nat) : Int) = (n1 : Int) + (n2 : Int) by push_cast; rfl] at G
      go_wp2_with fail
      refine G.mono ?_
      rintro e w1 ⟨v0, rfl, O0, B0⟩
      have HO0 : Hid (OwnV w1 w.heap.size v0 []) := O0
      clear G O0 c0 c1
      go_wp2
      go_loopw [6, 27] (fun v i wr => ∃ k : Nat, k ≤ 2 ∧ i = .int .i64 k ∧ Hid (OwnV wr w.heap.size v (if k = 0 then [] else if k = 1 then xs else xs ++ ys)) ∧ Below w.heap.size w wr) (fun _ i _ => 2 - (intOf i).toNat)
      case atStart => exact ⟨0, by omega, rfl, HO0, B0⟩
      case round =>
        clear HO0 B0
        obtain ⟨k, hk, rfl, HO, hbl⟩ := hrel
        have c0 : wr.cell? ⟨s, 0, none⟩ = some (.slice (some ⟨p1, q1, none⟩) n1 d1) := (hbl.cell (p := ⟨s, 0, none⟩) hs).trans HC.out.1
        have c1 : wr.cell? ⟨s, 1, none⟩ = some (.slice (some ⟨p2, q2, none⟩) n2 d2) := (hbl.cell (p := ⟨s, 1, none⟩) hs).trans HC.out.2
        obtain rfl | rfl | rfl : k = 0 ∨ k = 1 ∨ k = 2 := by omega
        · obtain ⟨v', w', hr, o, g⟩ := HA1.out u6 wr w.heap.size HO.out hbl.size (HR.out.1.below hbl)
          have HO' : Hid (OwnV w' w.heap.size v' xs) := o
          have hB := own_grown hbl hbl.size HO.out g
          clear o g HO hbl
          go_wp2_with (at_builtin; refine Lib.wpList_append_run _ rfl _ _ _ _ rfl _ _ rfl rfl _ _ hr ?_)
          go_roundw
          case rel => exact ⟨1, by omega, by go_num, HO', hB⟩
          case measure => simp [intOf]
        · obtain ⟨v', w', hr, o, g⟩ := HA2.out u6 wr w.heap.size HO.out hbl.size (HR.out.2.below hbl)
          have HO' : Hid (OwnV w' w.heap.size v' (xs ++ ys)) := o
          have hB := own_grown hbl hbl.size HO.out g
          clear o g HO hbl
          go_wp2_with (at_builtin; refine Lib.wpList_append_run _ rfl _ _ _ _ rfl _ _ rfl rfl _ _ hr ?_)
          go_roundw
          case rel => exact ⟨2, by omega, by go_num, HO', hB⟩
          case measure => simp [intOf]
        · go_wp2
          go_ret
          exact ⟨_, rfl, HO.out, hbl⟩

set_option maxRecDepth 100000 in
set_option maxHeartbeats 8000000 in
theorem productOf_any (a b : Option Addr) (ca cb : Nat) (aa bb : Rs) (w : World) (ha : RowA w a aa) (hb : RowA w b bb) (hf : FitR aa bb) :
    Calls Try.prog 40 #[.slice a aa.length ca, .slice b bb.length cb] w fun e w' => ∃ v, e = .returned (.tuple #[v, .int .i64 0]) ∧ BldR w' w.heap.size w'.heap.size v (prodL aa bb) ∧ Below w.heap.size w w' := by
  have HA : Hid (RowA w a aa ∧ RowA w b bb) := ⟨ha, hb⟩
  have HF : Hid (FitR aa bb) := hf
  have hn0 := hf.1
  have hm0 := hf.2.1
  have hmul : ((aa.length : Int) * (bb.length : Int)) = ((aa.length * bb.length : Nat) : Int) := by push_cast; rfl
  have hbd := hf.2.2.1
  generalize aa.length * bb.length = nm at *
  obtain ⟨n, hn⟩ : ∃ n, aa.length = n := ⟨_, rfl⟩
  obtain ⟨m, hm⟩ : ∃ m, bb.length = m := ⟨_, rfl⟩
  have HN : Hid (aa.length = n ∧ bb.length = m) := ⟨hn, hm⟩
  rw [hn] at hn0 hmul ⊢
  rw [hm] at hm0 hmul ⊢
  clear ha hb hf hn hm
  have O0 : Hid (BldR w w.heap.size w.heap.size (.slice none 0 0) (prodK aa bb 0 0)) := by
    rw [prodK_zero]
    exact BldR.nil _ _ _
  have h4I : ¬ (400 : Int) < (nm : Int) := by omega
  go_enter Try.func40, Try.ntmps40
  go_wp2
  go_loopw [6, 19] (fun v i wr => ∃ k : Nat, k ≤ n ∧ i = .int .i64 k ∧ Hid (BldR wr w.heap.size wr.heap.size v (prodK aa bb k 0)) ∧ Below w.heap.size w wr) (fun _ i _ => n - (intOf i).toNat)
  case atStart => exact ⟨0, by omega, rfl, O0.out, Below.refl _ _⟩
  case round =>
    clear O0
    obtain ⟨k, hk, rfl, HO, hbl⟩ := hrel
    by_cases hlt : k < n
    · have hltI : (k : Int) < (n : Int) := by omega
      have hka : k < aa.length := by rw [HN.out.1]; exact hlt
      obtain ⟨b1, o1, p1, q1, d1, rfl, l1, c1w, r1, _⟩ := HA.out.1 k hka
      have c1 : wr.cell? ⟨b1, o1 + k, none⟩ = some (.slice (some ⟨p1, q1, none⟩) (nthR aa k).length d1) := (hbl.cell (p := ⟨b1, o1 + k, none⟩) l1).trans c1w
      have H1 : Hid (RowV w (some ⟨p1, q1, none⟩) (nthR aa k)) := r1
      have H8 : Hid ((nthR aa k).length ≤ 2048) := by have := HF.out.2.2.2.1 k hka; show _ ≤ _; omega
      clear c1w r1 l1
      obtain ⟨nx, hnx⟩ : ∃ nx, (nthR aa k).length = nx := ⟨_, rfl⟩
      have HX : Hid ((nthR aa k).length = nx) := hnx
      rw [hnx] at c1
      clear hnx
      go_wp2
      clear c1
      go_loopw [6, 25] (fun v j wr => ∃ q : Nat, q ≤ m ∧ j = .int .i64 q ∧ Hid (BldR wr w.heap.size wr.heap.size v (prodK aa bb k q)) ∧ Below w.heap.size w wr) (fun _ j _ => m - (intOf j).toNat)
      case atStart => exact ⟨0, by omega, rfl, HO, hbl⟩
      case round =>
        clear HO hbl
        obtain ⟨q, hq, rfl, HO, hbq⟩ := hrel
        by_cases hlq : q < m
        · have hlqI : (q : Int) < (m : Int) := by omega
          have hqb : q < bb.length := by rw [HN.out.2]; exact hlq
          obtain ⟨b2, o2, p2, q2, d2, rfl, l2, c2, r2, _⟩ := (HA.out.2.below hbq) q hqb
          have HP : Hid (∀ w1 u, Below wr.heap.size wr w1 → OwnV w1 wr.heap.size u (nthR aa k ++ nthR bb q) → ∃ v' w', (Builtin.append_ #[23, 23] 23 #[u6, .slice (some ⟨w1.heap.size, 0, none⟩) 1 1]).run Try.prog (w1.alloc (.cells #[u] 28)) = .ok v' w' ∧ BldR w' w.heap.size w'.heap.size v' (prodK aa bb k (q + 1)) ∧ Below w.heap.size w w') := fun w1 u h3 h4 => push_step (t := 28) HO.out hbq hqb (by have := prodK_few HF.out hka hqb; omega) h3 h4
          have Ba : Below wr.heap.size wr (wr.alloc (.cells #[.slice (some ⟨p1, q1, none⟩) nx d1, .slice (some ⟨p2, q2, none⟩) (nthR bb q).length d2] 28)) := (Below.refl _ _).alloc (Nat.le_refl _) _
          have hb8 : (nthR bb q).length ≤ 2048 := by have := HF.out.2.2.2.2 q hqb; omega
          have J := concat_any wr.heap.size p1 q1 d1 p2 q2 d2 (nthR aa k) (nthR bb q) (wr.alloc (.cells #[.slice (some ⟨p1, q1, none⟩) nx d1, .slice (some ⟨p2, q2, none⟩) (nthR bb q).length d2] 28)) (by rw [HX.out]; simp) (by simp) (by simp) ((H1.out.below hbq).below Ba) (r2.below Ba) H8.out hb8
          have HJ : Hid (∀ w' (u : Value), OwnV w' (wr.alloc (.cells #[.slice (some ⟨p1, q1, none⟩) nx d1, .slice (some ⟨p2, q2, none⟩) (nthR bb q).length d2] 28)).heap.size u (nthR aa k ++ nthR bb q) → OwnV w' wr.heap.size u (nthR aa k ++ nthR bb q)) := fun w' u h => OwnV.mono h (by simp)
          clear HO r2
          generalize nthR bb q = y at *
          generalize y.length = ny at *
          go_wp2_with fail
          refine J.mono ?_
          rintro e w1 ⟨u, rfl, hu, b1⟩
          obtain ⟨ua, un, uc, rfl⟩ := hu.shape
          obtain ⟨v', w', hrun, hO2, hB2⟩ := HP.out w1 _ (Ba.trans (b1.mono (by simp))) (HJ.out _ _ hu)
          have HO2 : Hid (BldR w' w.heap.size w'.heap.size v' (prodK aa bb k (q + 1))) := hO2
          clear J HP HJ hu b1 Ba hO2 c2
          go_wp2_with (at_builtin; refine Lib.wpList_append_run _ rfl _ _ _ _ rfl _ _ rfl rfl _ _ hrun ?_)
          go_roundw
          case rel => exact ⟨q + 1, by omega, by go_num, HO2, hB2⟩
          case measure => simp [intOf]; omega
        · have HO2 : Hid (BldR wr w.heap.size wr.heap.size u6 (prodK aa bb (k + 1) 0)) := by
            show BldR _ _ _ _ _
            rw [← prodK_next (by rw [HN.out.1]; exact hlt), HN.out.2]
            have : q = m := by omega
            rw [← this]
            exact HO.out
          clear HO
          go_wp2
          go_roundw
          case rel => exact ⟨k + 1, by omega, by go_num, HO2, hbq⟩
          case measure => simp [intOf]; omega
    · obtain rfl : k = n := by omega
      have HO2 : Hid (BldR wr w.heap.size wr.heap.size u6 (prodL aa bb)) := by
        show BldR _ _ _ _ _
        rw [← prodK_all, HN.out.1]
        exact HO.out
      clear HO
      go_wp2
      go_ret2
      exact ⟨_, rfl, HO2.out, hbl⟩
set_option maxRecDepth 100000 in
theorem productOf_many (a b : Option Addr) (ca cb n m nm : Nat) (w : World) (hmul : (n : Int) * (m : Int) = (nm : Int)) (hbd : nm ≤ 160000) (h4 : 400 < nm) :
    Calls Try.prog 40 #[.slice a n ca, .slice b m cb] w fun e w' => e = .returned (.tuple #[.slice none 0 0, .int .i64 6]) ∧ w' = w := by
  have h4I : (400 : Int) < (nm : Int) := by omega
  go_enter Try.func40, Try.ntmps40
  go_wp2
  go_ret2
  exact ⟨rfl, rfl⟩

set_option maxRecDepth 100000 in
set_option maxHeartbeats 8000000 in
theorem implProduct_any (a b : Option Addr) (ca cb : Nat) (aa bb : Rs) (w : World) (ha : RowA w a aa) (hb : RowA w b bb) (sa : SmallR aa) (sb : SmallR bb) :
    Calls Try.prog 11 #[.slice a aa.length ca, .slice b bb.length cb] w (RetP aa bb w) := by
  have la := sa.1
  have lb := sb.1
  by_cases h1 : 4096 < aa.length ∨ 4096 < bb.length
  · have HC : Hid (prC aa bb = 2) := if_pos h1
    clear ha hb sa sb
    generalize aa.length = n at *
    generalize bb.length = m at *
    by_cases h2 : 4096 < n
    · have h2I : (4096 : Int) < (n : Int) := by omega
      go_enter Try.func11, Try.ntmps11
      go_wp2
      go_ret2
      exact RetP.bad HC.out (by omega) (BldR.nil _ _ 0) (Below.refl _ _)
    · have h2I : ¬ (4096 : Int) < (n : Int) := by omega
      have h3I : (4096 : Int) < (m : Int) := by omega
      go_enter Try.func11, Try.ntmps11
      go_wp2
      go_ret2
      exact RetP.bad HC.out (by omega) (BldR.nil _ _ 0) (Below.refl _ _)
  have A1 := rowsOK_any 8 aa a ca w ha.row sa
  have A2 := fun W (hW : Below w.heap.size w W) => rowsOK_any 8 bb b cb W (hb.row.below hW) sb
  have HC0 : Hid (prC aa bb = if okRs 8 aa = true ∧ okRs 8 bb = true then (if 400 < aa.length * bb.length then 6 else 0) else 1) := if_neg h1
  have PF : Hid (okRs 8 aa = true → okRs 8 bb = true → ¬ 400 < aa.length * bb.length → ∀ W, Below w.heap.size w W → Calls Try.prog 40 #[.slice a aa.length ca, .slice b bb.length cb] W fun e w' => ∃ v, e = .returned (.tuple #[v, .int .i64 0]) ∧ BldR w' W.heap.size w'.heap.size v (prodL aa bb) ∧ Below W.heap.size W w') := fun p1 p2 p3 W hW => productOf_any a b ca cb aa bb W (ha.below hW) (hb.below hW) (fit_of p1 p2 p3)
  have hn : ¬ (4096 : Int) < (aa.length : Int) := by omega
  have hm : ¬ (4096 : Int) < (bb.length : Int) := by omega
  clear ha hb sa sb h1
  cases o1 : okRs 8 aa with
  | false =>
    have HC : Hid (prC aa bb = 1) := by show _ = _; rw [HC0.out, o1]; simp
    rw [o1] at A1
    clear A2 HC0 PF o1
    generalize aa.length = n at *
    generalize bb.length = m at *
    go_enter Try.func11, Try.ntmps11
    go_wp2_with (go_at_call 39; refine A1.mono ?_; rintro e w1 ⟨rfl, b1⟩)
    go_ret2
    exact RetP.bad HC.out (by omega) (BldR.nil _ _ 0) b1
  | true =>
    rw [o1] at A1 PF
    cases o2 : okRs 8 bb with
    | false =>
      have HC : Hid (prC aa bb = 1) := by show _ = _; rw [HC0.out, o2]; simp
      rw [o2] at A2
      clear HC0 PF o1 o2
      generalize aa.length = n at *
      generalize bb.length = m at *
      go_enter Try.func11, Try.ntmps11
      go_wp2_with (first | (go_at_call 39; refine A1.mono ?_; rintro e w1 ⟨rfl, b1⟩; clear A1) | (go_at_call 39; refine (A2 _ b1).mono ?_; rintro e w2 ⟨rfl, b2⟩))
      go_ret2
      exact RetP.bad HC.out (by omega) (BldR.nil _ _ 0) (below_step b1 (Nat.le_refl _) b2)
    | true =>
      rw [o2] at A2 PF
      have l1 := (okRs_small o1).1
      have l2 := (okRs_small o2).1
      have hmul : ((aa.length : Int) * (bb.length : Int)) = ((aa.length * bb.length : Nat) : Int) := by push_cast; rfl
      have hbd : aa.length * bb.length ≤ 400 * 400 := Nat.mul_le_mul l1 l2
      by_cases h4 : 400 < aa.length * bb.length
      · have HC : Hid (prC aa bb = 6) := by show _ = _; rw [HC0.out, o1, o2, if_pos ⟨rfl, rfl⟩, if_pos h4]
        have PM := fun W => productOf_many a b ca cb aa.length bb.length (aa.length * bb.length) W hmul (by omega) h4
        clear HC0 PF o1 o2
        generalize aa.length * bb.length = nm at *
        generalize aa.length = n at *
        generalize bb.length = m at *
        go_enter Try.func11, Try.ntmps11
        go_wp2_with (first | (go_at_call 39; refine A1.mono ?_; rintro e w1 ⟨rfl, b1⟩; clear A1) | (go_at_call 39; refine (A2 _ b1).mono ?_; rintro e w2 ⟨rfl, b2⟩; clear A2) | (go_at_call 40; refine (PM _).mono ?_; rintro e w3 ⟨rfl, hq⟩; obtain rfl := hq.symm; clear PM))
        go_ret2
        exact RetP.bad HC.out (by omega) (BldR.nil _ _ 0) (below_step b1 (Nat.le_refl _) b2)
      · have HC : Hid (prC aa bb = 0) := by show _ = _; rw [HC0.out, o1, o2, if_pos ⟨rfl, rfl⟩, if_neg h4]
        have PP := PF.out rfl rfl h4
        clear HC0 PF o1 o2
        generalize aa.length * bb.length = nm at *
        generalize aa.length = n at *
        generalize bb.length = m at *
        go_enter Try.func11, Try.ntmps11
        go_wp2_with (first | (go_at_call 39; refine A1.mono ?_; rintro e w1 ⟨rfl, b1⟩; clear A1) | (go_at_call 39; refine (A2 _ b1).mono ?_; rintro e w2 ⟨rfl, b2⟩; clear A2; have B2 := below_step b1 (Nat.le_refl _) b2) | (go_at_call 40; refine (PP _ B2).mono ?_; rintro e w3 ⟨v, rfl, O3, b3⟩; clear PP))
        go_ret2
        exact RetP.good HC.out (O3.base B2.size) (below_step B2 (Nat.le_refl _) b3)
end Go.Proofs.Ytmcjgncpblbhpaa
