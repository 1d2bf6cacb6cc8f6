/- The law on acyclic orders, walked (stage 8). -/
import Derived.Test.YtlcgmifibekegaaSsB
import Derived.Test.YtlcgmifibekegaaAcA
namespace Go.Proofs.Ytlcgmifibekegaa
open Go.RowKit

/-- What stands while an edge of a found order is looked at. -/
abbrev StH (W : World) (b off j : Nat) (fr to : Int) (a3 : Option Addr) (ns : List Int) (a8 : Option Addr) (L : List Int) (w' : World) : Prop := w'.cell? ⟨b, off + j * 2, none⟩ = some (.int .i64 fr) ∧ w'.cell? ⟨b, off + j * 2 + 1, none⟩ = some (.int .i64 to) ∧ b < w'.heap.size ∧ RowI w' a3 ns ∧ RowI w' a8 L ∧ Below W.heap.size W w'
theorem so_twice {ns : List Int} {es : List P2} (h6 : ns.length ≤ 6) (h7 : es.length ≤ 7) (h : ¬ ns.Nodup) : soC ns es = 9 := by
  unfold soC
  rw [if_neg (by omega), if_neg (by omega), ← asB_true h]
  rfl
theorem least_of {P : Int → Prop} : ∀ l : List Int, (∃ x, x ∈ l ∧ P x) → ∃ x, x ∈ l ∧ P x ∧ ∀ y, y ∈ l → P y → x ≤ y
  | [], h => by obtain ⟨x, hx, _⟩ := h; cases hx
  | z :: t, h => by
    by_cases ht : ∃ x, x ∈ t ∧ P x
    · obtain ⟨x, h1, h2, h3⟩ := least_of t ht
      by_cases hz : P z ∧ z < x
      · exact ⟨z, List.mem_cons_self .., hz.1, fun y hy hp => by
          rcases List.mem_cons.1 hy with e | e
          · omega
          · have := h3 y e hp; omega⟩
      · exact ⟨x, List.mem_cons_of_mem _ h1, h2, fun y hy hp => by
          rcases List.mem_cons.1 hy with e | e
          · subst e
            exact Classical.byContradiction (fun q => hz ⟨hp, by omega⟩)
          · exact h3 y e hp⟩
    · obtain ⟨x, hx, hp⟩ := h
      rcases List.mem_cons.1 hx with e | e
      · subst e
        exact ⟨x, List.mem_cons_self .., hp, fun y hy hq => by
          rcases List.mem_cons.1 hy with e | e
          · omega
          · exact absurd ⟨y, e, hq⟩ ht⟩
      · exact absurd ⟨x, e, hp⟩ ht
theorem run_ends {es : List P2} {ns : List Int} : ∀ d L, RunV es ns L → ns.length - L.length ≤ d → ∃ M, RunV es ns M ∧ DoneV es ns M
  | d, L, h, hd => by
    by_cases hf : ∃ x, x ∈ ns ∧ FreeV es (LeftV ns L) x
    · obtain ⟨x, _, h2, h3⟩ := least_of ns hf
      have h4 : RunV es ns (L ++ [x]) := .snoc h h2 (fun y hy => h3 y hy.1.1 hy)
      have h5 := h4.len
      rw [List.length_append] at h5
      simp only [List.length_cons, List.length_nil] at h5
      cases d with
      | zero => omega
      | succ d => exact run_ends d (L ++ [x]) h4 (by rw [List.length_append]; simp only [List.length_cons, List.length_nil]; omega)
    · exact ⟨L, h, fun y hy => hf ⟨y, hy.1.1, hy⟩⟩
theorem so_runs {ns : List Int} {es : List P2} (h6 : ns.length ≤ 6) (h7 : es.length ≤ 7) (nd : ns.Nodup) : ∃ L, RunV es ns L ∧ DoneV es ns L ∧ soC ns es = (if L.length < ns.length then 15 else 0) ∧ soL ns es = if L.length < ns.length then [] else L := by
  obtain ⟨L, r, d⟩ := run_ends (es := es) (ns := ns) ns.length [] .nil (by simp)
  obtain ⟨e1, e2⟩ := so_end (by omega) (by omega) nd r d
  exact ⟨L, r, d, e1, e2⟩

set_option maxRecDepth 100000 in
set_option maxHeartbeats 16000000 in
theorem lawAcyclic (a : Option Addr) (cap : Nat) (l : List UInt8) (w : World) (h : ReadL w a l) (hl : l.length ≤ maxLen) :
    Calls Try.prog 4 #[.slice a l.length cap] w fun r w' => r = .returned (.bool true) ∧ Below w.heap.size w w' := by
  unfold maxLen at hl
  by_cases h20 : (1048576 : Int) < (l.length : Int)
  · clear h
    generalize l.length = len at *
    go_enter Try.func4, Try.ntmps4
    go_wp2
    go_ret
    exact ⟨rfl, Below.refl _ _⟩
  have hg := graph_any (cap := cap) h (by omega)
  clear h
  generalize l.length = len at *
  go_enter Try.func4, Try.ntmps4
  go_wp2_with fail
  refine hg.mono ?_
  rintro e W1 ⟨v3, v4, ns, es, rfl, o3, o4, l3, l4, B1⟩
  clear hg
  obtain ⟨a3, c3, e3, r3, _⟩ := o3.row
  obtain ⟨a4, c4, e4, r4⟩ := o4.row
  have hnc : ns.length ≤ c3 := by
    rcases o3.2 with ⟨q, q2⟩ | ⟨g, cc, cur, q, _, _, q3, _⟩
    · omega
    · rw [q] at e3; cases e3; exact q3
  have HI : Hid (RowI W1 a3 ns) := r3
  have HP : Hid (RowP W1 a4 es) := r4
  have HSO : Hid ((¬ ns.Nodup → soC ns es = 9) ∧ (ns.Nodup → ∃ L, RunV es ns L ∧ DoneV es ns L ∧ soC ns es = (if L.length < ns.length then 15 else 0) ∧ soL ns es = if L.length < ns.length then [] else L)) := ⟨so_twice l3 l4, so_runs l3 l4⟩
  have HIMP : Hid (∀ W, Below W1.heap.size W1 W → Calls Try.prog 17 #[.slice a3 ns.length c3, .slice a4 es.length c4] W (RetI W (soL ns es) (soC ns es))) := fun W hW => implSerialOrder_any a3 a4 c3 c4 ns es W (r3.below hW) (r4.below hW) (by omega) (by omega)
  have HSPC : Hid (∀ W, Below W1.heap.size W1 W → Calls Try.prog 18 #[.slice a3 ns.length c3, .slice a4 es.length c4] W (RetI W (soL ns es) (soC ns es))) := fun W hW => specSerialOrder_any a3 a4 c3 c4 ns es W (r3.below hW) (r4.below hW) (by omega) (by omega) hnc
  subst e3
  subst e4
  obtain ⟨n, hn⟩ : ∃ m, ns.length = m := ⟨_, rfl⟩
  have HN : Hid (ns.length = n) := hn
  obtain ⟨ne, hne⟩ : ∃ m, es.length = m := ⟨_, rfl⟩
  have HNE : Hid (es.length = ne) := hne
  rw [hn] at HIMP HSPC HSO l3 hnc ⊢
  rw [hne] at HIMP HSPC l4 ⊢
  clear o3 o4 r3 r4 hn hne
  go_wp2
  go_loopw [5] (fun i wr => ∃ k : Nat, k ≤ n ∧ i = .int .i64 k ∧ Hid ((ns.take k).Nodup) ∧ Below W1.heap.size W1 wr) (fun i _ => n - (intOf i).toNat)
  case atStart => exact ⟨0, by omega, rfl, by rw [List.take_zero]; exact List.nodup_nil, Below.refl _ _⟩
  case round =>
    obtain ⟨k, hk, rfl, HND, hbl⟩ := hrel
    by_cases hlt : k < n
    · have hltI : (k : Int) < (n : Int) := by omega
      have hrow := HI.out.below hbl
      have hrow2 := hrow.take k
      obtain ⟨b, off, rfl, hlb, q0⟩ := hrow k (by rw [HN.out]; exact hlt)
      have HYES := nodup_snoc (L := ns) (k := k) (by rw [HN.out]; exact hlt) HND.out
      have HNOT := not_nodup (L := ns) (k := k) (by rw [HN.out]; exact hlt)
      obtain ⟨t, ht⟩ : ∃ t, nthI ns k = t := ⟨_, rfl⟩
      rw [ht] at q0 HYES HNOT
      have hlk : (ns.take k).length = k := by rw [List.length_take, HN.out]; omega
      have hcall : ∀ W : World, RowI W (some ⟨b, off, none⟩) (ns.take k) → Calls Try.prog 27 #[.slice (some ⟨b, off, none⟩) k c3, .int .i64 t] W fun r w' => r = .returned (.bool ((ns.take k).any (fun x => x == t))) ∧ w' = W := fun W hW => by
        have := hasInt_any (some ⟨b, off, none⟩) c3 (ns.take k) t W hW (by omega)
        rw [hlk] at this
        exact this
      generalize hany : (ns.take k).any (fun x => x == t) = an at *
      have HCL : Hid (∀ W, StE wr b off k t (ns.take k) W → Calls Try.prog 27 #[.slice (some ⟨b, off, none⟩) k c3, .int .i64 t] W fun r w' => r = .returned (.bool an) ∧ w' = W) := fun W hW => hcall W hW.2.2.1
      have hC' : Hid (StE wr b off k t (ns.take k) wr.drew) := ⟨q0, hlb, hrow2, (Below.refl _ _).drew⟩
      have hwk : IntKind.i64.wrap (k : Int) = (k : Int) := wrap_nat (by omega)
      have hcap : ¬ c3 = 0 := by omega
      have hkc : (k : Int) ≤ (c3 : Int) := by omega
      have HYES' : Hid (an = false → (ns.take (k + 1)).Nodup) := HYES
      have HNOT' : Hid (an = true → ¬ ns.Nodup) := HNOT
      clear ht hany hcall hrow hrow2 HYES HNOT hlk
      cases an with
      | true =>
        have HC9 : Hid (soC ns es = 9) := HSO.out.1 (HNOT'.out rfl)
        go_wp2_with fail
        refine wp_region_class (C := StE wr b off k t (ns.take k)) (by kernel_rfl) (by kernel_rfl) hC'.out ?_
        repeat (first | go_big_quiet_skip | (go_big_quiet_want; apply Exists.intro; refine ⟨?_, ?_⟩; (focus (intro w' hw'; first | (obtain ⟨m0, m1, m2, m3⟩ := hw'; go_simp; with_reducible rfl) | (go_simp; refine (HCL.out w' hw').mono ?_; rintro e w'' ⟨rfl, rfl⟩; exact ⟨rfl, hw'⟩))); (try simp only [Act.put, List.setIfInBounds_toArray, List.set_cons_zero, List.set_cons_succ]); go_big_quiet_on))
        refine wpQuiet_nil ?_
        intro w2 hw2
        have hB2 : Below wr.heap.size wr w2 := hw2.2.2.2
        clear hw2
        have B3 := below_step hbl (Nat.le_refl _) hB2
        have HQ := HIMP.out w2 B3
        clear hB2 hC' HCL
        go_wp2_with fail
        refine HQ.mono ?_
        rw [HC9.out]
        rintro e w4 ⟨v, rfl, o4, b4⟩
        have B4 := below_step B3 (Nat.le_refl _) b4
        clear HQ o4 b4
        go_wp2
        go_ret
        exact ⟨rfl, below_step B1 (Nat.le_refl _) B4⟩
      | false =>
        have HND2 : Hid ((ns.take (k + 1)).Nodup) := HYES'.out rfl
        go_wp2_with fail
        refine wp_region_class (C := StE wr b off k t (ns.take k)) (by kernel_rfl) (by kernel_rfl) hC'.out ?_
        repeat (first | go_big_quiet_skip | (go_big_quiet_want; apply Exists.intro; refine ⟨?_, ?_⟩; (focus (intro w' hw'; first | (obtain ⟨m0, m1, m2, m3⟩ := hw'; go_simp; with_reducible rfl) | (go_simp; refine (HCL.out w' hw').mono ?_; rintro e w'' ⟨rfl, rfl⟩; exact ⟨rfl, hw'⟩))); (try simp only [Act.put, List.setIfInBounds_toArray, List.set_cons_zero, List.set_cons_succ]); go_big_quiet_on))
        refine wpQuiet_nil ?_
        intro w2 hw2
        have hB2 : Below wr.heap.size wr w2 := hw2.2.2.2
        clear hw2
        have B3 := below_step hbl (Nat.le_refl _) hB2
        clear hB2 hC' HCL
        go_wp2
        go_roundw
        case rel => exact ⟨k + 1, by omega, by go_num, HND2, B3⟩
        case measure => simp [intOf]; omega
    · obtain rfl : n = k := by omega
      have hnd : ns.Nodup := by have := HND.out; rw [← HN.out, List.take_length] at this; exact this
      have HND3 : Hid ns.Nodup := hnd
      clear hnd HND
      skip
      have HQ1 := HIMP.out wr hbl
      go_wp2_with fail
      refine HQ1.mono ?_
      rintro e w3 ⟨v8, rfl, o8, b3⟩
      have B3 := below_step hbl (Nat.le_refl _) b3
      clear HQ1
      have HQ2 := HSPC.out w3 B3
      go_wp2_with fail
      refine HQ2.mono ?_
      rintro e w4 ⟨v10, rfl, o10, b4⟩
      have B4 := below_step B3 (Nat.le_refl _) b4
      have HO4 : Hid (OwnI w4 wr.heap.size v8 (soL ns es) ∧ OwnI w4 w3.heap.size v10 (soL ns es)) := ⟨o8.below b4, o10⟩
      clear HQ2 o8 o10 b3 b4 hbl
      have HLL : Hid ((soL ns es).length ≤ 1048576) := Nat.le_trans (soL_len ns es) (by decide)
      have HQ3 := sameI_own HO4.out.1 HO4.out.2 HLL.out
      obtain ⟨cc, hcc⟩ : ∃ c, soC ns es = c := ⟨_, rfl⟩
      have HCC : Hid (soC ns es = cc) := hcc
      rw [hcc]
      clear hcc
      go_wp2_with fail
      refine HQ3.mono ?_
      rintro e w5 ⟨rfl, b5⟩
      have B5 := below_step B4 (Nat.le_refl _) b5
      have HO5 : Hid (OwnI w5 wr.heap.size v8 (soL ns es)) := HO4.out.1.below b5
      clear HQ3 HO4 b5 B3 B4
      obtain ⟨L, r1, r2, F1, F2⟩ := HSO.out.2 HND3.out
      by_cases hM : L.length < n
      · rw [if_pos hM, HCC.out] at F1
        subst F1
        have HD : Hid (DoneV es ns L) := r2
        have HLT : Hid (L.length < n) := hM
        clear F2 r1 r2 hM HO5
        skip
        have O1 := OwnI.made w5 w5.heap.size (Nat.le_refl _)
        have b1 : Below w5.heap.size w5 (w5.alloc (.cells #[] 3)) := (Below.refl _ _).alloc (Nat.le_refl _) _
        obtain ⟨v13, w6, hrun, o6, gr⟩ := app_O (.slice (some ⟨w5.heap.size, 0, none⟩) 0 0) [] ns (w5.alloc (.cells #[] 3)) w5.heap.size c3 O1 (by rw [HN.out]; simp; omega) a3 ((HI.out.below B5).below b1) (by simp)
        rw [List.nil_append] at o6
        rw [HN.out] at hrun
        have BW6 : Below w5.heap.size w5 w6 := own_below b1 (by simp) O1 gr
        have HS0 : Hid (OwnI w6 w5.heap.size v13 ns) := o6
        have HI0 : Hid (∀ x, LeftV ns L x → x ∈ ns) := fun x hx => hx.1
        have HL0 : Hid (ns.length ≤ 6) := (by rw [HN.out]; exact l3 : ns.length ≤ 6)
        clear O1 b1 o6 gr
        go_wp2_with (at_builtin; refine Lib.wpList_append_run _ rfl _ _ _ _ rfl _ _ rfl rfl _ _ hrun ?_)
        clear hrun
        go_loopw [13, 14] (fun v i wr => ∃ (Rs : List Int) (q : Nat), i = .int .i64 q ∧ q ≤ n ∧ Hid (∀ x, LeftV ns L x → x ∈ Rs) ∧ Hid (OwnI wr w5.heap.size v Rs) ∧ Hid (Rs.length ≤ 6) ∧ Below w5.heap.size w5 wr) (fun _ i _ => n - (intOf i).toNat)
        case atStart => exact ⟨ns, 0, rfl, by omega, HI0, HS0, HL0, BW6⟩
        case round =>
          clear HS0 HI0 HL0 BW6
          obtain ⟨Rs0, q, rfl, hq, HIN0, HO0, HLE0, hb0⟩ := hrel
          by_cases hqn : q < n
          · have hqnI : (q : Int) < (n : Int) := by omega
            go_wp2
            go_loopw [13, 15] (fun v i wr => ∃ (Rs : List Int) (k : Nat), i = .int .i64 k ∧ Hid (∀ x, LeftV ns L x → x ∈ Rs) ∧ Hid (OwnI wr w5.heap.size v Rs) ∧ Hid (Rs.length ≤ 6) ∧ Below w5.heap.size w5 wr) (fun v i _ => lenOfV v - (intOf i).toNat)
            case atStart => exact ⟨Rs0, 0, rfl, HIN0, HO0, HLE0, hb0⟩
            case round =>
              clear HIN0 HO0 HLE0 hb0
              obtain ⟨Rs, k, rfl, HIN, HO, HLE, hb0⟩ := hrel
              obtain ⟨n6, hn6⟩ : ∃ m, Rs.length = m := ⟨_, rfl⟩
              have HN6 : Hid (Rs.length = n6) := hn6
              have h6 : wr.ownsRow w5.heap.size 3 1 u13 n6 (Rs.map (Value.int .i64)) := by rw [← hn6]; exact HO.out
              have hle6 : n6 ≤ 6 := by rw [← hn6]; exact HLE.out
              clear hn6
              by_cases hlt : k < n6
              · rcases h6.2 with ⟨_, q⟩ | ⟨g6, cap6, cur, rfl, hb6, hcur, hnc6, hcm, _, _⟩
                · omega
                have hltI : (k : Int) < (n6 : Int) := by omega
                have HR0 : Hid (RowI wr (some ⟨g6, 0, none⟩) Rs) := by
                  obtain ⟨a1, c1, e1, r1, _⟩ := HO.out.row
                  cases e1
                  exact r1
                have HB0 : Hid (Below w5.heap.size w5 wr) := hb0
                obtain ⟨x, hx⟩ : ∃ x, nthI Rs k = x := ⟨_, rfl⟩
                have HX : Hid (nthI Rs k = x) := hx
                clear hx h6 hcur hb0
                rename World => W0
                go_wp2
                go_loopw [16, 17] (fun o i wr => ∃ j : Nat, j ≤ ne ∧ o = .bool (okJ es Rs x j) ∧ i = .int .i64 j ∧ Below W0.heap.size W0 wr) (fun _ i _ => ne - (intOf i).toNat)
                case atStart => exact ⟨0, by omega, by rw [okJ_zero], rfl, Below.refl _ _⟩
                case round =>
                  obtain ⟨j, hj, rfl, rfl, hbj⟩ := hrel
                  by_cases hltj : j < ne
                  · skip
                    have hltjI : (j : Int) < (ne : Int) := by omega
                    have hwj : IntKind.i64.wrap (j : Int) = (j : Int) := wrap_nat (by omega)
                    have hwk : IntKind.i64.wrap (k : Int) = (k : Int) := wrap_nat (by omega)
                    obtain ⟨b, off, rfl, hlb, q0, q1⟩ := (HP.out.below (below_step (below_step B5 (Nat.le_refl _) HB0.out) (Nat.le_refl _) hbj)) j (by rw [HNE.out]; exact hltj)
                    have hrow := HR0.out.below hbj
                    obtain ⟨b', off', e', hlb', qx⟩ := hrow k (by rw [HN6.out]; exact hlt)
                    cases e'
                    rw [Nat.zero_add, HX.out] at qx
                    have hst := okJ_step es Rs x j
                    obtain ⟨p, hp⟩ : ∃ p, nthP es j = p := ⟨_, rfl⟩
                    rw [hp] at q0 q1 hst
                    clear hp
                    obtain ⟨fr, to⟩ := p
                    simp only at q0 q1 hst
                    have hcall : ∀ W : World, RowI W (some ⟨g6, 0, none⟩) Rs → Calls Try.prog 27 #[.slice (some ⟨g6, 0, none⟩) n6 cap6, .int .i64 fr] W fun r w' => r = .returned (.bool (Rs.any (fun y => y == fr))) ∧ w' = W := fun W hW => by
                      have := hasInt_any (some ⟨g6, 0, none⟩) cap6 Rs fr W hW (by rw [HN6.out]; omega)
                      rw [HN6.out] at this
                      exact this
                    generalize Rs.any (fun y => y == fr) = an at hst hcall
                    generalize okJ es Rs x j = oj at hst
                    have HCL : Hid (∀ W, StG W0 b off j fr to g6 k x Rs W → Calls Try.prog 27 #[.slice (some ⟨g6, 0, none⟩) n6 cap6, .int .i64 fr] W fun r w' => r = .returned (.bool an) ∧ w' = W) := fun W hW => hcall W hW.2.2.2.2.2.1
                    have hC' : Hid (StG W0 b off j fr to g6 k x Rs wr.drew) := ⟨q0, q1, hlb, qx, hlb', hrow, hbj.drew⟩
                    clear hcall q0 q1 qx hrow hbj
                    cases oj with
                    | false =>
                      have HOK : Hid (okJ es Rs x (j + 1) = false) := hst
                      clear hst
                      go_wp2_with fail
                      refine wp_region_class (C := StG W0 b off j fr to g6 k x Rs) (by kernel_rfl) (by kernel_rfl) hC'.out ?_
                      repeat (first | go_big_quiet_skip | (go_big_quiet_want; apply Exists.intro; refine ⟨?_, ?_⟩; (focus (intro w' hw'; first | (obtain ⟨m0, m1, m2, m3, m4, m5, m6⟩ := hw'; go_simp; with_reducible rfl) | (go_simp; refine (HCL.out w' hw').mono ?_; rintro e w'' ⟨rfl, rfl⟩; exact ⟨rfl, hw'⟩))); (try simp only [Act.put, List.setIfInBounds_toArray, List.set_cons_zero, List.set_cons_succ]); go_big_quiet_on))
                      refine wpQuiet_nil ?_
                      intro w2 hw2
                      have B2 : Below W0.heap.size W0 w2 := hw2.2.2.2.2.2.2
                      clear hw2 hC' HCL
                      go_wp2
                      go_roundw
                      case rel => exact ⟨j + 1, by omega, by rw [HOK.out], by go_num, B2⟩
                      case measure => simp [intOf]; omega
                    | true =>
                      cases htx : (to == x) with
                      | false =>
                        rw [htx] at hst
                        have HOK : Hid (okJ es Rs x (j + 1) = true) := hst
                        clear hst
                        go_wp2_with fail
                        refine wp_region_class (C := StG W0 b off j fr to g6 k x Rs) (by kernel_rfl) (by kernel_rfl) hC'.out ?_
                        repeat (first | go_big_quiet_skip | (go_big_quiet_want; apply Exists.intro; refine ⟨?_, ?_⟩; (focus (intro w' hw'; first | (obtain ⟨m0, m1, m2, m3, m4, m5, m6⟩ := hw'; go_simp; with_reducible rfl) | (go_simp; refine (HCL.out w' hw').mono ?_; rintro e w'' ⟨rfl, rfl⟩; exact ⟨rfl, hw'⟩))); (try simp only [Act.put, List.setIfInBounds_toArray, List.set_cons_zero, List.set_cons_succ]); go_big_quiet_on))
                        refine wpQuiet_nil ?_
                        intro w2 hw2
                        have B2 : Below W0.heap.size W0 w2 := hw2.2.2.2.2.2.2
                        clear hw2 hC' HCL
                        go_wp2
                        go_roundw
                        case rel => exact ⟨j + 1, by omega, by rw [HOK.out], by go_num, B2⟩
                        case measure => simp [intOf]; omega
                      | true =>
                        rw [htx] at hst
                        cases an with
                        | false =>
                          have HOK : Hid (okJ es Rs x (j + 1) = true) := hst
                          clear hst
                          go_wp2_with fail
                          refine wp_region_class (C := StG W0 b off j fr to g6 k x Rs) (by kernel_rfl) (by kernel_rfl) hC'.out ?_
                          repeat (first | go_big_quiet_skip | (go_big_quiet_want; apply Exists.intro; refine ⟨?_, ?_⟩; (focus (intro w' hw'; first | (obtain ⟨m0, m1, m2, m3, m4, m5, m6⟩ := hw'; go_simp; with_reducible rfl) | (go_simp; refine (HCL.out w' hw').mono ?_; rintro e w'' ⟨rfl, rfl⟩; exact ⟨rfl, hw'⟩))); (try simp only [Act.put, List.setIfInBounds_toArray, List.set_cons_zero, List.set_cons_succ]); go_big_quiet_on))
                          refine wpQuiet_nil ?_
                          intro w2 hw2
                          have B2 : Below W0.heap.size W0 w2 := hw2.2.2.2.2.2.2
                          clear hw2 hC' HCL
                          go_wp2
                          go_roundw
                          case rel => exact ⟨j + 1, by omega, by rw [HOK.out], by go_num, B2⟩
                          case measure => simp [intOf]; omega
                        | true =>
                          have HOK : Hid (okJ es Rs x (j + 1) = false) := hst
                          clear hst
                          go_wp2_with fail
                          refine wp_region_class (C := StG W0 b off j fr to g6 k x Rs) (by kernel_rfl) (by kernel_rfl) hC'.out ?_
                          repeat (first | go_big_quiet_skip | (go_big_quiet_want; apply Exists.intro; refine ⟨?_, ?_⟩; (focus (intro w' hw'; first | (obtain ⟨m0, m1, m2, m3, m4, m5, m6⟩ := hw'; go_simp; with_reducible rfl) | (go_simp; refine (HCL.out w' hw').mono ?_; rintro e w'' ⟨rfl, rfl⟩; exact ⟨rfl, hw'⟩))); (try simp only [Act.put, List.setIfInBounds_toArray, List.set_cons_zero, List.set_cons_succ]); go_big_quiet_on))
                          refine wpQuiet_nil ?_
                          intro w2 hw2
                          have B2 : Below W0.heap.size W0 w2 := hw2.2.2.2.2.2.2
                          clear hw2 hC' HCL
                          go_wp2
                          go_roundw
                          case rel => exact ⟨j + 1, by omega, by rw [HOK.out], by go_num, B2⟩
                          case measure => simp [intOf]; omega
                  · skip
                    obtain rfl : j = ne := by omega
                    have BW : Below w5.heap.size w5 wr := below_step HB0.out (Nat.le_refl _) hbj
                    cases hoj : okJ es Rs x j with
                    | false =>
                      have HOR : Hid (OwnI wr w5.heap.size (.slice (some ⟨g6, 0, none⟩) n6 cap6) Rs) := HO.out.below hbj
                      clear hoj
                      go_wp2
                      go_roundw
                      case rel => exact ⟨Rs, k + 1, by go_num, HIN, HOR, HLE, BW⟩
                      case measure => simp [intOf, lenOfV]; omega
                    | true =>
                      have HIN2 : Hid (∀ y, LeftV ns L y → y ∈ Rs.take k ++ Rs.drop (k + 1)) := stuck_step HD.out HIN.out (by rw [HN6.out]; exact hlt) (by rw [HX.out, HNE.out]; exact hoj)
                      clear hoj
                      have hwk : IntKind.i64.wrap (k : Int) = (k : Int) := wrap_nat (by omega)
                      have hrow4 : Hid (RowI wr (some ⟨g6, 0, none⟩) Rs) := HR0.out.below hbj
                      have lt6 : g6 < wr.heap.size := by obtain ⟨b1, off1, e1, hl1, _⟩ := hrow4.out k (by rw [HN6.out]; exact hlt); cases e1; exact hl1
                      have O8 := OwnI.made wr.drew wr.heap.size (Nat.le_refl _)
                      have cA : ∀ i, i < Rs.length → (wr.drew.alloc (.cells #[] 3)).cell? ⟨g6, i, none⟩ = some (.int .i64 (nthI Rs i)) := fun i hi => by
                        obtain ⟨b1, off1, e1, hl1, q1⟩ := hrow4.out i hi
                        cases e1
                        rw [Nat.zero_add] at q1
                        rw [← q1]
                        exact cell_of_block (heap_old _ _ _ hl1)
                      obtain ⟨v8', w6, hrunA, o8, gr8⟩ := app_I (.slice (some ⟨wr.heap.size, 0, none⟩) 0 0) [] (Rs.take k) (wr.drew.alloc (.cells #[] 3)) wr.heap.size cap6 O8 (by rw [List.length_take]; simp; omega) ⟨g6, 0, none⟩ (fun j hj => by
                        rw [List.length_take] at hj
                        rw [add_plain, Nat.zero_add, cA j (by omega), nthI_get (by omega : j < Rs.length), nthI_get (by rw [List.length_take]; exact hj), List.getElem_take]) (by simp)
                      rw [List.nil_append] at o8
                      have hlt1 : (Rs.take k).length = k := by rw [List.length_take, HN6.out]; omega
                      have hlt2 : (Rs.drop (k + 1)).length = n6 - (k + 1) := by rw [List.length_drop, HN6.out]
                      rw [hlt1] at hrunA
                      obtain ⟨ad2, hAd, hcells⟩ : ∃ ad2 : Addr, (if cap6 = k + 1 then some (⟨g6, 0, none⟩ : Addr) else some ⟨g6, k + 1, none⟩) = some ad2 ∧ ∀ j, j < (Rs.drop (k + 1)).length → w6.cell? (ad2.add j) = some (.int .i64 (nthI (Rs.drop (k + 1)) j)) := by
                        by_cases hce : cap6 = k + 1
                        · exact ⟨⟨g6, 0, none⟩, if_pos hce, fun j hj => by rw [hlt2] at hj; omega⟩
                        · refine ⟨⟨g6, k + 1, none⟩, if_neg hce, fun j hj => ?_⟩
                          rw [hlt2] at hj
                          have h1 : k + 1 + j < Rs.length := by rw [HN6.out]; omega
                          rw [add_plain, nthI_get (by rw [hlt2]; exact hj), List.getElem_drop, ← nthI_get h1, ← cA _ h1]
                          exact cell_of_block (gr8.block g6 (by simp; omega) (by simp [Value.ownBlock]; omega))
                      obtain ⟨v9, w7, hrunB, o9, gr9⟩ := app_I v8' (Rs.take k) (Rs.drop (k + 1)) w6 wr.heap.size (cap6 - (k + 1)) o8 (by rw [hlt1, hlt2]; omega) ad2 hcells (by have := gr8.size; simp at this; omega)
                      rw [hlt2] at hrunB
                      have B6 : Below wr.heap.size wr w6 := own_below ((Below.refl _ _).drew.alloc (Nat.le_refl _) _) (by simp) O8 gr8
                      have B7 : Below wr.heap.size wr w7 := own_below B6 B6.size o8 gr9
                      have hlen9 : (Rs.take k ++ Rs.drop (k + 1)).length < n6 := by rw [List.length_append, hlt1, hlt2]; omega
                      have HFIN : Hid (OwnI w7 w5.heap.size v9 (Rs.take k ++ Rs.drop (k + 1)) ∧ Below w5.heap.size w5 w7 ∧ lenOfV v9 < n6 ∧ (Rs.take k ++ Rs.drop (k + 1)).length ≤ 6) := ⟨own_mono o9 BW.size, below_step BW (Nat.le_refl _) B7, by obtain ⟨a9, c9, e9⟩ := own_shp o9; rw [e9]; exact hlen9, by omega⟩
                      have hmc : (k : Int) ≤ (cap6 : Int) := by omega
                      have hcap : ¬ cap6 = 0 := by omega
                      have hwm1 : IntKind.i64.wrap ((k : Int) + 1) = (k : Int) + 1 := by have := wrap_nat (j := k + 1) (by omega); simpa using this
                      have hm10 : (0 : Int) ≤ (k : Int) + 1 := by omega
                      have hm1n : (k : Int) + 1 ≤ (n6 : Int) := by omega
                      have hm1c : (k : Int) + 1 ≤ (cap6 : Int) := by omega
                      clear hcells B6 B7 o9 gr9 o8 gr8 O8 cA hlt1 hlt2 hlen9 BW
                      go_wp2_with fail
                      go_region_law (first | (refine step_append_run (by rfl) _ _ _ _ (by rfl) _ _ (by rfl) (by rfl) _ _ hrunA ?_) | (refine step_append_run (by rfl) _ _ _ _ (by rfl) _ _ (by rfl) (by rfl) _ _ hrunB ?_))
                      all_goals
                        simp only [List.getElem_toArray, List.getElem_cons_succ, List.getElem_cons_zero, Act.put, List.setIfInBounds_toArray, List.set_cons_zero, List.set_cons_succ]
                        go_wp2
                        go_roundw
                        case rel => exact ⟨_, q + 1, by go_num, by omega, HIN2, HFIN.out.1, HFIN.out.2.2.2, HFIN.out.2.1⟩
                        case measure => simp [intOf]; omega
              · obtain ⟨a6, c6, rfl⟩ := own_shp h6
                have hgeI : ¬ (k : Int) < (n6 : Int) := by omega
                clear h6
                go_wp2
                go_roundw
                case rel => exact ⟨Rs, q + 1, by go_num, by omega, HIN, HO, HLE, hb0⟩
                case measure => simp [intOf]; omega
          · obtain rfl : n = q := by omega
            obtain ⟨n6, hn6⟩ : ∃ m, Rs0.length = m := ⟨_, rfl⟩
            have h6 : wr.ownsRow w5.heap.size 3 1 u13 n6 (Rs0.map (Value.int .i64)) := by rw [← hn6]; exact HO0.out
            have hpos : (0 : Int) < (n6 : Int) := by
              obtain ⟨x, hx⟩ := left_some (L := L) HND3.out (by rw [HN.out]; exact HLT.out)
              have := List.length_pos_of_mem (HIN0.out x hx)
              omega
            obtain ⟨a6, c6, rfl⟩ := own_shp h6
            clear h6 hn6
            go_wp2
            go_ret
            exact ⟨congrArg (fun b => Ending.returned (Value.bool b)) (decide_eq_true (by omega : 0 < n6)), below_step (below_step B1 (Nat.le_refl _) B5) (Nat.le_refl _) hb0⟩

      · rw [if_neg hM, HCC.out] at F1
        rw [if_neg hM] at F2
        subst F1
        have hLn : L.length = n := by have := r1.len; rw [HN.out] at this; omega
        have HRUN : Hid (RunV es ns L) := r1
        have HOL : Hid (OwnI w5 wr.heap.size v8 L) := F2 ▸ HO5.out
        clear F2 r1 r2 HO5 hM
        have h8 : w5.ownsRow wr.heap.size 3 1 v8 n (L.map (Value.int .i64)) := by rw [← hLn]; exact HOL.out
        obtain ⟨a8, c8, rfl⟩ := own_shp h8
        have HR8 : Hid (RowI w5 a8 L) := by
          obtain ⟨x1, x2, e1, e2, _⟩ := HOL.out.row
          cases e1
          exact e2
        have HLN : Hid (L.length = n) := hLn
        clear h8 HOL hLn
        go_wp2
        skip
        go_loopw [12] (fun i wr => ∃ j : Nat, j ≤ ne ∧ i = .int .i64 j ∧ Below w5.heap.size w5 wr) (fun i _ => ne - (intOf i).toNat)
        case atStart => exact ⟨0, by omega, rfl, Below.refl _ _⟩
        case round =>
          obtain ⟨j, hj, rfl, hbj⟩ := hrel
          by_cases hltj : j < ne
          · have hltjI : (j : Int) < (ne : Int) := by omega
            have hwj : IntKind.i64.wrap (j : Int) = (j : Int) := wrap_nat (by omega)
            have hbw := below_step B5 (Nat.le_refl _) hbj
            obtain ⟨b, off, rfl, hlb, q0, q1⟩ := (HP.out.below hbw) j (by rw [HNE.out]; exact hltj)
            have hah := HRUN.out.ahead (by rw [HLN.out, HN.out]; omega) (i := j) (by rw [HNE.out]; exact hltj)
            obtain ⟨p, hp⟩ : ∃ p, nthP es j = p := ⟨_, rfl⟩
            rw [hp] at q0 q1 hah
            clear hp
            obtain ⟨fr, to⟩ := p
            simp only at q0 q1 hah
            have HF1 : Hid (∀ W, StH w5 b off j fr to a3 ns a8 L W → Calls Try.prog 27 #[.slice a3 n c3, .int .i64 fr] W fun r w' => r = .returned (.bool (ns.any (fun y => y == fr))) ∧ w' = W) := fun W hW => by
              have := hasInt_any a3 c3 ns fr W hW.2.2.2.1 (by rw [HN.out]; omega)
              rw [HN.out] at this
              exact this
            have HF2 : Hid (∀ W, StH w5 b off j fr to a3 ns a8 L W → Calls Try.prog 27 #[.slice a3 n c3, .int .i64 to] W fun r w' => r = .returned (.bool (ns.any (fun y => y == to))) ∧ w' = W) := fun W hW => by
              have := hasInt_any a3 c3 ns to W hW.2.2.2.1 (by rw [HN.out]; omega)
              rw [HN.out] at this
              exact this
            have HF3 : Hid (∀ W, StH w5 b off j fr to a3 ns a8 L W → Calls Try.prog 28 #[.slice a8 n c8, .int .i64 fr] W fun r w' => r = .returned (.int .i64 (plI L fr)) ∧ w' = W) := fun W hW => by
              have := place_any a8 c8 L fr W hW.2.2.2.2.1 (by rw [HLN.out]; omega)
              rw [HLN.out] at this
              exact this
            have HF4 : Hid (∀ W, StH w5 b off j fr to a3 ns a8 L W → Calls Try.prog 28 #[.slice a8 n c8, .int .i64 to] W fun r w' => r = .returned (.int .i64 (plI L to)) ∧ w' = W) := fun W hW => by
              have := place_any a8 c8 L to W hW.2.2.2.2.1 (by rw [HLN.out]; omega)
              rw [HLN.out] at this
              exact this
            have hC' : Hid (StH w5 b off j fr to a3 ns a8 L wr.drew) := ⟨q0, q1, hlb, HI.out.below hbw.drew, HR8.out.below hbj.drew, hbj.drew⟩
            clear q0 q1 hbw hbj
            cases hf : ns.any (fun y => y == fr) with
            | false =>
              rw [hf] at HF1
              clear hf hah
              go_wp2_with fail
              refine wp_region_class (C := StH w5 b off j fr to a3 ns a8 L) (by kernel_rfl) (by kernel_rfl) hC'.out ?_
              repeat (first | go_big_quiet_skip | (go_big_quiet_want; apply Exists.intro; refine ⟨?_, ?_⟩; (focus (intro w' hw'; first | (obtain ⟨m0, m1, m2, m3, m4, m5⟩ := hw'; go_simp; with_reducible rfl) | (go_simp; (with_reducible refine (HF1.out w' hw').mono ?_); rintro e w'' ⟨rfl, rfl⟩; exact ⟨rfl, hw'⟩) | (go_simp; (with_reducible refine (HF2.out w' hw').mono ?_); rintro e w'' ⟨rfl, rfl⟩; exact ⟨rfl, hw'⟩) | (go_simp; (with_reducible refine (HF3.out w' hw').mono ?_); rintro e w'' ⟨rfl, rfl⟩; exact ⟨rfl, hw'⟩) | (go_simp; (with_reducible refine (HF4.out w' hw').mono ?_); rintro e w'' ⟨rfl, rfl⟩; exact ⟨rfl, hw'⟩))); (try simp only [Act.put, List.setIfInBounds_toArray, List.set_cons_zero, List.set_cons_succ]); go_big_quiet_on))
              refine wpQuiet_nil ?_
              intro w2 hw2
              have B2 : Below w5.heap.size w5 w2 := hw2.2.2.2.2.2
              clear hw2 hC' HF1 HF2 HF3 HF4
              go_wp2
              go_roundw
              case rel => exact ⟨j + 1, by omega, by go_num, B2⟩
              case measure => simp [intOf]; omega
            | true =>
              rw [hf] at HF1
              cases ht : ns.any (fun y => y == to) with
              | false =>
                rw [ht] at HF2
                clear hf ht hah
                go_wp2_with fail
                refine wp_region_class (C := StH w5 b off j fr to a3 ns a8 L) (by kernel_rfl) (by kernel_rfl) hC'.out ?_
                repeat (first | go_big_quiet_skip | (go_big_quiet_want; apply Exists.intro; refine ⟨?_, ?_⟩; (focus (intro w' hw'; first | (obtain ⟨m0, m1, m2, m3, m4, m5⟩ := hw'; go_simp; with_reducible rfl) | (go_simp; (with_reducible refine (HF1.out w' hw').mono ?_); rintro e w'' ⟨rfl, rfl⟩; exact ⟨rfl, hw'⟩) | (go_simp; (with_reducible refine (HF2.out w' hw').mono ?_); rintro e w'' ⟨rfl, rfl⟩; exact ⟨rfl, hw'⟩) | (go_simp; (with_reducible refine (HF3.out w' hw').mono ?_); rintro e w'' ⟨rfl, rfl⟩; exact ⟨rfl, hw'⟩) | (go_simp; (with_reducible refine (HF4.out w' hw').mono ?_); rintro e w'' ⟨rfl, rfl⟩; exact ⟨rfl, hw'⟩))); (try simp only [Act.put, List.setIfInBounds_toArray, List.set_cons_zero, List.set_cons_succ]); go_big_quiet_on))
                refine wpQuiet_nil ?_
                intro w2 hw2
                have B2 : Below w5.heap.size w5 w2 := hw2.2.2.2.2.2
                clear hw2 hC' HF1 HF2 HF3 HF4
                go_wp2
                go_roundw
                case rel => exact ⟨j + 1, by omega, by go_num, B2⟩
                case measure => simp [intOf]; omega
              | true =>
                rw [ht] at HF2
                have hlt := hah (any_is.1 hf) (any_is.1 ht)
                clear hf ht hah
                generalize plI L fr = pf at *
                generalize plI L to = pt at *
                have hge : ¬ pt ≤ pf := by omega
                have hge' : ¬ pf ≥ pt := by omega
                have hged : decide (pt ≤ pf) = false := decide_eq_false hge
                go_wp2_with fail
                refine wp_region_class (C := StH w5 b off j fr to a3 ns a8 L) (by kernel_rfl) (by kernel_rfl) hC'.out ?_
                repeat (first | go_big_quiet_skip | (go_big_quiet_want; apply Exists.intro; refine ⟨?_, ?_⟩; (focus (intro w' hw'; first | (obtain ⟨m0, m1, m2, m3, m4, m5⟩ := hw'; go_simp; with_reducible rfl) | (go_simp; (with_reducible refine (HF1.out w' hw').mono ?_); rintro e w'' ⟨rfl, rfl⟩; exact ⟨rfl, hw'⟩) | (go_simp; (with_reducible refine (HF2.out w' hw').mono ?_); rintro e w'' ⟨rfl, rfl⟩; exact ⟨rfl, hw'⟩) | (go_simp; (with_reducible refine (HF3.out w' hw').mono ?_); rintro e w'' ⟨rfl, rfl⟩; exact ⟨rfl, hw'⟩) | (go_simp; (with_reducible refine (HF4.out w' hw').mono ?_); rintro e w'' ⟨rfl, rfl⟩; exact ⟨rfl, hw'⟩))); (try simp only [Act.put, List.setIfInBounds_toArray, List.set_cons_zero, List.set_cons_succ]); go_big_quiet_on))
                refine wpQuiet_nil ?_
                intro w2 hw2
                have B2 : Below w5.heap.size w5 w2 := hw2.2.2.2.2.2
                clear hw2 hC' HF1 HF2 HF3 HF4
                go_wp2
                go_roundw
                case rel => exact ⟨j + 1, by omega, by go_num, B2⟩
                case measure => simp [intOf]; omega
          · obtain rfl : j = ne := by omega
            go_wp2
            go_ret
            exact ⟨rfl, below_step (below_step B1 (Nat.le_refl _) B5) (Nat.le_refl _) hbj⟩


end Go.Proofs.Ytlcgmifibekegaa
