/- One whole behind the other: spec's answer; marks that are looked for (stage 8). -/
import Derived.Test.YtlcgmifibekegaaSrC
import Derived.Test.YtlcgmifibekegaaCfE
namespace Go.Proofs.Ytlcgmifibekegaa
open Go.RowKit

theorem any_is {L : List Int} {x : Int} : L.any (fun y => y == x) = true ↔ x ∈ L := by
  rw [List.any_eq_true]
  exact ⟨fun ⟨y, h1, h2⟩ => by have : y = x := by simpa using h2
                               subst this; exact h1, fun h => ⟨x, h, by simp⟩⟩
theorem nodup_snoc {L : List Int} {k : Nat} (hk : k < L.length) (h : (L.take k).Nodup) (hx : (L.take k).any (fun y => y == nthI L k) = false) : (L.take (k + 1)).Nodup := by
  rw [takeZ_snoc hk]
  refine List.nodup_append.2 ⟨h, (by simp), fun a ha b hb => ?_⟩
  simp at hb
  subst hb
  intro e
  subst e
  have := any_is.2 ha
  rw [hx] at this
  cases this
theorem not_nodup {L : List Int} {k : Nat} (hk : k < L.length) (hx : (L.take k).any (fun y => y == nthI L k) = true) : ¬ L.Nodup := fun h => by
  have hm := any_is.1 hx
  have h2 : (L.take (k + 1)).Nodup := h.sublist (List.take_sublist _ _)
  rw [takeZ_snoc hk] at h2
  exact (List.nodup_append.1 h2).2.2 _ hm _ (by simp) rfl
theorem RowI.take {w : World} {a : Option Addr} {L : List Int} (h : RowI w a L) (k : Nat) : RowI w a (L.take k) := fun i hi => by
  rw [List.length_take] at hi
  obtain ⟨b, off, e, hb, hc⟩ := h i (by omega)
  refine ⟨b, off, e, hb, ?_⟩
  have : nthI (L.take k) i = nthI L i := by unfold nthI; rw [List.getD_eq_getElem?_getD, List.getD_eq_getElem?_getD, List.getElem?_take_of_lt (by omega)]
  rw [this]; exact hc

/-- What stands while a number is looked for among those ahead of it. -/
abbrev StE (W : World) (b off k : Nat) (t : Int) (L : List Int) (w' : World) : Prop := w'.cell? ⟨b, off + k, none⟩ = some (.int .i64 t) ∧ b < w'.heap.size ∧ RowI w' (some ⟨b, off, none⟩) L ∧ Below W.heap.size W w'
set_option maxRecDepth 100000 in
set_option maxHeartbeats 4000000 in
theorem specSerialHistory_any (a a' : Option Addr) (cap cap' : Nat) (ss : List TH) (ord : List Int) (w : World) (h : RowH w a ss) (h' : RowI w a' ord) (hl : ss.length ≤ 1048576) (hl' : ord.length ≤ 1048576) (hlc : ord.length ≤ cap') :
    Calls Try.prog 56 #[.slice a ss.length cap, .slice a' ord.length cap'] w (RetH w (shL ss ord) (shC ss ord)) := by
  have HR : Hid (RowH w a ss) := h
  have HI : Hid (RowI w a' ord) := h'
  have hcall := specHistoryOK_any a cap ss w h hl
  have HC : Hid (shC ss ord = if 4096 < ord.length then 2 else if hisC ss ≠ 0 then hisC ss else if asB (¬ ord.Nodup) = true then 9 else 0) := rfl
  have HD : Hid (shL ss ord = if shC ss ord = 0 then shA ss ord ord.length else []) := rfl
  have HS : Hid (hisC ss = if 4096 < ss.length then 2 else if asB (HistP ss) = true then 0 else 1) := rfl
  obtain ⟨i0, hi, hz0, hz1, hz2⟩ := info_parts info107
  generalize shC ss ord = c at *
  generalize shL ss ord = L at *
  generalize hisC ss = d at *
  obtain ⟨no, hno⟩ : ∃ m, ord.length = m := ⟨_, rfl⟩
  have HNO : Hid (ord.length = no) := hno
  obtain ⟨len, hlen⟩ : ∃ m, ss.length = m := ⟨_, rfl⟩
  have HL : Hid (ss.length = len) := hlen
  rw [hno] at hl' HC HD hlc ⊢
  rw [hlen] at hl hcall HS ⊢
  clear h h' hno hlen
  by_cases h5 : (4096 : Int) < (len : Int)
  · have E1 : Hid (c = 2) := by show _ = _; rw [HC.out, HS.out, if_pos (by omega : 4096 < len)]; split <;> rfl
    have E2 : Hid (L = []) := by show _ = _; rw [HD.out, E1.out]; rfl
    have O1 : Hid (OwnH (w.alloc (.cells #[] 107)) w.heap.size (.slice (some ⟨w.heap.size, 0, none⟩) 0 0) []) := OwnH.made w w.heap.size (Nat.le_refl _)
    go_enter Try.func56, Try.ntmps56
    go_wp2
    go_ret2
    rw [E1.out, E2.out]
    exact ⟨_, rfl, O1.out, (Below.refl _ _).alloc (Nat.le_refl _) _⟩
  by_cases h4 : (4096 : Int) < (no : Int)
  · have E1 : Hid (c = 2) := by show _ = _; rw [HC.out, if_pos (by omega)]
    have E2 : Hid (L = []) := by show _ = _; rw [HD.out, E1.out]; rfl
    have O1 : Hid (OwnH (w.alloc (.cells #[] 107)) w.heap.size (.slice (some ⟨w.heap.size, 0, none⟩) 0 0) []) := OwnH.made w w.heap.size (Nat.le_refl _)
    go_enter Try.func56, Try.ntmps56
    go_wp2
    go_ret2
    rw [E1.out, E2.out]
    exact ⟨_, rfl, O1.out, (Below.refl _ _).alloc (Nat.le_refl _) _⟩
  · go_enter Try.func56, Try.ntmps56
    go_wp2_with fail
    refine hcall.mono ?_
    rintro e w1 ⟨rfl, B1⟩
    clear hcall
    cases hp : asB (HistP ss) with
    | false =>
      have E1 : Hid (c = 1) := by show _ = _; rw [HC.out, HS.out, if_neg (by omega : ¬ 4096 < len), hp, if_neg (by omega : ¬ 4096 < no)]; rfl
      have E2 : Hid (L = []) := by show _ = _; rw [HD.out, E1.out]; rfl
      have O1 : Hid (OwnH (w1.alloc (.cells #[] 107)) w.heap.size (.slice (some ⟨w1.heap.size, 0, none⟩) 0 0) []) := OwnH.made w1 w.heap.size B1.size
      clear hp
      go_wp2
      go_ret2
      rw [E1.out, E2.out]
      exact ⟨_, rfl, O1.out, B1.alloc B1.size _⟩
    | true =>
      have h60 := (asB_is hp).1
      rw [HL.out] at h60
      have E0 : Hid (c = if asB (¬ ord.Nodup) = true then 9 else 0) := by show _ = _; rw [HC.out, HS.out, if_neg (by omega : ¬ 4096 < len), hp, if_neg (by omega : ¬ 4096 < no)]; rfl
      have O1 : OwnH (w1.alloc (.cells #[] 107)) w.heap.size (.slice (some ⟨w1.heap.size, 0, none⟩) 0 0) (shA ss ord 0) := by rw [shA_zero]; exact OwnH.made w1 w.heap.size B1.size
      have B2 : Below w.heap.size w (w1.alloc (.cells #[] 107)) := B1.alloc B1.size _
      clear hp B1
      go_wp2
      go_loopw [6, 7] (fun v i wr => ∃ k : Nat, k ≤ no ∧ i = .int .i64 k ∧ Hid ((ord.take k).Nodup) ∧ OwnH wr w.heap.size v (shA ss ord k) ∧ Below w.heap.size w wr) (fun _ i _ => no - (intOf i).toNat)
      case atStart => exact ⟨0, by omega, rfl, by rw [List.take_zero]; exact List.nodup_nil, O1, B2⟩
      case round =>
        clear O1 B2
        obtain ⟨k, hk, rfl, HND, hO, hbl⟩ := hrel
        have HO : Hid (OwnH wr w.heap.size u6 (shA ss ord k)) := hO
        clear hO
        by_cases hlt : k < no
        · have hltI : (k : Int) < (no : Int) := by omega
          have hrow := HI.out.below hbl
          have hrow2 := hrow.take k
          obtain ⟨b, off, rfl, hlb, q0⟩ := hrow k (by rw [HNO.out]; exact hlt)
          have HST : Hid (shA ss ord (k + 1) = shA ss ord k ++ selT ss (nthI ord k) len) := by show _ = _; rw [shA_step (by rw [HNO.out]; exact hlt), HL.out]
          have HYES := nodup_snoc (L := ord) (k := k) (by rw [HNO.out]; exact hlt) HND.out
          have HNOT := not_nodup (L := ord) (k := k) (by rw [HNO.out]; exact hlt)
          have hal : (shA ss ord k).length ≤ 245760 := by
            have h1 := shA_len ss ord k (by rw [HNO.out]; exact hk)
            rw [HL.out] at h1
            have h3 : k * len ≤ 4096 * 60 := Nat.mul_le_mul (by omega) h60
            omega
          obtain ⟨t, ht⟩ : ∃ t, nthI ord k = t := ⟨_, rfl⟩
          have HTT : Hid (nthI ord k = t) := ht
          rw [ht] at q0 HST HYES HNOT
          have hlk : (ord.take k).length = k := by rw [List.length_take, HNO.out]; omega
          have hcall : ∀ W : World, RowI W (some ⟨b, off, none⟩) (ord.take k) → Calls Try.prog 76 #[.slice (some ⟨b, off, none⟩) k cap', .int .i64 t] W fun r w' => r = .returned (.bool ((ord.take k).any (fun x => x == t))) ∧ w' = W := fun W hW => by
            have := l03Has_any (some ⟨b, off, none⟩) cap' (ord.take k) t W hW (by omega)
            rw [hlk] at this
            exact this
          generalize hany : (ord.take k).any (fun x => x == t) = an at *
          have HCL : Hid (∀ W, StE wr b off k t (ord.take k) W → Calls Try.prog 76 #[.slice (some ⟨b, off, none⟩) k cap', .int .i64 t] W fun r w' => r = .returned (.bool an) ∧ w' = W) := fun W hW => hcall W hW.2.2.1
          have hC : Hid (StE wr b off k t (ord.take k) wr.drew) := ⟨q0, hlb, hrow2, (Below.refl _ _).drew⟩
          have hwk : IntKind.i64.wrap (k : Int) = (k : Int) := wrap_nat (by omega)
          have hcap : ¬ cap' = 0 := by omega
          have hkc : (k : Int) ≤ (cap' : Int) := by omega
          have HYES' : Hid (an = false → (ord.take (k + 1)).Nodup) := HYES
          have HNOT' : Hid (an = true → ¬ ord.Nodup) := HNOT
          clear ht hany hcall hrow hrow2 HYES HNOT hlk
          cases an with
          | true =>
            have E1 : Hid (c = 9) := by show _ = _; rw [E0.out, ← asB_true (HNOT'.out rfl)]; rfl
            have E2 : Hid (L = []) := by show _ = _; rw [HD.out, E1.out]; rfl
            go_wp2_with fail
            refine wp_region_class (C := StE wr b off k t (ord.take k)) (by kernel_rfl) (by kernel_rfl) hC.out ?_
            repeat (first | go_big_quiet_skip | (go_big_quiet_want; apply Exists.intro; refine ⟨?_, ?_⟩; (focus (intro w' hw'; first | (obtain ⟨m0, m1, m2, m3⟩ := hw'; go_simp; with_reducible rfl) | (go_simp; refine (HCL.out w' hw').mono ?_; rintro e w'' ⟨rfl, rfl⟩; exact ⟨rfl, hw'⟩))); (try simp only [Act.put, List.setIfInBounds_toArray, List.set_cons_zero, List.set_cons_succ]); go_big_quiet_on))
            refine wpQuiet_nil ?_
            intro w2 hw2
            have hB2 : Below wr.heap.size wr w2 := hw2.2.2.2
            clear hw2
            have B3 := below_step hbl (Nat.le_refl _) hB2
            have O3 : Hid (OwnH (w2.alloc (.cells #[] 107)) w.heap.size (.slice (some ⟨w2.heap.size, 0, none⟩) 0 0) []) := OwnH.made w2 w.heap.size B3.size
            clear hB2
            go_wp2
            go_ret2
            rw [E1.out, E2.out]
            exact ⟨_, rfl, O3.out, B3.alloc B3.size _⟩
          | false =>
            have HND2 : Hid ((ord.take (k + 1)).Nodup) := HYES'.out rfl
            go_wp2_with fail
            refine wp_region_class (C := StE wr b off k t (ord.take k)) (by kernel_rfl) (by kernel_rfl) hC.out ?_
            repeat (first | go_big_quiet_skip | (go_big_quiet_want; apply Exists.intro; refine ⟨?_, ?_⟩; (focus (intro w' hw'; first | (obtain ⟨m0, m1, m2, m3⟩ := hw'; go_simp; with_reducible rfl) | (go_simp; refine (HCL.out w' hw').mono ?_; rintro e w'' ⟨rfl, rfl⟩; exact ⟨rfl, hw'⟩))); (try simp only [Act.put, List.setIfInBounds_toArray, List.set_cons_zero, List.set_cons_succ]); go_big_quiet_on))
            refine wpQuiet_nil ?_
            intro w2 hw2
            have hB2 : Below wr.heap.size wr w2 := hw2.2.2.2
            clear hw2
            have B3 := below_step hbl (Nat.le_refl _) hB2
            have HO0 : OwnH w2 w.heap.size u6 (shA ss ord k ++ selT ss t 0) := by rw [selT_zero, List.append_nil]; exact HO.out.below hB2
            clear HO hB2 hbl hC HCL
            go_wp2
            go_loopw [6, 8] (fun v i wr => ∃ m : Nat, m ≤ len ∧ i = .int .i64 m ∧ OwnH wr w.heap.size v (shA ss ord k ++ selT ss t m) ∧ Below w.heap.size w wr) (fun _ i _ => len - (intOf i).toNat)
            case atStart => exact ⟨0, by omega, rfl, HO0, B3⟩
            case round =>
              clear HO0 B3 q0
              obtain ⟨m, hm, rfl, hO, hbm⟩ := hrel
              have HO : Hid (OwnH wr w.heap.size u6 (shA ss ord k ++ selT ss t m)) := hO
              clear hO
              by_cases hlt2 : m < len
              · have hlt2I : (m : Int) < (len : Int) := by omega
                obtain ⟨b2, off2, rfl, hlb2, ⟨r0, r1, r2, r3⟩, _, _⟩ := (HR.out.below hbm) m (by rw [HL.out]; exact hlt2)
                obtain ⟨b', off', e', hlb3, q0⟩ := (HI.out.below hbm) k (by rw [HNO.out]; exact hlt)
                cases e'
                rw [HTT.out] at q0
                have hst := selT_step (ss := ss) (t := t) (m := m) (by rw [HL.out]; exact hlt2)
                obtain ⟨x, hx⟩ : ∃ x, nthH ss m = x := ⟨_, rfl⟩
                rw [hx] at r0 r1 r2 r3 hst
                clear hx
                obtain ⟨tx, kd, ky, va⟩ := x
                simp only at hst r0 r1 r2 r3
                have hs1 : w.heap.size ≤ wr.heap.size := hbm.size
                have hll : (shA ss ord k ++ selT ss t m).length ≤ 245820 := by have := selT_len ss t m; rw [List.length_append]; omega
                cases hf : (tx == t) with
                | true =>
                  rw [hf] at hst
                  have HN : Hid (shA ss ord k ++ selT ss t (m + 1) = (shA ss ord k ++ selT ss t m) ++ [(tx, kd, ky, va)]) := by show _ = _; rw [hst, List.append_assoc]; rfl
                  obtain ⟨fl, hfl⟩ : ∃ fl, shA ss ord k ++ selT ss t m = fl := ⟨_, rfl⟩
                  rw [hfl] at HN HO hll
                  have HOq : Hid (∀ n, OwnH (wr.drewN n) w.heap.size u6 fl) := fun n => HO.out.below (below_drewN (Below.refl _ _) n)
                  have HBq : Hid (∀ n, Below w.heap.size w (wr.drewN n)) := fun n => below_drewN hbm n
                  clear hst hfl
                  go_wp2_with fail
                  go_quiet (fail)
                  go_wp2_with (at_builtin; refine wpList_append_own _ rfl _ _ 23 rfl w.heap.size 107 i0 (.agg #[.int .i64 0, .int .i64 0, .string ⟨#[]⟩, .string ⟨#[]⟩]) 4 48 Try.underlying23 hi hz0 hz1 hz2 rfl (by decide) _ _ _ rfl ((HOq.out nq).alloc _) ⟨wr.heap.size, 0, none⟩ 1 1 [.int .i64 tx, .int .i64 kd, .string ky, .string va] rfl rfl ?m0 ?m4 ?m1 ?m2 ?m3 ?_)
                  case m0 => exact cell_four_new (wr.drewN nq) _ _ _ _ _
                  case m4 => first | exact ⟨rfl, rfl, rfl, rfl⟩ | (intro u hu; simp at hu; rcases hu with rfl | rfl | rfl | rfl <;> rfl)
                  case m1 => unfold maxLen; omega
                  case m2 => omega
                  case m3 => first | omega | (simp; omega) | (show w.heap.size ≤ _; have := (HBq.out nq).size; simp; omega)
                  intro v' w3 ho2 g2 _
                  have HO2 : Hid (OwnH w3 w.heap.size v' (shA ss ord k ++ selT ss t (m + 1))) := by show OwnH _ _ _ _; rw [HN.out]; exact OwnH.snoc (p := (tx, kd, ky, va)) ho2
                  have B3 : Hid (Below w.heap.size w w3) := own_belowX ((HBq.out nq).alloc (HBq.out nq).size _) (by have := (HBq.out nq).size; simp at *; omega) ((HOq.out nq).alloc _) g2
                  clear ho2 g2
                  go_wp2
                  go_roundw
                  case rel => exact ⟨m + 1, by omega, by go_num, HO2.out, B3.out⟩
                  case measure => simp [intOf]; omega
                | false =>
                  rw [hf] at hst
                  have HN : Hid (selT ss t (m + 1) = selT ss t m) := hst
                  clear hst
                  go_wp2_with fail
                  go_quiet (fail)
                  go_wp2
                  go_roundw
                  case rel => exact ⟨m + 1, by omega, by go_num, by rw [HN.out]; exact HO.out.below (below_drewN (Below.refl _ _) _), below_drewN hbm _⟩
                  case measure => simp [intOf]; omega
              · obtain rfl : m = len := by omega
                have HE : Hid (OwnH wr w.heap.size u6 (shA ss ord (k + 1))) := by show OwnH _ _ _ _; rw [HST.out]; exact HO.out
                clear HO
                go_wp2
                go_roundw
                case rel => exact ⟨k + 1, by omega, by go_num, HND2, HE.out, hbm⟩
                case measure => simp [intOf]; omega
        · obtain rfl : k = no := by omega
          have E1 : Hid (c = 0) := by
            show _ = _
            have hn : ord.Nodup := by have := HND.out; rw [← HNO.out, List.take_length] at this; exact this
            rw [E0.out, ← asB_false (fun h => h hn)]
            rfl
          have E2 : Hid (L = shA ss ord k) := by show _ = _; rw [HD.out, E1.out]; rfl
          go_wp2
          go_ret2
          rw [E1.out, E2.out]
          exact ⟨_, rfl, HO.out, hbl⟩
end Go.Proofs.Ytlcgmifibekegaa
