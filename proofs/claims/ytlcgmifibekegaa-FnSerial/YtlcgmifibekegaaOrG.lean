/- Both SerialOrders (stage 8). -/
import Derived.Test.YtlcgmifibekegaaOrF
namespace Go.Proofs.Ytlcgmifibekegaa
open Go.RowKit

theorem so_end {ns : List Int} {es : List P2} {L : List Int} (h20 : ns.length ≤ 20) (h400 : es.length ≤ 400) (nd : ns.Nodup) (r : RunV es ns L) (d : DoneV es ns L) : soC ns es = (if L.length < ns.length then 15 else 0) ∧ soL ns es = if L.length < ns.length then [] else L := by
  have e := ordV_is r d
  have hc : soC ns es = (if L.length < ns.length then 15 else 0) := by
    unfold soC
    rw [if_neg (by omega), if_neg (by omega), ← asB_false (fun q => q nd), e]
    rfl
  refine ⟨hc, ?_⟩
  unfold soL
  rw [hc, e]
  by_cases h : L.length < ns.length
  · rw [if_pos h, if_pos h]; rfl
  · rw [if_neg h, if_neg h]; rfl

set_option maxRecDepth 100000 in
set_option maxHeartbeats 8000000 in
theorem implSerialOrder_any (a a' : Option Addr) (cap cap' : Nat) (ns : List Int) (es : List P2) (w : World) (h : RowI w a ns) (h' : RowP w a' es) (hl : ns.length ≤ 1048576) (hl' : es.length ≤ 1048576) :
    Calls Try.prog 17 #[.slice a ns.length cap, .slice a' es.length cap'] w (RetI w (soL ns es) (soC ns es)) := by
  have HI : Hid (RowI w a ns) := h
  have HP : Hid (RowP w a' es) := h'
  have HC : Hid (soC ns es = if 4096 < ns.length ∨ 4096 < es.length then 2 else if 20 < ns.length ∨ 400 < es.length then 6 else if asB (¬ ns.Nodup) = true then 9 else if (ordV es ns).length < ns.length then 15 else 0) := rfl
  have HD : Hid (soL ns es = if soC ns es = 0 then ordV es ns else []) := rfl
  have HE : Hid (∀ L, ns.length ≤ 20 → es.length ≤ 400 → ns.Nodup → RunV es ns L → DoneV es ns L → soC ns es = (if L.length < ns.length then 15 else 0) ∧ soL ns es = if L.length < ns.length then [] else L) := fun L => so_end
  have HT : Hid (Calls Try.prog 72 #[.slice a ns.length cap] w fun e w' => e = .returned (.bool (asB (¬ ns.Nodup))) ∧ Below w.heap.size w w') := hasTwice_any a cap ns w h hl
  generalize soC ns es = c at *
  generalize soL ns es = L at *
  obtain ⟨n, hn⟩ : ∃ m, ns.length = m := ⟨_, rfl⟩
  have HN : Hid (ns.length = n) := hn
  obtain ⟨ne, hne⟩ : ∃ m, es.length = m := ⟨_, rfl⟩
  have HNE : Hid (es.length = ne) := hne
  rw [hn, hne] at HC HE
  rw [hn] at hl ⊢
  rw [hne] at hl' ⊢
  rw [hn] at HT
  clear h h' hn hne
  generalize (ordV es ns).length = oL at HC
  by_cases hA : (4096 : Int) < (n : Int)
  · skip
    have E1 : Hid (c = 2) := by show _ = _; rw [HC.out]; rw [if_pos (by omega)]
    have E2 : Hid (L = []) := by show _ = _; rw [HD.out, E1.out]; rfl
    go_enter Try.func17, Try.ntmps17
    go_wp2
    go_ret2
    rw [E1.out, E2.out]
    exact ⟨_, rfl, OwnI.nil _ _, Below.refl _ _⟩
  by_cases hB : (4096 : Int) < (ne : Int)
  · skip
    have E1 : Hid (c = 2) := by show _ = _; rw [HC.out]; rw [if_pos (by omega)]
    have E2 : Hid (L = []) := by show _ = _; rw [HD.out, E1.out]; rfl
    go_enter Try.func17, Try.ntmps17
    go_wp2
    go_ret2
    rw [E1.out, E2.out]
    exact ⟨_, rfl, OwnI.nil _ _, Below.refl _ _⟩
  by_cases hC : (20 : Int) < (n : Int)
  · skip
    have E1 : Hid (c = 6) := by show _ = _; rw [HC.out]; rw [if_neg (by omega), if_pos (by omega)]
    have E2 : Hid (L = []) := by show _ = _; rw [HD.out, E1.out]; rfl
    go_enter Try.func17, Try.ntmps17
    go_wp2
    go_ret2
    rw [E1.out, E2.out]
    exact ⟨_, rfl, OwnI.nil _ _, Below.refl _ _⟩
  by_cases hD : (400 : Int) < (ne : Int)
  · skip
    have E1 : Hid (c = 6) := by show _ = _; rw [HC.out]; rw [if_neg (by omega), if_pos (by omega)]
    have E2 : Hid (L = []) := by show _ = _; rw [HD.out, E1.out]; rfl
    go_enter Try.func17, Try.ntmps17
    go_wp2
    go_ret2
    rw [E1.out, E2.out]
    exact ⟨_, rfl, OwnI.nil _ _, Below.refl _ _⟩
  have E0 : Hid (c = if asB (¬ ns.Nodup) = true then 9 else if oL < n then 15 else 0) := by show _ = _; rw [HC.out, if_neg (by omega), if_neg (by omega)]
  clear HC
  go_enter Try.func17, Try.ntmps17
  go_wp2_with fail
  refine HT.out.mono ?_
  rintro e w1 ⟨rfl, B1⟩
  clear HT
  cases hp : asB (¬ ns.Nodup) with
  | true =>
    have E1 : Hid (c = 9) := by show _ = _; rw [E0.out, hp]; rfl
    have E2 : Hid (L = []) := by show _ = _; rw [HD.out, E1.out]; rfl
    clear hp
    go_wp2
    go_ret2
    rw [E1.out, E2.out]
    exact ⟨_, rfl, OwnI.nil _ _, B1⟩
  | false =>
    have hnd : ns.Nodup := Classical.byContradiction (fun q => by have := asB_true q; rw [hp] at this; cases this)
    have A0 : Below w1.heap.size w1 (w1.alloc (.cells #[.slice a n cap] 25)) := (Below.refl _ _).alloc (Nat.le_refl _) _
    have HV := values_any a n cap w1
    have HS := sorted_any w1.heap.size cap a ns (w1.alloc (.cells #[.slice a n cap] 25)) (by rw [HN.out]; exact hl) (by simp) (by rw [HN.out]; exact slab_cell (heap_new' _ _ _ rfl)) ((HI.out.below B1).below A0)
    have HND : Hid ns.Nodup := hnd
    clear hp hnd
    go_wp2_with fail
    refine HV.mono ?_
    rintro e w2 ⟨rfl, rfl⟩
    clear HV
    go_wp2_with fail
    refine HS.mono ?_
    rintro e w3 ⟨v3, rfl, o3, b3⟩
    clear HS
    have B3 : Below w.heap.size w w3 := below_step (below_step B1 (Nat.le_refl _) A0) (Nat.le_refl _) b3
    obtain ⟨a3, c3, e3, r3, _⟩ := o3.row
    rw [sortI_len, HN.out] at e3
    subst e3
    have hsr := sortI_rise HND.out
    have hsl : (sortI ns).length = n := (sortI_len ns).trans HN.out
    have HQ := searchOrder_any a3 a' c3 cap' (sortI ns) es w3 r3 (HP.out.below B3) (by omega) (by rw [HNE.out]; exact hl') (sortI_pair ns)
    have HR : Hid (∀ lf M, SrI (sortI ns) es (edF (sortI ns) es es.length) (sortI ns).length lf M → (∀ i, i < (sortI ns).length → ¬ CandI lf (edF (sortI ns) es es.length) i) → RunV es ns M ∧ DoneV es ns M) := fun lf M h1 h2 =>
      have hm : ∀ x, x ∈ sortI ns ↔ x ∈ ns := fun x => (sortI_perm ns).mem_iff
      ⟨(h1.run hsr (by omega)).1.perm hm, (h1.done hsr (by omega) h2).perm hm⟩
    rw [HNE.out] at HQ HR
    rw [hsl] at HQ HR
    clear o3 r3 b3 A0
    go_wp2_with fail
    refine HQ.mono ?_
    rintro e w4 ⟨v, c4, M, lf, rfl, s1, s2, hc4, o4, b4⟩
    obtain ⟨r1, r2⟩ := HR.out lf M s1 s2
    obtain ⟨F1, F2⟩ := HE.out M (by omega) (by omega) HND.out r1 r2
    have FF : Hid (c = c4 ∧ OwnI w4 w.heap.size v L) := ⟨by rw [F1, hc4], by rw [F2]; exact own_mono o4 B3.size⟩
    have B4 := below_step B3 (Nat.le_refl _) b4
    clear HQ s1 s2 hc4 o4 b4 r1 r2 F1 F2
    go_wp2
    go_ret2
    rw [FF.out.1]
    exact ⟨_, rfl, FF.out.2, B4⟩

set_option maxRecDepth 100000 in
set_option maxHeartbeats 8000000 in
theorem specSerialOrder_any (a a' : Option Addr) (cap cap' : Nat) (ns : List Int) (es : List P2) (w : World) (h : RowI w a ns) (h' : RowP w a' es) (hl : ns.length ≤ 1048576) (hl' : es.length ≤ 1048576) (hlc : ns.length ≤ cap) :
    Calls Try.prog 18 #[.slice a ns.length cap, .slice a' es.length cap'] w (RetI w (soL ns es) (soC ns es)) := by
  have HI : Hid (RowI w a ns) := h
  have HP : Hid (RowP w a' es) := h'
  have HC : Hid (soC ns es = if 4096 < ns.length ∨ 4096 < es.length then 2 else if 20 < ns.length ∨ 400 < es.length then 6 else if asB (¬ ns.Nodup) = true then 9 else if (ordV es ns).length < ns.length then 15 else 0) := rfl
  have HD : Hid (soL ns es = if soC ns es = 0 then ordV es ns else []) := rfl
  have HE : Hid (∀ L, ns.length ≤ 20 → es.length ≤ 400 → ns.Nodup → RunV es ns L → DoneV es ns L → soC ns es = (if L.length < ns.length then 15 else 0) ∧ soL ns es = if L.length < ns.length then [] else L) := fun L => so_end
  generalize soC ns es = c at *
  generalize soL ns es = L at *
  obtain ⟨n, hn⟩ : ∃ m, ns.length = m := ⟨_, rfl⟩
  have HN : Hid (ns.length = n) := hn
  obtain ⟨ne, hne⟩ : ∃ m, es.length = m := ⟨_, rfl⟩
  have HNE : Hid (es.length = ne) := hne
  rw [hn, hne] at HC HE
  rw [hn] at hl hlc ⊢
  rw [hne] at hl' ⊢
  clear h h' hn hne
  generalize (ordV es ns).length = oL at HC
  by_cases hA : (4096 : Int) < (n : Int)
  · skip
    have E1 : Hid (c = 2) := by show _ = _; rw [HC.out]; rw [if_pos (by omega)]
    have E2 : Hid (L = []) := by show _ = _; rw [HD.out, E1.out]; rfl
    go_enter Try.func18, Try.ntmps18
    go_wp2
    go_ret2
    rw [E1.out, E2.out]
    exact ⟨_, rfl, OwnI.made w w.heap.size (Nat.le_refl _), (Below.refl _ _).alloc (Nat.le_refl _) _⟩
  by_cases hB : (4096 : Int) < (ne : Int)
  · skip
    have E1 : Hid (c = 2) := by show _ = _; rw [HC.out]; rw [if_pos (by omega)]
    have E2 : Hid (L = []) := by show _ = _; rw [HD.out, E1.out]; rfl
    go_enter Try.func18, Try.ntmps18
    go_wp2
    go_ret2
    rw [E1.out, E2.out]
    exact ⟨_, rfl, OwnI.made w w.heap.size (Nat.le_refl _), (Below.refl _ _).alloc (Nat.le_refl _) _⟩
  by_cases hC : (20 : Int) < (n : Int)
  · skip
    have E1 : Hid (c = 6) := by show _ = _; rw [HC.out]; rw [if_neg (by omega), if_pos (by omega)]
    have E2 : Hid (L = []) := by show _ = _; rw [HD.out, E1.out]; rfl
    go_enter Try.func18, Try.ntmps18
    go_wp2
    go_ret2
    rw [E1.out, E2.out]
    exact ⟨_, rfl, OwnI.made w w.heap.size (Nat.le_refl _), (Below.refl _ _).alloc (Nat.le_refl _) _⟩
  by_cases hD : (400 : Int) < (ne : Int)
  · skip
    have E1 : Hid (c = 6) := by show _ = _; rw [HC.out]; rw [if_neg (by omega), if_pos (by omega)]
    have E2 : Hid (L = []) := by show _ = _; rw [HD.out, E1.out]; rfl
    go_enter Try.func18, Try.ntmps18
    go_wp2
    go_ret2
    rw [E1.out, E2.out]
    exact ⟨_, rfl, OwnI.made w w.heap.size (Nat.le_refl _), (Below.refl _ _).alloc (Nat.le_refl _) _⟩
  have E0 : Hid (c = if asB (¬ ns.Nodup) = true then 9 else if oL < n then 15 else 0) := by show _ = _; rw [HC.out, if_neg (by omega), if_neg (by omega)]
  clear HC
  go_enter Try.func18, Try.ntmps18
  go_wp2
  go_loopw [6] (fun i wr => ∃ k : Nat, k ≤ n ∧ i = .int .i64 k ∧ Hid ((ns.take k).Nodup) ∧ Below w.heap.size w wr) (fun i _ => n - (intOf i).toNat)
  case atStart => exact ⟨0, by omega, rfl, by rw [List.take_zero]; exact List.nodup_nil, Below.refl _ _⟩
  case round =>
    obtain ⟨k, hk, rfl, HND, hbl⟩ := hrel
    by_cases hlt : k < n
    · have hltI : (k : Int) < (n : Int) := by omega
      have hrow := HI.out.below hbl
      have hrow2 := hrow.take k
      obtain ⟨b, off, rfl, hlb, q0⟩ := hrow k (by rw [HN.out]; exact hlt)
      have HYES := nodup_snoc (L := ns) (k := k) (by rw [HN.out]; exact hlt) HND.out
      have HNOT := not_nodup (L := ns) (k := k) (by rw [HN.out]; exact hlt)
      obtain ⟨t, ht⟩ : ∃ t, nthI ns k = t := ⟨_, rfl⟩
      rw [ht] at q0 HYES HNOT
      have hlk : (ns.take k).length = k := by rw [List.length_take, HN.out]; omega
      have hcall : ∀ W : World, RowI W (some ⟨b, off, none⟩) (ns.take k) → Calls Try.prog 76 #[.slice (some ⟨b, off, none⟩) k cap, .int .i64 t] W fun r w' => r = .returned (.bool ((ns.take k).any (fun x => x == t))) ∧ w' = W := fun W hW => by
        have := l03Has_any (some ⟨b, off, none⟩) cap (ns.take k) t W hW (by omega)
        rw [hlk] at this
        exact this
      generalize hany : (ns.take k).any (fun x => x == t) = an at *
      have HCL : Hid (∀ W, StE wr b off k t (ns.take k) W → Calls Try.prog 76 #[.slice (some ⟨b, off, none⟩) k cap, .int .i64 t] W fun r w' => r = .returned (.bool an) ∧ w' = W) := fun W hW => hcall W hW.2.2.1
      have hC' : Hid (StE wr b off k t (ns.take k) wr.drew) := ⟨q0, hlb, hrow2, (Below.refl _ _).drew⟩
      have hwk : IntKind.i64.wrap (k : Int) = (k : Int) := wrap_nat (by omega)
      have hcap : ¬ cap = 0 := by omega
      have hkc : (k : Int) ≤ (cap : Int) := by omega
      have HYES' : Hid (an = false → (ns.take (k + 1)).Nodup) := HYES
      have HNOT' : Hid (an = true → ¬ ns.Nodup) := HNOT
      clear ht hany hcall hrow hrow2 HYES HNOT hlk
      cases an with
      | true =>
        have E1 : Hid (c = 9) := by show _ = _; rw [E0.out, ← asB_true (HNOT'.out rfl)]; rfl
        have E2 : Hid (L = []) := by show _ = _; rw [HD.out, E1.out]; rfl
        go_wp2_with fail
        refine wp_region_class (C := StE wr b off k t (ns.take k)) (by kernel_rfl) (by kernel_rfl) hC'.out ?_
        repeat (first | go_big_quiet_skip | (go_big_quiet_want; apply Exists.intro; refine ⟨?_, ?_⟩; (focus (intro w' hw'; first | (obtain ⟨m0, m1, m2, m3⟩ := hw'; go_simp; with_reducible rfl) | (go_simp; refine (HCL.out w' hw').mono ?_; rintro e w'' ⟨rfl, rfl⟩; exact ⟨rfl, hw'⟩))); (try simp only [Act.put, List.setIfInBounds_toArray, List.set_cons_zero, List.set_cons_succ]); go_big_quiet_on))
        refine wpQuiet_nil ?_
        intro w2 hw2
        have hB2 : Below wr.heap.size wr w2 := hw2.2.2.2
        clear hw2
        have B3 := below_step hbl (Nat.le_refl _) hB2
        have O3 : Hid (OwnI (w2.alloc (.cells #[] 3)) w.heap.size (.slice (some ⟨w2.heap.size, 0, none⟩) 0 0) []) := OwnI.made w2 w.heap.size B3.size
        clear hB2
        go_wp2
        go_ret2
        rw [E1.out, E2.out]
        exact ⟨_, rfl, O3.out, B3.alloc B3.size _⟩
      | false =>
        have HND2 : Hid ((ns.take (k + 1)).Nodup) := HYES'.out rfl
        go_wp2_with fail
        refine wp_region_class (C := StE wr b off k t (ns.take k)) (by kernel_rfl) (by kernel_rfl) hC'.out ?_
        repeat (first | go_big_quiet_skip | (go_big_quiet_want; apply Exists.intro; refine ⟨?_, ?_⟩; (focus (intro w' hw'; first | (obtain ⟨m0, m1, m2, m3⟩ := hw'; go_simp; with_reducible rfl) | (go_simp; refine (HCL.out w' hw').mono ?_; rintro e w'' ⟨rfl, rfl⟩; exact ⟨rfl, hw'⟩))); (try simp only [Act.put, List.setIfInBounds_toArray, List.set_cons_zero, List.set_cons_succ]); go_big_quiet_on))
        refine wpQuiet_nil ?_
        intro w2 hw2
        have hB2 : Below wr.heap.size wr w2 := hw2.2.2.2
        clear hw2
        have B3 := below_step hbl (Nat.le_refl _) hB2
        clear hB2
        go_wp2
        go_roundw
        case rel => exact ⟨k + 1, by omega, by go_num, HND2, B3⟩
        case measure => simp [intOf]; omega
    · obtain rfl : n = k := by omega
      have hnd : ns.Nodup := by have := HND.out; rw [← HN.out, List.take_length] at this; exact this
      have HQ := l08Order_any a a' cap cap' ns es wr (HI.out.below hbl) (HP.out.below hbl) (by rw [HN.out]; omega) (by rw [HNE.out]; omega) hnd
      rw [HN.out, HNE.out] at HQ
      have HND3 : Hid ns.Nodup := hnd
      clear hnd
      go_wp2_with fail
      refine HQ.mono ?_
      rintro e w4 ⟨v, M, c4, rfl, r1, r2, hc4, o4, b4⟩
      obtain ⟨F1, F2⟩ := HE.out M (by omega) (by omega) HND3.out r1 r2
      have B4 := below_step hbl (Nat.le_refl _) b4
      clear HQ r1 r2
      by_cases hM : M.length < n
      · have e4 : c4 = false := by rw [hc4]; exact decide_eq_false (fun q => q hM)
        subst e4
        rw [if_pos hM] at F1 F2
        have FF : Hid (c = 15 ∧ L = []) := ⟨F1, F2⟩
        have O5 : Hid (OwnI (w4.alloc (.cells #[] 3)) w.heap.size (.slice (some ⟨w4.heap.size, 0, none⟩) 0 0) []) := OwnI.made w4 w.heap.size B4.size
        clear F1 F2 hc4 o4 b4
        go_wp2
        go_ret2
        rw [FF.out.1, FF.out.2]
        exact ⟨_, rfl, O5.out, B4.alloc B4.size _⟩
      · have e4 : c4 = true := by rw [hc4]; exact decide_eq_true hM
        subst e4
        rw [if_neg hM] at F1 F2 o4
        have FF : Hid (c = 0 ∧ L = M ∧ OwnI w4 w.heap.size v M) := ⟨F1, F2, own_mono o4 hbl.size⟩
        clear F1 F2 hc4 o4 b4
        go_wp2
        go_ret2
        rw [FF.out.1, FF.out.2.1]
        exact ⟨_, rfl, FF.out.2.2, B4⟩
end Go.Proofs.Ytlcgmifibekegaa
