/- spec.SpaceOK answers whether a space is right (stage 4). -/
import Derived.Test.YtaklphoplfofbaaOkS
namespace Go.Proofs.Ytaklphoplfofbaa
open Go.RowKit

set_option maxRecDepth 100000 in
set_option maxHeartbeats 4000000 in
theorem specSpaceOK_any (t e : Int) (a1 a2 a3 : Option Addr) (c1 c2 c3 : Nat) (ss : List Int) (ps : List P2) (qs : List Int) (w : World) (h1 : RowI w a1 ss) (h2 : RowP w a2 ps) (h3 : RowI w a3 qs) (l1 : ss.length ≤ 1048576) (l2 : ps.length ≤ 1048576) (l3 : qs.length ≤ 1048576) :
    Calls Try.prog 23 #[SV t e (.slice a1 ss.length c1) (.slice a2 ps.length c2) (.slice a3 qs.length c3)] w fun r w' => r = .returned (.bool (asB (OkSp t e ss ps qs))) ∧ Below w.heap.size w w' := by
  have H1 : Hid (RowI w a1 ss) := h1
  have H2 : Hid (RowP w a2 ps) := h2
  have H3 : Hid (RowI w a3 qs) := h3
  clear h1 h2 h3
  obtain ⟨x, hx⟩ : ∃ x, ss.length = x := ⟨_, rfl⟩
  obtain ⟨y, hy⟩ : ∃ y, ps.length = y := ⟨_, rfl⟩
  obtain ⟨z, hz⟩ : ∃ z, qs.length = z := ⟨_, rfl⟩
  have HX : Hid (ss.length = x) := hx
  have HY : Hid (ps.length = y) := hy
  have HZ : Hid (qs.length = z) := hz
  rw [hx] at l1 ⊢
  rw [hy] at l2 ⊢
  rw [hz] at l3 ⊢
  clear hx hy hz
  have B0 : Below w.heap.size w (w.alloc (SC t e (.slice a1 x c1) (.slice a2 y c2) (.slice a3 z c3) 29)) := (Below.refl _ _).alloc (Nat.le_refl _) _
  have X0 : Hid (BoxS w.heap.size t e (.slice a1 x c1) (.slice a2 y c2) (.slice a3 z c3) (w.alloc (SC t e (.slice a1 x c1) (.slice a2 y c2) (.slice a3 z c3) 29))) := BoxS.new 29
  cases q1 : inB t 1 64
  · have H : Hid (¬ OkSp t e ss ps qs) := fun h => inB_f q1 h.1
    go_enter Try.func23, Try.ntmps23
    go_wp2_with (go_at_call 51; refine (l01In_is q1 _).mono ?_; rintro e w' ⟨rfl, rfl⟩)
    go_ret
    exact ⟨ret_bool' (asB_false H.out), B0⟩
  obtain ⟨t0, t1⟩ := inB_t q1
  cases q2 : inB e 0 1000000
  · have H : Hid (¬ OkSp t e ss ps qs) := fun h => inB_f q2 h.2.1
    go_enter Try.func23, Try.ntmps23
    go_wp2_with fail
    refine (l01In_is q1 _).mono ?_
    rintro r w' ⟨rfl, hq⟩
    obtain rfl := hq.symm
    go_wp2_with fail
    refine (l01In_is q2 _).mono ?_
    rintro r w' ⟨rfl, hq⟩
    obtain rfl := hq.symm
    go_wp2
    go_ret
    exact ⟨ret_bool' (asB_false H.out), B0⟩
  obtain ⟨e0, e1⟩ := inB_t q2
  by_cases q3 : t < (x : Int) + (y : Int)
  · have H : Hid (¬ OkSp t e ss ps qs) := fun h => by have := ok_many h; rw [HX.out, HY.out] at this; omega
    go_enter Try.func23, Try.ntmps23
    go_wp2_with fail
    refine (l01In_is q1 _).mono ?_
    rintro r w' ⟨rfl, hq⟩
    obtain rfl := hq.symm
    go_wp2_with fail
    refine (l01In_is q2 _).mono ?_
    rintro r w' ⟨rfl, hq⟩
    obtain rfl := hq.symm
    go_wp2
    go_ret
    exact ⟨ret_bool' (asB_false H.out), B0⟩
  by_cases q4 : 4 < (z : Int)
  · have H : Hid (¬ OkSp t e ss ps qs) := fun h => by have := h.2.2.2.2.2.1; rw [HZ.out] at this; omega
    go_enter Try.func23, Try.ntmps23
    go_wp2_with fail
    refine (l01In_is q1 _).mono ?_
    rintro r w' ⟨rfl, hq⟩
    obtain rfl := hq.symm
    go_wp2_with fail
    refine (l01In_is q2 _).mono ?_
    rintro r w' ⟨rfl, hq⟩
    obtain rfl := hq.symm
    go_wp2
    go_ret
    exact ⟨ret_bool' (asB_false H.out), B0⟩
  obtain ⟨T, rfl⟩ := Int.eq_ofNat_of_zero_le (show 0 ≤ t by omega)
  obtain ⟨i0, hi, hz0, hz1, hz2⟩ := info_parts info4
  go_enter Try.func23, Try.ntmps23
  go_wp2_with fail
  refine (l01In_is q1 _).mono ?_
  rintro r w' ⟨rfl, hq⟩
  obtain rfl := hq.symm
  go_wp2_with fail
  refine (l01In_is q2 _).mono ?_
  rintro r w' ⟨rfl, hq⟩
  obtain rfl := hq.symm
  go_wp2_with (at_make; refine wpList_make_full _ rfl _ _ 86 rfl (w.heap.size + 1) 4 i0 _ 1 Try.underlying86 hi hz0 hz1 .i64 .i64 _ _ T rfl rfl rfl rfl ?m1 ?m2 (by simp) ?_)
  case m1 => rw [hz2]; omega
  case m2 => unfold maxLen; omega
  intro w1 hown hgr
  have hS : Flags w1 (w.heap.size + 1) T (seenI ss 0) := by
    rcases hown.2 with ⟨h, _⟩ | ⟨g, c, cur, h, _, hh, _, _, hcs, hcur⟩
    · cases h
    · have h2 : cur.toList.take T = List.replicate T (.bool false) := by
        simp only [Nat.mul_one] at hcur
        exact hcur.trans (toList_madeCells_one _ _)
      simp at h
      obtain ⟨hg1, hc1⟩ := h
      subst hg1 hc1
      refine ⟨cur, hh, by simpa using hcs, fun j hj => ?_⟩
      have := congrArg (fun l => l[j]?) h2
      simp [hj] at this
      exact this
  have hb1 : Below (w.heap.size + 1) (w.alloc (SC T e (.slice a1 x c1) (.slice a2 y c2) (.slice a3 z c3) 29)) w1 := (Below.refl _ _).grown hgr (by simp) (fun k hk => by cases hk)
  clear hown hgr hi hz0 hz1 hz2 q1 q2
  go_wp2
  go_loopw [4] (fun i wr => ∃ k : Nat, k ≤ x ∧ i = .int .i64 k ∧ RiseI T ss k ∧ Below (w.heap.size + 1) (w.alloc (SC T e (.slice a1 x c1) (.slice a2 y c2) (.slice a3 z c3) 29)) wr ∧ Flags wr (w.heap.size + 1) T (seenI ss k)) (fun i _ => x - (intOf i).toNat)
  case atStart => exact ⟨0, by omega, rfl, ⟨fun i hi => by omega, fun i hi => by omega⟩, hb1, hS⟩
  case round =>
    clear hS hb1
    obtain ⟨k, hk, rfl, hR, hbl, hF⟩ := hrel
    have HR : Hid (RiseI T ss k) := hR
    have HF : Hid (Flags wr (w.heap.size + 1) T (seenI ss k)) := hF
    have BB := B0.trans (hbl.mono (by omega))
    obtain ⟨x0, x1, x2, x3, x4, x5⟩ := X0.out.below hbl (by omega)
    clear hR hF
    by_cases hlt : k < x
    · have hr := H1.out.below BB
      obtain ⟨b, off, rfl, hlb, hc⟩ := hr k (by rw [HX.out]; exact hlt)
      obtain ⟨u, hu⟩ : ∃ u, nthI ss k = u := ⟨_, rfl⟩
      have HU : Hid (nthI ss k = u) := hu
      rw [hu] at hc
      clear hu
      have hltI : (k : Int) < (x : Int) := by omega
      cases qi : inB u 0 ((T : Int) - 1)
      · have H : Hid (¬ OkSp T e ss ps qs) := fun h => by have h2 := h.2.2.1.1 k (by rw [HX.out]; exact hlt); rw [HU.out] at h2; exact inB_f qi (by omega)
        go_wp2_with fail
        go_quiet ((go_at_call 51; exact Calls.quiet_of_same (l01In_is qi _)))
        go_wp2
        go_ret
        exact ⟨ret_bool' (asB_false H.out), below_drewN BB _⟩
      obtain ⟨u0, u1⟩ := inB_t qi
      obtain ⟨p, rfl⟩ := Int.eq_ofNat_of_zero_le u0
      have hpT : p < T := by omega
      have hfc := HF.out.cell hpT
      cases qs1 : seenI ss k p
      · rw [qs1] at hfc
        have hff := HF.out.free p
        cases k with
        | zero =>
          have hc0 : wr.cell? ⟨b, off, none⟩ = some (.int .i64 p) := hc
          have HN : Hid (RiseI T ss 1) := HR.out.step (by rw [HU.out]; show -1 < (p : Int); omega) (by rw [HU.out]; omega)
          have HG : Hid (Flags (wr.setCell ⟨w.heap.size + 1, p, none⟩ (.bool true)) (w.heap.size + 1) T (seenI ss 1)) := HF.out.set hpT (fun j => by show (seenI ss 0 j || nthI ss 0 == (j : Int)) = _; rw [HU.out])
          have HB : Hid (Below (w.heap.size + 1) (w.alloc (SC T e (.slice (some ⟨b, off, none⟩) x c1) (.slice a2 y c2) (.slice a3 z c3) 29)) (wr.setCell ⟨w.heap.size + 1, p, none⟩ (.bool true))) := hbl.setCell (p := ⟨w.heap.size + 1, p, none⟩) (Nat.le_refl _) _
          go_wp2_with fail
          go_quiet ((go_at_call 51; exact Calls.quiet_of_same (l01In_is qi _)))
          go_wp2
          go_roundw
          case rel => exact ⟨1, by omega, by go_num, HN.out, below_drewN HB.out _, HG.out⟩
          case measure => simp [intOf]; omega
        | succ m =>
          obtain ⟨b', off', eb, hlb', hc'⟩ := hr m (by rw [HX.out]; omega)
          cases eb
          have hm1 : ((m + 1 : Nat) : Int) - 1 = (m : Int) := by omega
          have hpos : (0 : Int) < ((m + 1 : Nat) : Int) := by omega
          have hmx : (m : Int) < (x : Int) := by omega
          by_cases qp : (p : Int) ≤ nthI ss m
          · have H : Hid (¬ OkSp T e ss ps qs) := fun h => by have h2 := h.2.2.1.2 m (by rw [HX.out]; exact hlt); rw [HU.out] at h2; omega
            go_wp2_with fail
            go_quiet ((go_at_call 51; exact Calls.quiet_of_same (l01In_is qi _)))
            go_wp2
            go_ret
            exact ⟨ret_bool' (asB_false H.out), below_drewN BB _⟩
          have HN : Hid (RiseI T ss (m + 1 + 1)) := HR.out.step (by rw [HU.out]; show nthI ss m < (p : Int); omega) (by rw [HU.out]; omega)
          have HG : Hid (Flags (wr.setCell ⟨w.heap.size + 1, p, none⟩ (.bool true)) (w.heap.size + 1) T (seenI ss (m + 1 + 1))) := HF.out.set hpT (fun j => by show (seenI ss (m + 1) j || nthI ss (m + 1) == (j : Int)) = _; rw [HU.out])
          have HB : Hid (Below (w.heap.size + 1) (w.alloc (SC T e (.slice (some ⟨b, off, none⟩) x c1) (.slice a2 y c2) (.slice a3 z c3) 29)) (wr.setCell ⟨w.heap.size + 1, p, none⟩ (.bool true))) := hbl.setCell (p := ⟨w.heap.size + 1, p, none⟩) (Nat.le_refl _) _
          go_wp2_with fail
          go_quiet ((go_at_call 51; exact Calls.quiet_of_same (l01In_is qi _)))
          go_wp2
          go_roundw
          case rel => exact ⟨m + 1 + 1, by omega, by go_num, HN.out, below_drewN HB.out _, HG.out⟩
          case measure => simp [intOf]; omega
      · rw [qs1] at hfc
        have H : Hid (¬ OkSp T e ss ps qs) := fun h => by
          obtain ⟨i, hi, ei⟩ := (seenI_iff ss p k).1 qs1
          have := rise_lt' h.2.2.1.2 hi (by rw [HX.out]; exact hlt)
          rw [HU.out, ei] at this
          omega
        go_wp2_with fail
        go_quiet ((go_at_call 51; exact Calls.quiet_of_same (l01In_is qi _)))
        go_wp2
        go_ret
        exact ⟨ret_bool' (asB_false H.out), below_drewN BB _⟩
    · obtain rfl : k = x := by omega
      have RI : Hid (RiseI T ss ss.length) := by show RiseI _ _ _; rw [HX.out]; exact HR.out
      have FI : Hid (Flags wr (w.heap.size + 1) T (seenP ss ps 0)) := by
        show Flags _ _ _ (seenI ss ss.length)
        rw [HX.out]
        exact HF.out
      have BI : Hid (Below (w.heap.size + 1) (w.alloc (SC T e (.slice a1 k c1) (.slice a2 y c2) (.slice a3 z c3) 29)) wr) := hbl
      clear HR HF hbl BB
      have wT : Hid (IntKind.i64.wrap ((T : Int) - 1) = (T : Int) - 1) := by show _ = _; rw [IntKind.wrap_i64]; omega
      have wE : Hid (IntKind.i64.wrap (e - 1) = e - 1) := by show _ = _; rw [IntKind.wrap_i64]; omega
      go_wp2
      clear x0 x1 x2 x3 x4 x5
      go_loopw [5, 6] (fun i _ wr => ∃ k' : Nat, k' ≤ y ∧ i = .int .i64 k' ∧ RiseP T e ps k' ∧ (∀ i, i < ss.length → ∀ j, j < k' → nthI ss i ≠ (nthP ps j).1) ∧ Below (w.heap.size + 1) (w.alloc (SC T e (.slice a1 k c1) (.slice a2 y c2) (.slice a3 z c3) 29)) wr ∧ Flags wr (w.heap.size + 1) T (seenP ss ps k')) (fun i _ _ => y - (intOf i).toNat)
      case atStart => exact ⟨0, by omega, rfl, ⟨fun i hi => by omega, fun i hi => by omega⟩, fun i _ j hj => by omega, BI.out, FI.out⟩
      case round =>
        clear BI FI
        obtain ⟨k', hk', rfl, hR, hD, hbl, hF⟩ := hrel
        have HR : Hid (RiseP T e ps k') := hR
        have HD : Hid (∀ i, i < ss.length → ∀ j, j < k' → nthI ss i ≠ (nthP ps j).1) := hD
        have HF : Hid (Flags wr (w.heap.size + 1) T (seenP ss ps k')) := hF
        have BB := B0.trans (hbl.mono (by omega))
        obtain ⟨x0, x1, x2, x3, x4, x5⟩ := X0.out.below hbl (by omega)
        clear hR hD hF
        by_cases hlt' : k' < y
        · have hr := H2.out.below BB
          obtain ⟨b, off, rfl, hlb, hc0, hc1⟩ := hr k' (by rw [HY.out]; exact hlt')
          obtain ⟨q, hq⟩ : ∃ q, nthP ps k' = q := ⟨_, rfl⟩
          obtain ⟨u, v⟩ := q
          have HU : Hid (nthP ps k' = (u, v)) := hq
          rw [hq] at hc0 hc1
          clear hq
          have hltI : (k' : Int) < (y : Int) := by omega
          have BBa : Below w.heap.size w (wr.alloc (.cells #[.int .i64 u, .int .i64 v] 88)) := BB.alloc BB.size _
          have hbla : Below (w.heap.size + 1) (w.alloc (SC T e (.slice a1 k c1) (.slice (some ⟨b, off, none⟩) y c2) (.slice a3 z c3) 29)) (wr.alloc (.cells #[.int .i64 u, .int .i64 v] 88)) := hbl.alloc (by omega) _
          have hne : wr.heap.size ≠ w.heap.size := by omega
          have hne2 : wr.heap.size ≠ b := by omega
          cases qe : inB v 0 (e - 1)
          · have H : Hid (¬ OkSp T e ss ps qs) := fun h => by have h2 := (h.2.2.2.1.1 k' (by rw [HY.out]; exact hlt')).2; rw [HU.out] at h2; exact inB_f qe (by omega)
            cases qi : inB u 0 ((T : Int) - 1)
            · go_wp2_with fail
              go_quiet ((go_at_call 51; (try rw [wT.out]); (try rw [wE.out]); first | with_reducible exact Calls.quiet_of_same (l01In_is qi _) | with_reducible exact Calls.quiet_of_same (l01In_is qe _)))
              go_wp2
              go_ret
              exact ⟨ret_bool' (asB_false H.out), below_drewN BBa _⟩
            obtain ⟨u0, u1⟩ := inB_t qi
            obtain ⟨p, rfl⟩ := Int.eq_ofNat_of_zero_le u0
            have hpT : p < T := by omega
            have hfc := HF.out.cell hpT
            have hl3 : w.heap.size + 1 < wr.heap.size := HF.out.lt
            cases qs1 : seenP ss ps k' p
            · rw [qs1] at hfc
              go_wp2_with fail
              go_quiet ((go_at_call 51; (try rw [wT.out]); (try rw [wE.out]); first | with_reducible exact Calls.quiet_of_same (l01In_is qi _) | with_reducible exact Calls.quiet_of_same (l01In_is qe _)))
              go_wp2
              go_ret
              exact ⟨ret_bool' (asB_false H.out), below_drewN BBa _⟩
            · rw [qs1] at hfc
              go_wp2_with fail
              go_quiet ((go_at_call 51; (try rw [wT.out]); (try rw [wE.out]); first | with_reducible exact Calls.quiet_of_same (l01In_is qi _) | with_reducible exact Calls.quiet_of_same (l01In_is qe _)))
              go_wp2
              go_ret
              exact ⟨ret_bool' (asB_false H.out), below_drewN BBa _⟩
          obtain ⟨v0, v1⟩ := inB_t qe
          cases qi : inB u 0 ((T : Int) - 1)
          · have H : Hid (¬ OkSp T e ss ps qs) := fun h => by have h2 := (h.2.2.2.1.1 k' (by rw [HY.out]; exact hlt')).1; rw [HU.out] at h2; exact inB_f qi (by omega)
            go_wp2_with fail
            go_quiet ((go_at_call 51; (try rw [wT.out]); (try rw [wE.out]); first | with_reducible exact Calls.quiet_of_same (l01In_is qi _) | with_reducible exact Calls.quiet_of_same (l01In_is qe _)))
            go_wp2
            go_ret
            exact ⟨ret_bool' (asB_false H.out), below_drewN BBa _⟩
          obtain ⟨u0, u1⟩ := inB_t qi
          obtain ⟨p, rfl⟩ := Int.eq_ofNat_of_zero_le u0
          have hpT : p < T := by omega
          have hfc := HF.out.cell hpT
          have hff := HF.out.free p
          have hl3 : w.heap.size + 1 < wr.heap.size := HF.out.lt
          cases qs1 : seenP ss ps k' p
          · rw [qs1] at hfc
            have ND : Hid (∀ i, i < ss.length → nthI ss i ≠ (p : Int)) := fun i hi ei => by
              have := (seenP_iff ss ps p k').2 (.inl ⟨i, hi, ei⟩)
              rw [qs1] at this
              cases this
            cases k' with
            | zero =>
              have hc00 : wr.cell? ⟨b, off, none⟩ = some (.int .i64 p) := by have := hc0; simpa using this
              have hc11 : wr.cell? ⟨b, off + 1, none⟩ = some (.int .i64 v) := by have := hc1; simpa using this
              have HN : Hid (RiseP T e ps (0 + 1)) := HR.out.step (by rw [HU.out]; show -1 < (p : Int); omega) (by rw [HU.out]; show (p : Int) < T; omega) (by rw [HU.out]; show 0 ≤ v; omega) (by rw [HU.out]; show v < e; omega)
              have HDN : Hid (∀ i, i < ss.length → ∀ j, j < 0 + 1 → nthI ss i ≠ (nthP ps j).1) := fun i hi j hj => by
                by_cases ej : j = 0
                · subst ej; rw [HU.out]; exact ND.out i hi
                · exact HD.out i hi j (by omega)
              have HG : Hid (Flags ((wr.alloc (.cells #[.int .i64 p, .int .i64 v] 88)).setCell ⟨w.heap.size + 1, p, none⟩ (.bool true)) (w.heap.size + 1) T (seenP ss ps (0 + 1))) := (HF.out.alloc _).set hpT (fun j => by show (seenP ss ps 0 j || (nthP ps 0).1 == (j : Int)) = _; rw [HU.out])
              have HB : Hid (Below (w.heap.size + 1) (w.alloc (SC T e (.slice a1 k c1) (.slice (some ⟨b, off, none⟩) y c2) (.slice a3 z c3) 29)) ((wr.alloc (.cells #[.int .i64 p, .int .i64 v] 88)).setCell ⟨w.heap.size + 1, p, none⟩ (.bool true))) := hbla.setCell (p := ⟨w.heap.size + 1, p, none⟩) (Nat.le_refl _) _
              go_wp2_with fail
              go_quiet ((go_at_call 51; (try rw [wT.out]); (try rw [wE.out]); first | with_reducible exact Calls.quiet_of_same (l01In_is qi _) | with_reducible exact Calls.quiet_of_same (l01In_is qe _)))
              go_wp2
              go_roundw
              case rel => exact ⟨0 + 1, by omega, by go_num, HN.out, HDN.out, below_drewN HB.out _, HG.out⟩
              case measure => simp [intOf]; omega
            | succ m =>
              obtain ⟨b', off', eb, hlb', hc0', hc1'⟩ := hr m (by rw [HY.out]; omega)
              cases eb
              have hm1 : ((m + 1 : Nat) : Int) - 1 = (m : Int) := by omega
              have hpos : (0 : Int) < ((m + 1 : Nat) : Int) := by omega
              have hmx : (m : Int) < (y : Int) := by omega
              by_cases qp : (p : Int) ≤ (nthP ps m).1
              · have H : Hid (¬ OkSp T e ss ps qs) := fun h => by have h2 := h.2.2.2.1.2 m (by rw [HY.out]; exact hlt'); rw [HU.out] at h2; simp only at h2; omega
                go_wp2_with fail
                go_quiet ((go_at_call 51; (try rw [wT.out]); (try rw [wE.out]); first | with_reducible exact Calls.quiet_of_same (l01In_is qi _) | with_reducible exact Calls.quiet_of_same (l01In_is qe _)))
                go_wp2
                go_ret
                exact ⟨ret_bool' (asB_false H.out), below_drewN BBa _⟩
              have HN : Hid (RiseP T e ps ((m + 1) + 1)) := HR.out.step (by rw [HU.out]; show (nthP ps m).1 < (p : Int); omega) (by rw [HU.out]; show (p : Int) < T; omega) (by rw [HU.out]; show 0 ≤ v; omega) (by rw [HU.out]; show v < e; omega)
              have HDN : Hid (∀ i, i < ss.length → ∀ j, j < (m + 1) + 1 → nthI ss i ≠ (nthP ps j).1) := fun i hi j hj => by
                by_cases ej : j = (m + 1)
                · subst ej; rw [HU.out]; exact ND.out i hi
                · exact HD.out i hi j (by omega)
              have HG : Hid (Flags ((wr.alloc (.cells #[.int .i64 p, .int .i64 v] 88)).setCell ⟨w.heap.size + 1, p, none⟩ (.bool true)) (w.heap.size + 1) T (seenP ss ps ((m + 1) + 1))) := (HF.out.alloc _).set hpT (fun j => by show (seenP ss ps (m + 1) j || (nthP ps (m + 1)).1 == (j : Int)) = _; rw [HU.out])
              have HB : Hid (Below (w.heap.size + 1) (w.alloc (SC T e (.slice a1 k c1) (.slice (some ⟨b, off, none⟩) y c2) (.slice a3 z c3) 29)) ((wr.alloc (.cells #[.int .i64 p, .int .i64 v] 88)).setCell ⟨w.heap.size + 1, p, none⟩ (.bool true))) := hbla.setCell (p := ⟨w.heap.size + 1, p, none⟩) (Nat.le_refl _) _
              go_wp2_with fail
              go_quiet ((go_at_call 51; (try rw [wT.out]); (try rw [wE.out]); first | with_reducible exact Calls.quiet_of_same (l01In_is qi _) | with_reducible exact Calls.quiet_of_same (l01In_is qe _)))
              go_wp2
              go_roundw
              case rel => exact ⟨(m + 1) + 1, by omega, by go_num, HN.out, HDN.out, below_drewN HB.out _, HG.out⟩
              case measure => simp [intOf]; omega
          · rw [qs1] at hfc
            have H : Hid (¬ OkSp T e ss ps qs) := fun h => by
              rcases (seenP_iff ss ps p k').1 qs1 with ⟨i, hi, ei⟩ | ⟨i, hi, ei⟩
              · exact h.2.2.2.2.1 i hi k' (by rw [HY.out]; exact hlt') (by rw [HU.out]; exact ei)
              · have := rise_lt' (f := fun i => (nthP ps i).1) h.2.2.2.1.2 hi (by rw [HY.out]; exact hlt')
                simp only [HU.out, ei] at this
                omega
            go_wp2_with fail
            go_quiet ((go_at_call 51; (try rw [wT.out]); (try rw [wE.out]); first | with_reducible exact Calls.quiet_of_same (l01In_is qi _) | with_reducible exact Calls.quiet_of_same (l01In_is qe _)))
            go_wp2
            go_ret
            exact ⟨ret_bool' (asB_false H.out), below_drewN BBa _⟩
        · obtain rfl : k' = y := by omega
          have RP : Hid (RiseP T e ps ps.length) := by show RiseP _ _ _ _; rw [HY.out]; exact HR.out
          have DJ : Hid (∀ i, i < ss.length → ∀ j, j < ps.length → nthI ss i ≠ (nthP ps j).1) := by show ∀ i, _ → ∀ j, _ → _; rw [HY.out]; exact HD.out
          have BI : Hid (Below (w.heap.size + 1) (w.alloc (SC T e (.slice a1 k c1) (.slice a2 k' c2) (.slice a3 z c3) 29)) wr) := hbl
          clear HR HD HF hbl BB wT wE
          go_wp2
          clear x0 x1 x2 x3 x4 x5
          go_loopw [7] (fun i wr => ∃ n : Nat, n ≤ z ∧ i = .int .i64 n ∧ (∀ j, j < n → 0 ≤ nthI qs j ∧ nthI qs j ≤ e) ∧ Below (w.heap.size + 1) (w.alloc (SC T e (.slice a1 k c1) (.slice a2 k' c2) (.slice a3 z c3) 29)) wr) (fun i _ => z - (intOf i).toNat)
          case atStart => exact ⟨0, by omega, rfl, fun j hj => by omega, BI.out⟩
          case round =>
            clear BI
            obtain ⟨n, hn, rfl, hA, hbl⟩ := hrel
            have HA : Hid (∀ j, j < n → 0 ≤ nthI qs j ∧ nthI qs j ≤ e) := hA
            have BB := B0.trans (hbl.mono (by omega))
            obtain ⟨x0, x1, x2, x3, x4, x5⟩ := X0.out.below hbl (by omega)
            clear hA
            by_cases hlt' : n < z
            · obtain ⟨b, off, rfl, hlb, hc⟩ := (H3.out.below BB) n (by rw [HZ.out]; exact hlt')
              obtain ⟨u, hu⟩ : ∃ u, nthI qs n = u := ⟨_, rfl⟩
              have HU : Hid (nthI qs n = u) := hu
              rw [hu] at hc
              clear hu
              have hltI : (n : Int) < (z : Int) := by omega
              cases qi : inB u 0 e
              · have H : Hid (¬ OkSp T e ss ps qs) := fun h => by have h2 := h.2.2.2.2.2.2 n (by rw [HZ.out]; exact hlt'); rw [HU.out] at h2; exact inB_f qi h2
                go_wp2_with fail
                go_quiet ((go_at_call 51; exact Calls.quiet_of_same (l01In_is qi _)))
                go_wp2
                go_ret
                exact ⟨ret_bool' (asB_false H.out), below_drewN BB _⟩
              · have HN : Hid (∀ j, j < n + 1 → 0 ≤ nthI qs j ∧ nthI qs j ≤ e) := all_step' (P := fun j => 0 ≤ nthI qs j ∧ nthI qs j ≤ e) HA.out (by rw [HU.out]; exact inB_t qi)
                go_wp2_with fail
                go_quiet ((go_at_call 51; exact Calls.quiet_of_same (l01In_is qi _)))
                go_wp2
                go_roundw
                case rel => exact ⟨n + 1, by omega, by go_num, HN.out, below_drewN hbl _⟩
                case measure => simp [intOf]; omega
            · obtain rfl : n = z := by omega
              have H : Hid (OkSp T e ss ps qs) := ⟨⟨t0, t1⟩, ⟨e0, e1⟩, RI.out, RP.out, DJ.out, by rw [HZ.out]; omega, by rw [HZ.out]; exact HA.out⟩
              go_wp2
              go_ret
              exact ⟨ret_bool' (asB_true H.out), BB⟩
end Go.Proofs.Ytaklphoplfofbaa
