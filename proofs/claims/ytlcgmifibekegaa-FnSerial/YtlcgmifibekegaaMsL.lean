/- The law on conflict serializability (stage 8). -/
import Derived.Test.YtlcgmifibekegaaHiB
import Derived.Test.YtlcgmifibekegaaRdD
import Derived.Test.YtlcgmifibekegaaSrD
namespace Go.Proofs.Ytlcgmifibekegaa
open Go.RowKit

theorem HistP.small {ss : List TH} (h : HistP ss) : ∀ i, i < ss.length → (nthH ss i).2.2.1.size ≤ 200 ∧ (nthH ss i).2.2.2.size ≤ 200 := fun i hi => by
  obtain ⟨_, q⟩ := (h.2 i hi).1.1
  unfold KeyP at q
  rcases q with q | q | q <;> exact ⟨by omega, by omega⟩
theorem HistP.code {ss : List TH} (h : HistP ss) : hisC ss = 0 := by
  unfold hisC
  rw [if_neg (by have := h.1; omega), if_pos (asB_true h).symm]
theorem historyOf_any {w : World} {a : Option Addr} {cap : Nat} {l : List UInt8} (h : ReadL w a l) (hlen : l.length ≤ 1048576) :
    Calls Try.prog 13 #[.slice a l.length cap] w fun e w' => ∃ v ss, e = .returned v ∧ OwnH w' w.heap.size v ss ∧ HistP ss ∧ Below w.heap.size w w' := by
  have hsrc := source_any (cap := cap) h (by omega)
  have HCB : ∀ i, i < l.length → ∃ cb off, a = some ⟨cb, off, none⟩ ∧ cb < w.heap.size + 1 := fun i hi => by
    obtain ⟨b, off, e, hlt, _⟩ := h i hi
    exact ⟨b, off, e, by omega⟩
  have hhis : ∀ w1, Src w1 w.heap.size a l.length cap 0 → Calls Try.prog 66 #[.pointer (some ⟨w.heap.size, 0, none⟩)] w1 fun e w' => ∃ v ss, e = .returned v ∧ OwnH w' w.heap.size v ss ∧ HistP ss ∧ Below w.heap.size w1 w' := fun w1 hs => history_any hs HCB
  clear h HCB
  generalize l.length = len at *
  go_enter Try.func13, Try.ntmps13
  go_wp2_with fail
  refine hsrc.mono ?_
  rintro e w1 ⟨rfl, hs1, hz1, b1⟩
  have hc := hhis w1 hs1
  clear hsrc hhis hs1
  go_wp2_with fail
  refine hc.mono ?_
  rintro e w2 ⟨v, ss, rfl, o2, hp, b2⟩
  have HF : Hid (OwnH w2 w.heap.size v ss ∧ HistP ss ∧ Below w.heap.size w w2) := ⟨o2, hp, b1.trans b2⟩
  clear hc o2 hp b2
  go_wp2
  go_ret
  exact ⟨_, ss, rfl, HF.out⟩
theorem sameE_own {w : World} {B B' : Nat} {v v' : Value} {l : List TY} (h : OwnY w B v l) (h' : OwnY w B' v' l) (hl : l.length ≤ 1048576) : Calls Try.prog 23 #[v, v'] w fun r w' => r = .returned (.bool true) ∧ Below w.heap.size w w' := by
  obtain ⟨a, c, rfl, r⟩ := h.row
  obtain ⟨a', c', rfl, r'⟩ := h'.row
  exact sameE_same a a' c c' l w r r' hl
theorem own_cap {w : World} {B : Nat} {v : Value} {l : List Int} {a : Option Addr} {c : Nat} (h : OwnI w B v l) (e : v = .slice a l.length c) : l.length ≤ c := by
  rcases h.2 with ⟨q, q2⟩ | ⟨g, cc, cur, q, _, _, q3, _⟩
  · omega
  · rw [q] at e; cases e; exact q3
/-- What one by one the history is. -/
theorem one_by_one {ss : List TH} (hp : HistP ss) (h : soC (cmL ss) (cfL ss) = 0) : ∃ one : List TH, shC ss (soL (cmL ss) (cfL ss)) = 0 ∧ shL ss (soL (cmL ss) (cfL ss)) = one ∧ HistP one ∧ (plV one).2 = (plV ss).2 ∧ ∀ t, rdsT t (comO one) = rdsT t (comO ss) := by
  obtain ⟨L, e, hr, hl, h4⟩ := order_is h
  rw [e]
  have h0 := hp.code
  obtain ⟨q1, q2, q3, q4⟩ := serial_law hp h0 hr hl
  have hc : shC ss L = 0 := by
    unfold shC
    rw [if_neg (by omega), if_neg (by rw [h0]; simp), if_neg (by rw [show asB (¬ L.Nodup) = false from (asB_false (fun hh => hh hr.nodup)).symm]; decide)]
  have hs : shL ss L = L.flatMap fun t => ss.filter fun x => x.1 == t := by
    unfold shL shA selT
    rw [if_pos hc, List.take_length, List.take_length]
  refine ⟨_, hc, hs, q1, ?_, fun t => ?_⟩
  · unfold plV
    rw [if_pos q1.code, if_pos h0]
    have e1 : selL (comF (L.flatMap fun t => ss.filter fun x => x.1 == t) (L.flatMap fun t => ss.filter fun x => x.1 == t).length) (L.flatMap fun t => ss.filter fun x => x.1 == t) (L.flatMap fun t => ss.filter fun x => x.1 == t).length = L.flatMap fun t => ss.filter fun x => x.1 == t := q2
    rw [e1]
    exact q3
  · rw [q2]; exact q4 t

set_option maxRecDepth 100000 in
set_option maxHeartbeats 8000000 in
theorem lawSerial (a : Option Addr) (cap : Nat) (l : List UInt8) (w : World) (h : ReadL w a l) (hl : l.length ≤ maxLen) :
    Calls Try.prog 3 #[.slice a l.length cap] w fun r w' => r = .returned (.bool true) ∧ Below w.heap.size w w' := by
  unfold maxLen at hl
  by_cases h20 : (1048576 : Int) < (l.length : Int)
  · clear h
    generalize l.length = len at *
    go_enter Try.func3, Try.ntmps3
    go_wp2
    go_ret
    exact ⟨rfl, Below.refl _ _⟩
  have hg := historyOf_any (cap := cap) h (by omega)
  clear h
  generalize l.length = len at *
  go_enter Try.func3, Try.ntmps3
  go_wp2_with fail
  refine hg.mono ?_
  rintro e W1 ⟨v3, ss, rfl, o3, hp, B1⟩
  clear hg
  have hsm := hp.small
  obtain ⟨a3, c3, e3, r3⟩ := o3.row (fun i hi => by have := hsm i hi; unfold maxLen; exact ⟨by omega, by omega⟩)
  have h0 := hp.code
  have h60 := hp.1
  have HC14 : Hid (∀ W, Below W1.heap.size W1 W → Calls Try.prog 14 #[.slice a3 ss.length c3] W (RetI W (cmL ss) 0)) := fun W hW => h0 ▸ implCommitted_any a3 c3 ss W (r3.below hW) (by omega)
  have HC15 : Hid (∀ W, Below W1.heap.size W1 W → Calls Try.prog 15 #[.slice a3 ss.length c3] W (RetP W (cfL ss) 0)) := fun W hW => h0 ▸ implConflicts_any a3 c3 ss W (r3.below hW) (by omega) (fun i hi => by have := hsm i hi; exact ⟨by omega, by omega⟩)
  have HC16 : Hid (∀ W, Below W1.heap.size W1 W → Calls Try.prog 16 #[.slice a3 ss.length c3] W (RetP W (cfL ss) 0)) := fun W hW => h0 ▸ specConflicts_any a3 c3 ss W (r3.below hW) (by omega)
  have HC20 : Hid (∀ W, Below W1.heap.size W1 W → Calls Try.prog 20 #[.slice a3 ss.length c3] W fun e w' => e = .returned (.bool true) ∧ Below W.heap.size W w') := fun W hW => (asB_true hp) ▸ implHistoryOK_any a3 c3 ss W (r3.below hW) (by omega)
  have HC22 : Hid (∀ W, Below W1.heap.size W1 W → Calls Try.prog 22 #[.slice a3 ss.length c3] W (RetPl W (plV ss) 0)) := fun W hW => h0 ▸ implPlayHistory_any a3 c3 ss W (r3.below hW) (by omega)
  have HC24 : Hid (∀ W tx, Below W1.heap.size W1 W → Calls Try.prog 24 #[.slice a3 ss.length c3, .int .i64 tx] W fun e w' => ∃ v, e = .returned v ∧ OwnS w' W.heap.size v (rdsT tx (comO ss)) ∧ Below W.heap.size W w') := fun W tx hW => reads_any a3 c3 ss tx W (r3.below hW) h0
  have HC21 : Hid (∀ W a' c' ord, Below W1.heap.size W1 W → RowI W a' ord → ord.length ≤ 1048576 → Calls Try.prog 21 #[.slice a3 ss.length c3, .slice a' ord.length c'] W (RetH W (shL ss ord) (shC ss ord))) := fun W a' c' ord hW hI ho => implSerialHistory_any a3 a' c3 c' ss ord W (r3.below hW) hI (by omega) ho
  have HONE : Hid (soC (cmL ss) (cfL ss) = 0 → ∃ one : List TH, shC ss (soL (cmL ss) (cfL ss)) = 0 ∧ shL ss (soL (cmL ss) (cfL ss)) = one ∧ HistP one ∧ (plV one).2 = (plV ss).2 ∧ ∀ t, rdsT t (comO one) = rdsT t (comO ss)) := one_by_one hp
  have HTWO := code_two ss
  have hpl := plV_len ss
  have hrl : ∀ t, (rdsT t (comO ss)).length ≤ 60 := fun t => by
    have h1 := rdsT_len t (comO ss)
    have h2 : (comO ss).length ≤ ss.length := selL_len _ _ _
    omega
  have HRL : Hid (∀ t, (rdsT t (comO ss)).length ≤ 60) := hrl
  have hln := cmL_len ss
  have hle := cfL_len ss
  have hll := soL_len (cmL ss) (cfL ss)
  subst e3
  obtain ⟨n3, hn3⟩ : ∃ m, ss.length = m := ⟨_, rfl⟩
  rw [hn3] at HC14 HC15 HC16 HC20 HC22 HC24 HC21 h60 ⊢
  clear o3 r3 hn3 hp h0 hsm hrl
  obtain ⟨ns, hns⟩ : ∃ x, cmL ss = x := ⟨_, rfl⟩
  obtain ⟨es, hes⟩ : ∃ x, cfL ss = x := ⟨_, rfl⟩
  rw [hns] at HC14 HONE HTWO hln hll
  rw [hes] at HC15 HC16 HONE HTWO hle hll
  clear hns hes
  obtain ⟨L, hL⟩ : ∃ x, soL ns es = x := ⟨_, rfl⟩
  obtain ⟨cd, hcd⟩ : ∃ x, soC ns es = x := ⟨_, rfl⟩
  have HSO : Hid (soL ns es = L ∧ soC ns es = cd) := ⟨hL, hcd⟩
  rw [hL] at HONE hll
  rw [hcd] at HONE HTWO
  clear hL hcd
  go_wp2_with fail
  refine (HC14.out W1 (Below.refl _ _)).mono ?_
  rintro e W2 ⟨v4, rfl, o4, b2⟩
  have D2 : Below W1.heap.size W1 W2 := b2
  obtain ⟨a4, c4, e4, r4, _⟩ := o4.row
  have hnc := own_cap o4 e4
  subst e4
  have H4 : Hid (RowI W2 a4 ns) := r4
  obtain ⟨nn, hnn⟩ : ∃ m, ns.length = m := ⟨_, rfl⟩
  have HNN : Hid (ns.length = nn) := hnn
  rw [hnn] at hnc hln ⊢
  clear o4 r4 hnn b2
  go_wp2_with fail
  refine (HC15.out W2 D2).mono ?_
  rintro e W3 ⟨v6, rfl, o6, b3⟩
  have D3 := below_step D2 (Nat.le_refl _) b3
  obtain ⟨a6, c6, e6, r6⟩ := o6.row
  subst e6
  have H6 : Hid (RowP W3 a6 es) := r6
  obtain ⟨ne, hne⟩ : ∃ m, es.length = m := ⟨_, rfl⟩
  have HNE : Hid (es.length = ne) := hne
  rw [hne] at hle ⊢
  have H43 : Hid (RowI W3 a4 ns) := H4.out.below b3
  clear o6 r6 b3 H4
  go_wp2_with fail
  refine (HC16.out W3 D3).mono ?_
  rintro e W4 ⟨v8, rfl, o8, b4⟩
  have D4 := below_step D3 (Nat.le_refl _) b4
  obtain ⟨a8, c8, e8, r8⟩ := o8.row
  rw [hne] at e8
  subst e8
  have H8 : Hid (RowP W4 a8 es) := r8
  have H44 : Hid (RowI W4 a4 ns) := H43.out.below b4
  have HC17 : Calls Try.prog 17 #[.slice a4 nn c4, .slice a6 ne c6] W4 (RetI W4 L cd) := by
    have := implSerialOrder_any a4 a6 c4 c6 ns es W4 H44.out (H6.out.below b4) (by rw [HNN.out]; omega) (by omega)
    rw [HNN.out, hne, HSO.out.1, HSO.out.2] at this
    exact this
  clear o8 r8 b4 H43 H6 HC16
  go_wp2_with fail
  refine HC17.mono ?_
  rintro e W5 ⟨v10, rfl, o10, b5⟩
  have D5 := below_step D4 (Nat.le_refl _) b5
  have H10 : Hid (OwnI W5 W4.heap.size v10 L) := o10
  have H45 : Hid (RowI W5 a4 ns) := H44.out.below b5
  have HC18 : Calls Try.prog 18 #[.slice a4 nn c4, .slice a8 ne c8] W5 (RetI W5 L cd) := by
    have := specSerialOrder_any a4 a8 c4 c8 ns es W5 H45.out (H8.out.below b5) (by rw [HNN.out]; omega) (by omega) (by rw [HNN.out]; exact hnc)
    rw [HNN.out, hne, HSO.out.1, HSO.out.2] at this
    exact this
  clear o10 b5 H44 H8 HC17 hne
  go_wp2_with fail
  refine HC18.mono ?_
  rintro e W6 ⟨v12, rfl, o12, b6⟩
  have D6 := below_step D5 (Nat.le_refl _) b6
  have H106 : Hid (OwnI W6 W4.heap.size v10 L) := H10.out.below b6
  have H46 : Hid (RowI W6 a4 ns) := H45.out.below b6
  have HC19 := sameI_own H106.out o12 (by omega)
  clear o12 b6 H10 H45 HC18 HC15 HC14
  rcases HTWO with hcd | hcd
  · obtain ⟨one, k1, k2, k3, k4, k5⟩ := HONE.out hcd
    have HK : Hid (shC ss L = 0 ∧ shL ss L = one ∧ HistP one ∧ (plV one).2 = (plV ss).2 ∧ ∀ t, rdsT t (comO one) = rdsT t (comO ss)) := ⟨k1, k2, k3, k4, k5⟩
    clear k1 k2 k3 k4 k5 HONE
    subst hcd
    go_wp2_with (first | (go_at_call 19; refine HC19.mono ?_; rintro e W7 ⟨rfl, b7⟩; have D7 := below_step D6 (Nat.le_refl _) b7) | (go_at_call 20; refine (HC20.out W7 D7).mono ?_; rintro e W8 ⟨rfl, b8⟩; have D8 := below_step D7 (Nat.le_refl _) b8) | fail)
    have b68 := below_step b7 (Nat.le_refl _) b8
    obtain ⟨a10, c10, e10, r10, _⟩ := (H106.out.below b68).row
    have HC21' : Calls Try.prog 21 #[.slice a3 n3 c3, v10] W8 (RetH W8 one 0) := by
      have := HC21.out W8 a10 c10 L D8 r10 (by omega)
      rw [HK.out.1, HK.out.2.1] at this
      rw [e10]; exact this
    have H48 : Hid (RowI W8 a4 ns) := H46.out.below b68
    clear e10 r10 HC19 HC20 HC21 H106 H46 b68 b7 b8 D7 D6 D5
    refine HC21'.mono ?_
    rintro e W9 ⟨v14, rfl, o14, b9⟩
    have D9 := below_step D8 (Nat.le_refl _) b9
    have k3 := HK.out.2.2.1
    have hsm := k3.small
    obtain ⟨a14, c14, e14, r14⟩ := o14.row (fun i hi => by have := hsm i hi; unfold maxLen; exact ⟨by omega, by omega⟩)
    have H49 : Hid (RowI W9 a4 ns) := H48.out.below b9
    have HC22o : Hid (∀ W, Below W9.heap.size W9 W → Calls Try.prog 22 #[.slice a14 one.length c14] W (RetPl W (plV one) 0)) := fun W hW => k3.code ▸ implPlayHistory_any a14 c14 one W (r14.below hW) (by have := k3.1; omega)
    have HC24o : Hid (∀ W tx, Below W9.heap.size W9 W → Calls Try.prog 24 #[.slice a14 one.length c14, .int .i64 tx] W fun e w' => ∃ v, e = .returned v ∧ OwnS w' W.heap.size v (rdsT tx (comO one)) ∧ Below W.heap.size W w') := fun W tx hW => reads_any a14 c14 one tx W (r14.below hW) k3.code
    subst e14
    obtain ⟨n14, hn14⟩ : ∃ m, one.length = m := ⟨_, rfl⟩
    rw [hn14] at HC22o HC24o ⊢
    clear o14 b9 H48 HC21' hn14 k3 hsm r14 D8
    go_wp2_with fail
    refine (HC22.out W9 D9).mono ?_
    rintro e W10 ⟨v16, v17, rfl, o16, o17, b10⟩
    have D10 := below_step D9 (Nat.le_refl _) b10
    have H17 : Hid (OwnY W10 W9.heap.size v17 (plV ss).2) := o17
    have H410 : Hid (RowI W10 a4 ns) := H49.out.below b10
    have E10 : Below W9.heap.size W9 W10 := b10
    clear o16 o17 b10 H49 HC22 D9
    go_wp2_with fail
    refine (HC22o.out W10 E10).mono ?_
    rintro e W11 ⟨v19, v20, rfl, o19, o20, b11⟩
    have D11 := below_step D10 (Nat.le_refl _) b11
    have E11 := below_step E10 (Nat.le_refl _) b11
    have H411 : Hid (RowI W11 a4 ns) := H410.out.below b11
    rw [HK.out.2.2.2.1] at o20
    have HC23 := sameE_own (H17.out.below b11) o20 (by omega)
    clear o19 o20 b11 H410 HC22o D10 E10 H17
    go_wp2_with (first | (go_at_call 23; refine HC23.mono ?_; rintro e W12 ⟨rfl, b12⟩) | fail)
    have D12 := below_step D11 (Nat.le_refl _) b12
    have E12 := below_step E11 (Nat.le_refl _) b12
    have H412 : Hid (RowI W12 a4 ns) := H411.out.below b12
    have B12 : Below w.heap.size w W12 := B1.trans (D12.mono B1.size)
    clear b12 H411 HC23 D11 E11
    go_loopw [22] (fun i wr => ∃ k : Nat, k ≤ nn ∧ i = .int .i64 k ∧ Below W12.heap.size W12 wr) (fun i _ => nn - (intOf i).toNat)
    case atStart => exact ⟨0, by omega, rfl, Below.refl _ _⟩
    case round =>
      obtain ⟨k, hk, rfl, hbl⟩ := hrel
      by_cases hlt : k < nn
      · have hltI : (k : Int) < (nn : Int) := by omega
        have hc1 := fun tx => HC24.out wr tx (below_step D12 (Nat.le_refl _) hbl)
        have E13 := below_step E12 (Nat.le_refl _) hbl
        have hrow := H412.out.below hbl
        have hrow2 := hrow
        obtain ⟨b, off, rfl, hlb, q0⟩ := hrow k (by rw [HNN.out]; exact hlt)
        obtain ⟨t, ht⟩ : ∃ t, nthI ns k = t := ⟨_, rfl⟩
        rw [ht] at q0
        have hc2 := hc1 t
        clear hrow ht hc1
        go_wp2_with fail
        refine hc2.mono ?_
        rintro e W13 ⟨v23, rfl, o23, b13⟩
        have q1 := (b13.cell (p := ⟨b, off + k, none⟩) hlb).trans q0
        have hc3 := HC24o.out W13 t (below_step E13 (Nat.le_refl _) b13)
        have H23 : Hid (OwnS W13 wr.heap.size v23 (rdsT t (comO ss))) := o23
        have F13 := below_step hbl (Nat.le_refl _) b13
        clear hc2 o23 b13 q0 E13 hrow2
        go_wp2_with fail
        refine hc3.mono ?_
        rintro e W14 ⟨v24, rfl, o24, b14⟩
        rw [HK.out.2.2.2.2 t] at o24
        have hc4 := sameT_own (H23.out.below b14) o24 (by have := HRL.out t; omega)
        have F14 := below_step F13 (Nat.le_refl _) b14
        clear hc3 o24 b14 q1 H23 F13
        go_wp2_with (first | (go_at_call 25; refine hc4.mono ?_; rintro e W15 ⟨rfl, b15⟩; have F15 := below_step F14 (Nat.le_refl _) b15) | fail)
        go_roundw
        case rel => exact ⟨k + 1, by omega, by go_num, F15⟩
        case measure => simp [intOf]; omega
      · go_wp2
        go_ret
        exact ⟨rfl, below_step B12 (Nat.le_refl _) hbl⟩
  · clear HONE
    subst hcd
    go_wp2_with (first | (go_at_call 19; refine HC19.mono ?_; rintro e W7 ⟨rfl, b7⟩; have D7 := below_step D6 (Nat.le_refl _) b7) | (go_at_call 20; refine (HC20.out W7 D7).mono ?_; rintro e W8 ⟨rfl, b8⟩; have D8 := below_step D7 (Nat.le_refl _) b8) | fail)
    go_ret
    exact ⟨rfl, B1.trans (D8.mono B1.size)⟩
end Go.Proofs.Ytlcgmifibekegaa
