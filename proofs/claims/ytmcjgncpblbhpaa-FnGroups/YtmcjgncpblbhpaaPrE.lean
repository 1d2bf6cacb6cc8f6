/- The specification's product (stage 13). -/
import Derived.Test.YtmcjgncpblbhpaaPrD
import Derived.Deep.RegionLaw
namespace Go.Proofs.Ytmcjgncpblbhpaa
open Go.RowKit

theorem OwnV.shape {w : World} {B : Nat} {u : Value} {l : List V3} (h : OwnV w B u l) : ∃ a n cap, u = .slice a n cap := by
  obtain ⟨a, cap, e, _⟩ := h.slab
  exact ⟨a, _, cap, e⟩
/-- What a product asks of its sides: few rows of few values. -/
def FitR (aa bb : Rs) : Prop := aa.length ≤ 400 ∧ bb.length ≤ 400 ∧ aa.length * bb.length ≤ 400 ∧ (∀ i, i < aa.length → (nthR aa i).length ≤ 8) ∧ ∀ i, i < bb.length → (nthR bb i).length ≤ 8
theorem prodK_few {aa bb : Rs} (h : FitR aa bb) {i k : Nat} (hi : i < aa.length) (hk : k < bb.length) : (prodK aa bb i k).length < 400 := by
  rw [prodK_len (by omega) (by omega)]
  have h1 : (i + 1) * bb.length ≤ aa.length * bb.length := Nat.mul_le_mul_right _ hi
  rw [Nat.add_mul] at h1
  have := h.2.2.1
  omega
set_option maxRecDepth 100000 in
set_option maxHeartbeats 8000000 in
theorem l13Product_any (a b : Option Addr) (ca cb : Nat) (aa bb : Rs) (w : World) (ha : RowA w a aa) (hb : RowA w b bb) (hf : FitR aa bb) :
    Calls Try.prog 61 #[.slice a aa.length ca, .slice b bb.length cb] w fun e w' => ∃ v, e = .returned v ∧ BldR w' w.heap.size w'.heap.size v (prodL aa bb) ∧ Below w.heap.size w w' := by
  have HA : Hid (RowA w a aa ∧ RowA w b bb) := ⟨ha, hb⟩
  have HF : Hid (FitR aa bb) := hf
  have hn0 := hf.1
  have hm0 := hf.2.1
  obtain ⟨n, hn⟩ : ∃ n, aa.length = n := ⟨_, rfl⟩
  obtain ⟨m, hm⟩ : ∃ m, bb.length = m := ⟨_, rfl⟩
  have HN : Hid (aa.length = n ∧ bb.length = m) := ⟨hn, hm⟩
  rw [hn] at hn0 ⊢
  rw [hm] at hm0 ⊢
  clear ha hb hf hn hm
  have B0 : Below w.heap.size w (w.alloc (.cells #[] 28)) := (Below.refl _ _).alloc (Nat.le_refl _) _
  have O0 : Hid (BldR (w.alloc (.cells #[] 28)) w.heap.size (w.alloc (.cells #[] 28)).heap.size (.slice (some ⟨w.heap.size, 0, none⟩) 0 0) (prodK aa bb 0 0)) := by
    rw [prodK_zero]
    exact BldR.made (Nat.le_refl _)
  go_enter Try.func61, Try.ntmps61
  go_wp2
  go_loopw [5, 6] (fun v i wr => ∃ k : Nat, k ≤ n ∧ i = .int .i64 k ∧ Hid (BldR wr w.heap.size wr.heap.size v (prodK aa bb k 0)) ∧ Below w.heap.size w wr) (fun _ i _ => n - (intOf i).toNat)
  case atStart => exact ⟨0, by omega, rfl, O0.out, B0⟩
  case round =>
    clear O0 B0
    obtain ⟨k, hk, rfl, HO, hbl⟩ := hrel
    by_cases hlt : k < n
    · have hltI : (k : Int) < (n : Int) := by omega
      go_wp2
      go_loopw [5, 7] (fun v j wr => ∃ q : Nat, q ≤ m ∧ j = .int .i64 q ∧ Hid (BldR wr w.heap.size wr.heap.size v (prodK aa bb k q)) ∧ Below w.heap.size w wr) (fun _ j _ => m - (intOf j).toNat)
      case atStart => exact ⟨0, by omega, rfl, HO, hbl⟩
      case round =>
        clear HO hbl
        obtain ⟨q, hq, rfl, HO, hbq⟩ := hrel
        by_cases hlq : q < m
        · have hlqI : (q : Int) < (m : Int) := by omega
          have hka : k < aa.length := by rw [HN.out.1]; exact hlt
          have hqb : q < bb.length := by rw [HN.out.2]; exact hlq
          obtain ⟨b1, o1, p1, q1, d1, rfl, l1, c1, r1, _⟩ := (HA.out.1.below hbq) k hka
          obtain ⟨b2, o2, p2, q2, d2, rfl, l2, c2, r2, _⟩ := (HA.out.2.below hbq) q hqb
          have J := fun W (hW : Below wr.heap.size wr W) => l13Join_any p1 q1 d1 p2 q2 d2 (nthR aa k) (nthR bb q) W (r1.below hW) (r2.below hW) (by have := HF.out.2.2.2.1 k hka; have := HF.out.2.2.2.2 q hqb; omega)
          have Pu := fun (W w1 : World) (u : Value) (h1 : BldR W w.heap.size W.heap.size u5 (prodK aa bb k q)) (h2 : Below w.heap.size w W) (h3 : Below W.heap.size W w1) (h4 : OwnV w1 W.heap.size u (nthR aa k ++ nthR bb q)) => push_step (t := 28) h1 h2 hqb (by have := prodK_few HF.out hka hqb; omega) h3 h4
          have HP : Hid (∀ w1 u, Below wr.heap.size wr w1 → OwnV w1 wr.heap.size u (nthR aa k ++ nthR bb q) → ∃ v' w', (Builtin.append_ #[23, 23] 23 #[u5, .slice (some ⟨w1.heap.size, 0, none⟩) 1 1]).run Try.prog (w1.alloc (.cells #[u] 28)) = .ok v' w' ∧ BldR w' w.heap.size w'.heap.size v' (prodK aa bb k (q + 1)) ∧ Below w.heap.size w w') := fun w1 u h3 h4 => Pu wr w1 u HO.out hbq h3 h4
          have hJ := J wr.drew (Below.refl _ _).drew
          clear J Pu r1 r2 HO
          generalize nthR aa k = x at *
          generalize nthR bb q = y at *
          generalize x.length = nx at *
          generalize y.length = ny at *
          have k1 : wr.drew.cell? ⟨b1, o1 + k, none⟩ = some (.slice (some ⟨p1, q1, none⟩) nx d1) := c1
          have k2 : wr.drew.cell? ⟨b2, o2 + q, none⟩ = some (.slice (some ⟨p2, q2, none⟩) ny d2) := c2
          clear c1 c2
          go_wp2_with fail
          go_region_law (first | (refine step_append_run (by rfl) _ _ _ _ (by rfl) _ _ (by rfl) (by rfl) _ _ hrun ?_) | (go_simp; refine hJ.mono ?_; rintro e w1 ⟨u, rfl, hu, b1⟩; obtain ⟨ua, un, uc, rfl⟩ := hu.shape; obtain ⟨v', w', hrun, hO2, hB2⟩ := HP.out w1 _ ((Below.refl _ _).drew.trans b1) hu; clear hu b1))
          all_goals
            have HO2 : Hid (BldR w' w.heap.size w'.heap.size v' (prodK aa bb k (q + 1))) := hO2
            clear hO2 hrun
            go_wp2
            go_roundw
            case rel => exact ⟨q + 1, by omega, by go_num, HO2, hB2⟩
            case measure => simp [intOf]; omega
        · have HO2 : Hid (BldR wr w.heap.size wr.heap.size u5 (prodK aa bb (k + 1) 0)) := by
            show BldR _ _ _ _ _
            rw [← prodK_next (by rw [HN.out.1]; exact hlt), HN.out.2]
            have : q = m := by omega
            rw [← this]
            exact HO.out
          clear HO
          go_wp2
          go_roundw
          case rel => exact ⟨k + 1, by omega, by go_num, HO2, hbq⟩
          case measure => simp [intOf]; omega
    · obtain rfl : k = n := by omega
      have HO2 : Hid (BldR wr w.heap.size wr.heap.size u5 (prodL aa bb)) := by
        show BldR _ _ _ _ _
        rw [← prodK_all, HN.out.1]
        exact HO.out
      clear HO
      go_wp2
      go_ret
      exact ⟨_, rfl, HO2.out, hbl⟩

theorem BldR.base {w : World} {B B' hi : Nat} {v : Value} {rs : Rs} (h : BldR w B hi v rs) (hB : B' ≤ B) : BldR w B' hi v rs := by
  obtain ⟨xs, gs, ns, cs, ax, ⟨h1, h2⟩, hc, hd⟩ := h
  refine ⟨xs, gs, ns, cs, ax, ⟨h1, ?_⟩, fun i hi => ⟨(hc i hi).1, fun h0 => by obtain ⟨q1, q2, q3, q4, q5⟩ := (hc i hi).2 h0; exact ⟨q1, by omega, q3, q4, q5⟩⟩, hd⟩
  rcases h2 with h | ⟨g, cap, cur, e, hg, r⟩
  · exact .inl h
  · exact .inr ⟨g, cap, cur, e, by omega, r⟩
/-- The code of a product. -/
def prC (aa bb : Rs) : Int := if 4096 < aa.length ∨ 4096 < bb.length then 2 else if okRs 8 aa = true ∧ okRs 8 bb = true then (if 400 < aa.length * bb.length then 6 else 0) else 1
/-- Its rows. -/
def prR (aa bb : Rs) : Rs := if prC aa bb = 0 then prodL aa bb else []
/-- What a product answers: rows of its own, and a code. -/
def RetP (aa bb : Rs) (w : World) (r : Ending) (w' : World) : Prop := ∃ v hi, r = .returned (.tuple #[v, .int .i64 (prC aa bb)]) ∧ BldR w' w.heap.size hi v (prR aa bb) ∧ Below w.heap.size w w'
theorem RetP.bad {aa bb : Rs} {w w' : World} {c : Int} {v : Value} {hi : Nat} (hc : prC aa bb = c) (h : c ≠ 0) (hv : BldR w' w.heap.size hi v []) (hb : Below w.heap.size w w') : RetP aa bb w (.returned (.tuple #[v, .int .i64 c])) w' := by
  refine ⟨v, hi, by rw [hc], ?_, hb⟩
  have : prR aa bb = [] := if_neg (by rw [hc]; exact h)
  rw [this]; exact hv
theorem RetP.good {aa bb : Rs} {w w' : World} {v : Value} {hi : Nat} (hc : prC aa bb = 0) (hv : BldR w' w.heap.size hi v (prodL aa bb)) (hb : Below w.heap.size w w') : RetP aa bb w (.returned (.tuple #[v, .int .i64 0])) w' := by
  refine ⟨v, hi, by rw [hc], ?_, hb⟩
  have : prR aa bb = prodL aa bb := if_pos hc
  rw [this]; exact hv
theorem fit_of {aa bb : Rs} (h1 : okRs 8 aa = true) (h2 : okRs 8 bb = true) (h3 : ¬ 400 < aa.length * bb.length) : FitR aa bb :=
  ⟨(okRs_small h1).1, (okRs_small h2).1, by omega, (okRs_small h1).2, (okRs_small h2).2⟩
set_option maxRecDepth 100000 in
set_option maxHeartbeats 8000000 in
theorem specProduct_any (a b : Option Addr) (ca cb : Nat) (aa bb : Rs) (w : World) (ha : RowA w a aa) (hb : RowA w b bb) (sa : SmallR aa) (sb : SmallR bb) :
    Calls Try.prog 22 #[.slice a aa.length ca, .slice b bb.length cb] w (RetP aa bb w) := by
  have B0 : Below w.heap.size w (w.alloc (.cells #[] 28)) := (Below.refl _ _).alloc (Nat.le_refl _) _
  have la := sa.1
  have lb := sb.1
  by_cases h1 : 4096 < aa.length ∨ 4096 < bb.length
  · have HC : Hid (prC aa bb = 2) := if_pos h1
    clear ha hb sa sb
    generalize aa.length = n at *
    generalize bb.length = m at *
    by_cases h2 : 4096 < n
    · have h2I : (4096 : Int) < (n : Int) := by omega
      go_enter Try.func22, Try.ntmps22
      go_wp2
      go_ret2
      exact RetP.bad HC.out (by omega) (BldR.made (hi := 0) (Nat.le_refl _)) B0
    · have h2I : ¬ (4096 : Int) < (n : Int) := by omega
      have h3I : (4096 : Int) < (m : Int) := by omega
      go_enter Try.func22, Try.ntmps22
      go_wp2
      go_ret2
      exact RetP.bad HC.out (by omega) (BldR.made (hi := 0) (Nat.le_refl _)) B0
  have A1 := l13Rows_any 8 a ca aa w ha.row sa (by omega)
  have A2 := fun W (hW : Below w.heap.size w W) => l13Rows_any 8 b cb bb W (hb.row.below hW) sb (by omega)
  have HC0 : Hid (prC aa bb = if okRs 8 aa = true ∧ okRs 8 bb = true then (if 400 < aa.length * bb.length then 6 else 0) else 1) := if_neg h1
  have PF : Hid (okRs 8 aa = true → okRs 8 bb = true → ¬ 400 < aa.length * bb.length → ∀ W, Below w.heap.size w W → Calls Try.prog 61 #[.slice a aa.length ca, .slice b bb.length cb] W fun e w' => ∃ v, e = .returned v ∧ BldR w' W.heap.size w'.heap.size v (prodL aa bb) ∧ Below W.heap.size W w') := fun p1 p2 p3 W hW => l13Product_any a b ca cb aa bb W (ha.below hW) (hb.below hW) (fit_of p1 p2 p3)
  have hn : ¬ (4096 : Int) < (aa.length : Int) := by omega
  have hm : ¬ (4096 : Int) < (bb.length : Int) := by omega
  clear ha hb sa sb h1
  cases o1 : okRs 8 aa with
  | false =>
    have HC : Hid (prC aa bb = 1) := by show _ = _; rw [HC0.out, o1]; simp
    rw [o1] at A1
    clear A2 HC0 PF o1
    generalize aa.length = n at *
    generalize bb.length = m at *
    go_enter Try.func22, Try.ntmps22
    go_wp2_with (go_at_call 49; refine A1.mono ?_; rintro e w1 ⟨rfl, b1⟩)
    go_ret2
    exact RetP.bad HC.out (by omega) (BldR.made (hi := 0) b1.size) (below_step b1 (Nat.le_refl _) ((Below.refl _ _).alloc (Nat.le_refl _) _))
  | true =>
    rw [o1] at A1 PF
    cases o2 : okRs 8 bb with
    | false =>
      have HC : Hid (prC aa bb = 1) := by show _ = _; rw [HC0.out, o2]; simp
      rw [o2] at A2
      clear HC0 PF o1 o2
      generalize aa.length = n at *
      generalize bb.length = m at *
      go_enter Try.func22, Try.ntmps22
      go_wp2_with (first | (go_at_call 49; refine A1.mono ?_; rintro e w1 ⟨rfl, b1⟩; clear A1) | (go_at_call 49; refine (A2 _ b1).mono ?_; rintro e w2 ⟨rfl, b2⟩))
      go_ret2
      have B2 := below_step b1 (Nat.le_refl _) b2
      exact RetP.bad HC.out (by omega) (BldR.made (hi := 0) B2.size) (below_step B2 (Nat.le_refl _) ((Below.refl _ _).alloc (Nat.le_refl _) _))
    | true =>
      rw [o2] at A2 PF
      have l1 := (okRs_small o1).1
      have l2 := (okRs_small o2).1
      have hmul : ((aa.length : Int) * (bb.length : Int)) = ((aa.length * bb.length : Nat) : Int) := by push_cast; rfl
      have hbd : aa.length * bb.length ≤ 400 * 400 := Nat.mul_le_mul l1 l2
      by_cases h4 : 400 < aa.length * bb.length
      · have HC : Hid (prC aa bb = 6) := by show _ = _; rw [HC0.out, o1, o2, if_pos ⟨rfl, rfl⟩, if_pos h4]
        clear HC0 PF o1 o2
        generalize aa.length * bb.length = nm at *
        generalize aa.length = n at *
        generalize bb.length = m at *
        have h4I : (400 : Int) < (nm : Int) := by omega
        go_enter Try.func22, Try.ntmps22
        go_wp2_with (first | (go_at_call 49; refine A1.mono ?_; rintro e w1 ⟨rfl, b1⟩; clear A1) | (go_at_call 49; refine (A2 _ b1).mono ?_; rintro e w2 ⟨rfl, b2⟩; clear A2))
        go_ret2
        have B2 := below_step b1 (Nat.le_refl _) b2
        exact RetP.bad HC.out (by omega) (BldR.made (hi := 0) B2.size) (below_step B2 (Nat.le_refl _) ((Below.refl _ _).alloc (Nat.le_refl _) _))
      · have HC : Hid (prC aa bb = 0) := by show _ = _; rw [HC0.out, o1, o2, if_pos ⟨rfl, rfl⟩, if_neg h4]
        have PP := PF.out rfl rfl h4
        clear HC0 PF o1 o2
        generalize aa.length * bb.length = nm at *
        generalize aa.length = n at *
        generalize bb.length = m at *
        have h4I : ¬ (400 : Int) < (nm : Int) := by omega
        go_enter Try.func22, Try.ntmps22
        go_wp2_with (first | (go_at_call 49; refine A1.mono ?_; rintro e w1 ⟨rfl, b1⟩; clear A1) | (go_at_call 49; refine (A2 _ b1).mono ?_; rintro e w2 ⟨rfl, b2⟩; clear A2; have B2 := below_step b1 (Nat.le_refl _) b2) | (go_at_call 61; refine (PP _ B2).mono ?_; rintro e w3 ⟨v, rfl, O3, b3⟩; clear PP))
        go_ret2
        exact RetP.good HC.out (O3.base B2.size) (below_step B2 (Nat.le_refl _) b3)
end Go.Proofs.Ytmcjgncpblbhpaa
