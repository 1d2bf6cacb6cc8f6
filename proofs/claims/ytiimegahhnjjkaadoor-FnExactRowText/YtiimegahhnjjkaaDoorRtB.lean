/- The text of a row, the specification's; the law walked (stage 1). -/
import Derived.Test.YtiimegahhnjjkaaDoorRtA
import Derived.Test.YtiimegahhnjjkaaDoorVlD
import Derived.Deep.RegionHeld3
namespace Go.Proofs.YtiimegahhnjjkaaDoor
open Go.RowKit

set_option maxRecDepth 100000 in
set_option maxHeartbeats 4000000 in
theorem specJoin_any (a : Option Addr) (cap : Nat) (vs : List V3) (w : World) (hrow : RowV w a vs) (hn : vs.length ≤ 8) (hOK : ∀ j, j < vs.length → okV3 (nthV vs j) = true ∧ Rg (nthV vs j).2.1) :
    Calls Tryd.prog 19 #[.slice a vs.length cap] w fun e w' => ∃ s : ByteArray, e = .returned (.string s) ∧ bt s = rowL vs ∧ Below w.heap.size w w' := by
  have H1 : Hid (RowV w a vs) := hrow
  have HO : Hid (∀ j, j < vs.length → okV3 (nthV vs j) = true ∧ Rg (nthV vs j).2.1) := hOK
  have HL : Hid (∀ k, k ≤ vs.length → ([40] ++ joinL (fun j => litW (nthV vs j)) k : List UInt8).length ≤ 3000) := fun k hk => by
    have := joinL_len (fun j => litW (nthV vs j)) 150 k (fun j hj => litL_len _ _ _ (hOK j (by omega)).1 (hOK j (by omega)).2)
    have : k * 152 ≤ 8 * 152 := Nat.mul_le_mul (by omega) (Nat.le_refl _)
    rw [List.length_append]
    show 1 + _ ≤ _
    omega
  have HE : Hid (rowL vs = [40] ++ joinL (fun j => litW (nthV vs j)) vs.length ++ [41]) := rfl
  clear hrow hOK
  generalize hN : vs.length = n at *
  have HN : Hid (vs.length = n) := hN
  clear hN
  go_enter Tryd.func19, Tryd.ntmps19
  go_wp2
  go_loopw [3, 4] (fun so i wr => ∃ (k : Nat) (s : ByteArray), k ≤ n ∧ i = .int .i64 k ∧ so = .string s ∧ Hid (bt s = [40] ++ joinL (fun j => litW (nthV vs j)) k) ∧ Below w.heap.size w wr) (fun _ i _ => n - (intOf i).toNat)
  case atStart => exact ⟨0, ⟨#[40]⟩, by omega, rfl, rfl, rfl, Below.refl _ _⟩
  case round =>
    obtain ⟨k, s, hk, rfl, rfl, HK, hbl⟩ := hrel
    have hzs : s.size ≤ 3000 := by rw [size_bt HK.out]; exact HL.out k hk
    by_cases hlt : k < n
    · have hltI : (k : Int) < (n : Int) := by omega
      obtain ⟨b, off, rfl, hlb, ⟨q0, q1, q2⟩, _⟩ := (H1.out.below hbl) k (by rw [HN.out]; exact hlt)
      have HOk := HO.out k hlt
      have hc := fun w => specText_any (nthV vs k).1 (nthV vs k).2.1 (nthV vs k).2.2 HOk.1 HOk.2 w
      have hl := litL_len _ _ _ HOk.1 HOk.2
      have HJ : Hid (∀ s' : ByteArray, bt s' = bt s ++ (if 0 < k then [44, 32] else []) ++ litL (nthV vs k).1 (nthV vs k).2.1 (nthV vs k).2.2 → bt s' = [40] ++ joinL (fun j => litW (nthV vs j)) (k + 1)) := fun s' h => by rw [h, HK.out, joinL]; simp [litW]
      generalize litL (nthV vs k).1 (nthV vs k).2.1 (nthV vs k).2.2 = ll at *
      generalize nthV vs k = xk at *
      obtain ⟨kx, nx, tx'⟩ := xk
      simp only at q0 q1 q2 hc
      obtain ⟨sA, hA, A1⟩ : ∃ sA : ByteArray, bt sA = bt s ++ (if 0 < k then [44, 32] else []) ∧ (0 < k → ∀ w, (Op.stringOp .add s ⟨#[44, 32]⟩).run Tryd.prog w = .ok (.string sA) w) ∧ (¬ 0 < k → sA = s) := by
        by_cases h0 : 0 < k
        · obtain ⟨sA, eA, AA⟩ := addE s ⟨#[44, 32]⟩ (by show _ + 2 ≤ _; omega)
          exact ⟨sA, by rw [eA, if_pos h0]; rfl, fun _ => AA, fun h => absurd h0 h⟩
        · exact ⟨s, by rw [if_neg h0]; simp, fun h => absurd h h0, fun _ => rfl⟩
      have zA : sA.size ≤ 3002 := by
        have h1 := size_bt hA
        rw [List.length_append, bt_size] at h1
        have : (if 0 < k then [(44 : UInt8), 32] else []).length ≤ 2 := by split <;> simp
        omega
      obtain ⟨sB, eB, BB⟩ := addE sA (tx ll) (by rw [tx_size]; omega)
      have HE2 : Hid (bt sB = [40] ++ joinL (fun j => litW (nthV vs j)) (k + 1)) := HJ.out sB (by rw [eB, hA, bt_tx])
      clear hA zA eB hzs HJ HK hl HOk
      generalize tx ll = sl at *
      by_cases h0 : 0 < k
      · have h0I : (0 : Int) < (k : Int) := by omega
        have AA := A1.1 h0
        clear A1
        go_wp2_with fail
        refine (hc _).mono ?_
        rintro e w1 ⟨rfl, b1⟩
        have B1 := below_step hbl (Nat.le_refl _) b1
        clear hc b1 q0 q1 q2
        go_wp2
        go_roundw
        case rel => exact ⟨k + 1, sB, by omega, by go_num, rfl, HE2.out, B1⟩
        case measure => simp [intOf]; omega
      · have h0I : ¬ (0 : Int) < (k : Int) := by omega
        have hAs := A1.2 h0
        subst hAs
        clear A1
        go_wp2_with fail
        refine (hc _).mono ?_
        rintro e w1 ⟨rfl, b1⟩
        have B1 := below_step hbl (Nat.le_refl _) b1
        clear hc b1 q0 q1 q2
        go_wp2
        go_roundw
        case rel => exact ⟨k + 1, sB, by omega, by go_num, rfl, HE2.out, B1⟩
        case measure => simp [intOf]; omega
    · have e : k = n := by omega
      subst e
      obtain ⟨sB, eB, BB⟩ := addE s ⟨#[41]⟩ (by show _ + 1 ≤ _; omega)
      have HF : Hid (bt sB = rowL vs) := by show _ = _; rw [eB, HK.out, HE.out]; rfl
      clear eB HK hzs
      go_wp2
      go_ret
      exact ⟨sB, rfl, HF.out, hbl⟩

set_option maxRecDepth 100000 in
set_option maxHeartbeats 4000000 in
theorem specRowText_any (a : Option Addr) (cap : Nat) (vs : List V3) (w : World) (hrow : RowV w a vs) (hlen : vs.length ≤ 1048576) (hr : RgV vs) :
    Calls Tryd.prog 10 #[.slice a vs.length cap] w fun e w' => e = .returned (rowA vs) ∧ Below w.heap.size w w' := by
  have hok := l01Row_any a cap vs w hrow hlen
  have H1 : Hid (RowV w a vs) := hrow
  have HR : Hid (RgV vs) := hr
  clear hrow hr
  by_cases h40 : 4096 < vs.length
  · have hI : (4096 : Int) < (vs.length : Int) := by omega
    have hc : rowCode vs = 2 := by unfold rowCode; rw [if_pos h40]
    have HE : Hid (rowA vs = .tuple #[.string ⟨#[]⟩, .int .i64 2]) := by show _ = _; unfold rowA; rw [hc]; rfl
    clear hc hok
    generalize rowA vs = ra at *
    generalize vs.length = n at *
    go_enter Tryd.func10, Tryd.ntmps10
    go_wp2
    go_ret2
    exact ⟨ret_val HE.out.symm, Below.refl _ _⟩
  have hI : ¬ (4096 : Int) < (vs.length : Int) := by omega
  cases hk : okRow vs with
  | false =>
    have hc : rowCode vs = 1 := by unfold rowCode; rw [if_neg h40, hk]; rfl
    have HE : Hid (rowA vs = .tuple #[.string ⟨#[]⟩, .int .i64 1]) := by show _ = _; unfold rowA; rw [hc]; rfl
    rw [hk] at hok
    clear hc hk
    generalize rowA vs = ra at *
    generalize vs.length = n at *
    go_enter Tryd.func10, Tryd.ntmps10
    go_wp2_with fail
    refine hok.mono ?_
    rintro e w1 ⟨rfl, b1⟩
    clear hok
    go_wp2
    go_ret2
    exact ⟨ret_val HE.out.symm, b1⟩
  | true =>
    have hc : rowCode vs = 0 := by unfold rowCode; rw [if_neg h40, hk]; rfl
    have HE : Hid (rowA vs = .tuple #[.string (tx (rowL vs)), .int .i64 0]) := if_pos hc
    have HOK : Hid (vs.length ≤ 8 ∧ ∀ j, j < vs.length → okV3 (nthV vs j) = true ∧ Rg (nthV vs j).2.1) := row_ok hc HR.out
    have HJ : Hid (∀ w1, Below w.heap.size w w1 → Calls Tryd.prog 19 #[.slice a vs.length cap] w1 fun e w' => ∃ s : ByteArray, e = .returned (.string s) ∧ bt s = rowL vs ∧ Below w1.heap.size w1 w') := fun w1 b => specJoin_any a cap vs w1 (H1.out.below b) HOK.out.1 HOK.out.2
    rw [hk] at hok
    clear hc hk
    generalize rowA vs = ra at *
    generalize rowL vs = rl at *
    generalize vs.length = n at *
    go_enter Tryd.func10, Tryd.ntmps10
    go_wp2_with fail
    refine hok.mono ?_
    rintro e w1 ⟨rfl, b1⟩
    clear hok
    go_wp2_with fail
    refine (HJ.out w1 b1).mono ?_
    rintro e w2 ⟨s, rfl, hs, b2⟩
    have B2 := below_step b1 (Nat.le_refl _) b2
    have HE2 : Hid (ra = .tuple #[.string s, .int .i64 0]) := by show _ = _; rw [HE.out, eq_tx hs]
    clear hs b1 b2
    go_wp2
    go_ret2
    exact ⟨ret_val HE2.out.symm, B2⟩

set_option maxRecDepth 100000 in
set_option maxHeartbeats 4000000 in
theorem lawRowText (a : Option Addr) (cap : Nat) (vs : List V3) (w : World) (hw : RowV w a vs) (lw : vs.length ≤ maxLen) (hr : RgV vs) (hT : Tb w) :
    Calls Tryd.prog 4 #[.slice a vs.length cap] w fun r w' => r = .returned (.bool true) ∧ Below w.heap.size w w' := by
  have H : Hid (RowV w a vs) := hw
  have HR : Hid (RgV vs) := hr
  have HT : Hid (∀ w', Below w.heap.size w w' → Tb w') := fun w' b => hT.below b
  have hsz := szS_any a cap vs 1048576 w hw lw (by omega) (by omega)
  clear hw hr hT lw
  go_enter Tryd.func4, Tryd.ntmps4
  go_wp2_with fail
  refine hsz.mono ?_
  rintro r w1 ⟨x, rfl, x0, x1, x2, b1⟩
  clear hsz
  by_cases hx : x < 0
  · clear x2
    go_wp2
    go_ret
    exact ⟨rfl, b1⟩
  have LS : Hid (vs.length ≤ 1048576) := by have := x2 (by omega); show _ ≤ _; omega
  clear x2
  go_wp2_with fail
  refine (toS_row a cap vs w1 (H.out.below b1) LS.out).mono ?_
  rintro r w2 ⟨g1, rfl, h2, b2⟩
  have B2 := below_step b1 (Nat.le_refl _) b2
  clear b1 b2
  go_wp2_with fail
  refine (specRowText_any _ _ vs w2 h2 LS.out HR.out).mono ?_
  rintro r w3 ⟨rfl, b3⟩
  obtain ⟨sr, cr, hra⟩ := rowA_pair vs
  have HRA : Hid (rowA vs = .tuple #[.string sr, .int .i64 cr]) := hra
  rw [hra]
  have B3 := below_step B2 (Nat.le_refl _) b3
  clear hra b3 B2 h2
  go_wp2_with fail
  refine (toS_row a cap vs w3 (H.out.below B3) LS.out).mono ?_
  rintro r w4 ⟨g2, rfl, h4, b4⟩
  have B4 := below_step B3 (Nat.le_refl _) b4
  clear b4 B3
  go_wp2_with fail
  refine (implRowText_any _ _ vs w4 h4 LS.out HR.out (HT.out _ B4)).mono ?_
  rintro r w5 ⟨rfl, b5⟩
  rw [HRA.out]
  have B5 := below_step B4 (Nat.le_refl _) b5
  have h5 := h4.below b5
  clear b5 B4 h4
  go_wp2_with fail
  refine (toS_row a cap vs w5 (H.out.below B5) LS.out).mono ?_
  rintro r w6 ⟨g3, rfl, h6, b6⟩
  have B6 := below_step B5 (Nat.le_refl _) b6
  have h7 := h5.below b6
  clear B5 h5 b6
  go_wp2_with fail
  refine (eqS_same _ _ _ _ vs w6 h7 h6 LS.out).mono ?_
  rintro r w7 ⟨rfl, b7⟩
  have B7 := below_step B6 (Nat.le_refl _) b7
  clear b7 B6 h6 h7
  go_wp2
  go_ret
  exact ⟨rfl, B7⟩
end Go.Proofs.YtiimegahhnjjkaaDoor
