/- How a history that is handed to a law is opened; the law on HistoryOK, walked (stage 8). -/
import Derived.Test.YtlcgmifibekegaaHoD
import Derived.Deep.Slices
import Derived.Deep.Strs
import Derived.Deep.DeepHandedRow
import Derived.Lib.SmallJoins
namespace Go.Proofs.Ytlcgmifibekegaa
open Go.ChangeShapes Go.WideShapes Go.ChangeAt Go.RowKit Go.Joins

theorem cells130 : Try.prog.cellsOf 130 = 4 := by kernel_rfl
theorem cells9 : Try.prog.cellsOf 9 = 1 := by kernel_rfl
theorem cells3 : Try.prog.cellsOf 3 = 1 := by kernel_rfl
theorem exists_listH {P : Nat → TH → Prop} : ∀ n, (∀ i, i < n → ∃ v, P i v) → ∃ vs : List TH, vs.length = n ∧ ∀ i, i < n → P i (nthH vs i)
  | 0, _ => ⟨[], rfl, fun i hi => by omega⟩
  | n + 1, h => by
    obtain ⟨vs, hl, hv⟩ := exists_listH n (fun i hi => h i (by omega))
    obtain ⟨v, hp⟩ := h n (by omega)
    refine ⟨vs ++ [v], by simp [hl], fun i hi => ?_⟩
    by_cases e : i = n
    · subst e
      have : nthH (vs ++ [v]) i = v := by unfold nthH; simp [List.getD_eq_getElem?_getD, hl]
      rw [this]; exact hp
    · have : nthH (vs ++ [v]) i = nthH vs i := by unfold nthH; rw [List.getD_eq_getElem?_getD, List.getD_eq_getElem?_getD, List.getElem?_append_left (by omega)]
      rw [this]; exact hv i (by omega)
set_option maxRecDepth 100000 in
theorem open_rowH {H : Type} {enc : TypeId × Value → H} {W : World} {fuel : Nat} {v : Value} {x : DataW H × List MemPlace}
    (hf : DataW.trod enc Try.prog W 0 (fun _ => true) true fuel 64 [v] = some x) : ∃ a len cap, v = .slice a len cap ∧ ∃ ns : List TH, ns.length = len ∧ RowH W a ns ∧ len ≤ maxLen := by
  rcases Deep.open_slice Try.underlying64 hf with ⟨hcs, _⟩ | ⟨ad, l, c, m, n, D, Pl, hcs, _, hl, hm, hmm, _, hel⟩
  · simp at hcs
    exact ⟨none, 0, 0, hcs, [], rfl, fun i hi => by simp at hi, Nat.zero_le _⟩
  · simp at hcs hmm
    subst hcs hmm
    refine ⟨_, _, _, rfl, ?_⟩
    rw [cells130] at hel
    have key : ∀ i, i < l → ∃ p : TH, ∃ b off, some ad = some ⟨b, off, none⟩ ∧ b < W.heap.size ∧ CellH W b (off + i * 4) p ∧ p.2.2.1.size ≤ maxLen ∧ p.2.2.2.size ≤ maxLen := fun i hi => by
      obtain ⟨cs', h1, h2⟩ := hel i (by omega)
      obtain ⟨_, hlen, hcell⟩ := World.cells?_some h1
      match cs', hlen with
      | [c0, c1, c2, c3], _ =>
        obtain ⟨y0, y1, y2, y3, n', _, _, e0, e1, e2, e3⟩ := trod_struct4 Try.underlying130 h2
        simp [cells9, cells3] at e0 e1 e2 e3
        obtain ⟨p0, q0, _, _⟩ := DataW.trod_int Try.underlying3 e0
        obtain ⟨p1, q1, _, _⟩ := DataW.trod_int Try.underlying3 e1
        obtain ⟨k, q2, _, z2⟩ := DataW.trod_string Try.underlying9 e2
        obtain ⟨v, q3, _, z3⟩ := DataW.trod_string Try.underlying9 e3
        simp at q0 q1 q2 q3
        subst q0 q1 q2 q3
        have d0 := hcell 0 (by omega)
        have d1 := hcell 1 (by omega)
        have d2 := hcell 2 (by omega)
        have d3 := hcell 3 (by omega)
        obtain ⟨b, off, spot⟩ := ad
        obtain ⟨cs0, g1, _⟩ := hel 0 (by omega)
        have hs : spot = none := by
          have := World.cell?_spot ((World.cells?_some g1).2.2 0 (by omega) |>.trans (List.getElem?_eq_getElem (by rw [(World.cells?_some g1).2.1]; omega)))
          simpa [Addr.add] using this
        subst hs
        rw [add_plain, add_plain] at d0 d1 d2 d3
        exact ⟨(p0, p1, k, v), b, off, rfl, World.block_lt_of_cell? W _ d0, ⟨d0, d1, d2, d3⟩, z2, z3⟩
    obtain ⟨ns, hpl, hps⟩ := exists_listH l key
    exact ⟨ns, hpl, fun i hi => hps i (by omega), Nat.le_trans hl hm⟩

set_option maxRecDepth 100000 in
set_option maxHeartbeats 4000000 in
theorem lawHistoryOK (a : Option Addr) (cap : Nat) (ss : List TH) (w : World) (hv : RowH w a ss) (lv : ss.length ≤ maxLen) :
    Calls Try.prog 6 #[.slice a ss.length cap] w fun r w' => r = .returned (.bool true) ∧ Below w.heap.size w w' := by
  have H : Hid (RowH w a ss) := hv
  have M : Hid (ss.length ≤ maxLen) := lv
  clear hv lv
  go_enter Try.func6, Try.ntmps6
  go_wp2_with fail
  refine (szH_any a cap ss 1048576 w H.out M.out (by omega) (by omega)).mono ?_
  rintro r w1 ⟨x, rfl, x0, x1, x2, B1⟩
  by_cases hx : x < 0
  · clear x2
    go_wp2
    go_ret
    exact ⟨rfl, B1⟩
  have L : Hid (ss.length ≤ 1048576 ∧ ∀ i, i < ss.length → SmallH (nthH ss i)) := ⟨by have := (x2 (by omega)).1; omega, (x2 (by omega)).2⟩
  clear x2
  go_wp2_with fail
  refine (toH_any a cap ss w1 (H.out.below B1) L.out.1).mono ?_
  rintro r w2 ⟨g1, rfl, G1, S1, b2⟩
  have B2 := below_step B1 (Nat.le_refl _) b2
  have K1 : Hid (RowH w2 (some ⟨g1, 0, none⟩) ss) := S1.row L.out.2
  clear S1 b2 B1 G1
  go_wp2_with fail
  refine (specHistoryOK_any _ _ ss w2 K1.out L.out.1).mono ?_
  rintro r w3 ⟨rfl, b3⟩
  have B3 := below_step B2 (Nat.le_refl _) b3
  clear K1 b3 B2
  go_wp2_with fail
  refine (toH_any a cap ss w3 (H.out.below B3) L.out.1).mono ?_
  rintro r w4 ⟨g2, rfl, G2, S2, b4⟩
  have B4 := below_step B3 (Nat.le_refl _) b4
  have K2 : Hid (RowH w4 (some ⟨g2, 0, none⟩) ss) := S2.row L.out.2
  clear S2 b4 B3 G2
  go_wp2_with fail
  refine (implHistoryOK_any _ _ ss w4 K2.out L.out.1).mono ?_
  rintro r w5 ⟨rfl, b5⟩
  have B5 := below_step B4 (Nat.le_refl _) b5
  have K5 : Hid (RowH w5 (some ⟨g2, 0, none⟩) ss) := K2.out.below b5
  clear K2 b5 B4
  generalize asB (HistP ss) = ans
  go_wp2_with fail
  refine (toH_any a cap ss w5 (H.out.below B5) L.out.1).mono ?_
  rintro r w6 ⟨g3, rfl, G3, S3, b6⟩
  have B6 := below_step B5 (Nat.le_refl _) b6
  have K6 : Hid (RowH w6 (some ⟨g2, 0, none⟩) ss ∧ RowH w6 (some ⟨g3, 0, none⟩) ss) := ⟨K5.out.below b6, S3.row L.out.2⟩
  clear S3 b6 B5 G3 K5
  go_wp2_with fail
  refine (eqH_same _ _ _ _ ss w6 K6.out.1 K6.out.2 L.out.1).mono ?_
  rintro r w7 ⟨rfl, b7⟩
  have B7 := below_step B6 (Nat.le_refl _) b7
  clear K6 b7 B6
  go_wp2
  go_ret
  exact ⟨rfl, B7⟩
end Go.Proofs.Ytlcgmifibekegaa
