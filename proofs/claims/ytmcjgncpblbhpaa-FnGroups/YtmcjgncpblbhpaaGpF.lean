/- impl's GroupRows (stage 13). -/
import Derived.Test.YtmcjgncpblbhpaaGpE
import Derived.Deep.RegionHeld3
namespace Go.Proofs.Ytmcjgncpblbhpaa
open Go.RowKit

/-- Every row has all columns. -/
def allC (cs : List Int) (rs : Rs) : Bool := !rs.any fun vs => !hasC cs vs
theorem allC_true {cs : List Int} {rs : Rs} (h : allC cs rs = true) : ∀ x, x < rs.length → ∀ i, i < cs.length → 0 ≤ nthC cs i ∧ nthC cs i < (nthR rs x).length := fun x hx => by
  unfold allC at h
  simp only [Bool.not_eq_true', List.any_eq_false, Bool.not_eq_true', Bool.not_eq_false] at h
  rw [nthR_get hx]
  exact hasC_true (h _ (List.getElem_mem hx))
theorem allC_good {cs : List Int} {rs : Rs} (h : ∀ x, x < rs.length → hasC cs (nthR rs x) = true) : allC cs rs = true := by
  unfold allC
  simp only [Bool.not_eq_true', List.any_eq_false, Bool.not_eq_true', Bool.not_eq_false]
  intro vs hv
  obtain ⟨i, hi, rfl⟩ := List.getElem_of_mem hv
  rw [← nthR_get hi]
  exact h i hi
theorem allC_bad {cs : List Int} {rs : Rs} {x i : Nat} (hx : x < rs.length) (hi : i < cs.length) (h : ¬ (0 ≤ nthC cs i ∧ nthC cs i < (nthR rs x).length)) : allC cs rs = false := by
  cases e : allC cs rs with
  | false => rfl
  | true => exact absurd (allC_true e x hx i hi) h
/-- The code of GroupRows. -/
def grC (cs : List Int) (rs : Rs) : Int := if 4096 < cs.length ∨ 4096 < rs.length then 2 else if okRs 16 rs = true then (if allC cs rs = true then 0 else 4) else 1
/-- Its groups. -/
noncomputable def grR (cs : List Int) (rs : Rs) : Gs := if grC cs rs = 0 then gsOf cs rs else []
/-- What GroupRows answers. -/
def RetQ (cs : List Int) (rs : Rs) (w : World) (r : Ending) (w' : World) : Prop := ∃ a c, r = .returned (.tuple #[.slice a (grR cs rs).length c, .int .i64 (grC cs rs)]) ∧ OwnG w' w.heap.size w'.heap.size a (grR cs rs) ∧ Below w.heap.size w w'
theorem RetQ.bad {cs : List Int} {rs : Rs} {w w' : World} {c : Int} {a : Option Addr} {k : Nat} (hc : grC cs rs = c) (h : c ≠ 0) (hb : Below w.heap.size w w') : RetQ cs rs w (.returned (.tuple #[.slice a 0 k, .int .i64 c])) w' := by
  have : grR cs rs = [] := if_neg (by rw [hc]; exact h)
  refine ⟨a, k, by rw [hc, this]; rfl, ?_, hb⟩
  rw [this]
  exact .inl rfl
theorem RetQ.good {cs : List Int} {rs : Rs} {w w' : World} {a : Option Addr} {k : Nat} (hc : grC cs rs = 0) (hv : OwnG w' w.heap.size w'.heap.size a (gsOf cs rs)) (hb : Below w.heap.size w w') : RetQ cs rs w (.returned (.tuple #[.slice a (gsOf cs rs).length k, .int .i64 0])) w' := by
  have : grR cs rs = gsOf cs rs := if_pos hc
  refine ⟨a, k, by rw [hc, this], ?_, hb⟩
  rw [this]
  exact hv
theorem OwnG.wide {w : World} {lo lo' hi : Nat} {a : Option Addr} {gs : Gs} (h : OwnG w lo hi a gs) (hl : lo' ≤ lo) : OwnG w lo' hi a gs := by
  rcases h with h | ⟨g, cur, cs, ax, S, e, h1, h2, hh, hc, hd⟩
  · exact .inl h
  · refine .inr ⟨g, cur, cs, ax, S, e, by omega, h2, hh, fun i hi' => ⟨(hc i hi').1, ?_, (hc i hi').2.2⟩, hd⟩
    have := (hc i hi').2.1
    rcases this with h | ⟨g2, cur2, gs2, ns2, cs2, ax2, e2, s1, s2, hh2, hc2, hd2⟩
    · exact .inl h
    · exact .inr ⟨g2, cur2, gs2, ns2, cs2, ax2, e2, s1, ⟨by have := s2.1; omega, s2.2⟩, hh2, fun j hj => ⟨(hc2 j hj).1, fun p => by
        obtain ⟨q1, q2, q3, q4, q5, q6⟩ := (hc2 j hj).2 p
        exact ⟨q1, q2, q3, ⟨by have := q4.1; omega, q4.2⟩, q5, q6⟩⟩, hd2⟩
theorem columnsOrder_ip (ad : Option Addr) (cs : List Int) (cd : Nat) (w : World) (h : InA w ad cs) : Calls Try.prog 57 #[.slice ad cs.length cd] w fun e w' => ∃ gd, e = .returned (.func (.func 84) #[] #[.pointer (some ⟨gd, 0, none⟩)]) ∧ InP w' gd cs ∧ Below w.heap.size w w' := by
  refine (columnsOrder_any ad cs.length cd w).mono ?_
  rintro e w' ⟨rfl, rfl⟩
  have hb : Below w.heap.size w (w.alloc (.cells #[.slice ad cs.length cd] 43)) := (Below.refl _ _).alloc (Nat.le_refl _) _
  exact ⟨w.heap.size, rfl, ⟨by simp, ad, cd, by simp, h.below hb⟩, hb⟩
/-- A box; what lay in w lies there still. -/
abbrev StK (w : World) (gx : Nat) (v : Value) (w' : World) : Prop := w'.cell? ⟨gx, 0, none⟩ = some v ∧ gx < w'.heap.size ∧ Below w.heap.size w w'
theorem StK.keep {w : World} {gx : Nat} {v : Value} {w1 w2 : World} (h : StK w gx v w1) (hb : Below w1.heap.size w1 w2) : StK w gx v w2 := ⟨(hb.cell (p := ⟨gx, 0, none⟩) h.2.1).trans h.1, Nat.lt_of_lt_of_le h.2.1 hb.size, below_step h.2.2 (Nat.le_refl _) hb⟩
set_option maxRecDepth 100000 in
set_option maxHeartbeats 8000000 in
theorem implGroup_any (ai : Option Addr) (ci gr cr : Nat) (cs : List Int) (rs : Rs) (w : World) (hi : InA w ai cs) (hr : RowA w (some ⟨gr, 0, none⟩) rs) (lgr : gr < w.heap.size) (sr : SmallR rs) (sc : cs.length ≤ 1048576) (ht : TextR rs) :
    Calls Try.prog 19 #[.slice ai cs.length ci, .slice (some ⟨gr, 0, none⟩) rs.length cr] w (RetQ cs rs w) := by
  have lr := sr.1
  have b0 : Below w.heap.size w (w.alloc (.cells #[.slice ai cs.length ci] 43)) := (Below.refl _ _).alloc (Nat.le_refl _) _
  by_cases h1 : 4096 < cs.length ∨ 4096 < rs.length
  · have HC : Hid (grC cs rs = 2) := if_pos h1
    clear hi hr sr ht
    generalize cs.length = n at *
    generalize rs.length = l at *
    by_cases h2 : 4096 < n
    · have h2I : (4096 : Int) < (n : Int) := by omega
      go_enter Try.func19, Try.ntmps19
      go_wp2
      go_ret2
      exact RetQ.bad HC.out (by omega) b0
    · have h2I : ¬ (4096 : Int) < (n : Int) := by omega
      have h3I : (4096 : Int) < (l : Int) := by omega
      go_enter Try.func19, Try.ntmps19
      go_wp2
      go_ret2
      exact RetQ.bad HC.out (by omega) b0
  have HC0 : grC cs rs = if okRs 16 rs = true then (if allC cs rs = true then 0 else 4) else 1 := if_neg h1
  have g1 : ¬ (4096 : Int) < (cs.length : Int) := by omega
  have g2 : ¬ (4096 : Int) < (rs.length : Int) := by omega
  have HB : Hid (∀ W, Below (w.alloc (.cells #[.slice ai cs.length ci] 43)).heap.size (w.alloc (.cells #[.slice ai cs.length ci] 43)) W → Below w.heap.size w W) := fun W hW => b0.trans (hW.mono b0.size)
  have HX : Hid (∀ W, Below (w.alloc (.cells #[.slice ai cs.length ci] 43)).heap.size (w.alloc (.cells #[.slice ai cs.length ci] 43)) W → W.cell? ⟨w.heap.size, 0, none⟩ = some (.slice ai cs.length ci) ∧ w.heap.size < W.heap.size) := fun W hW => ⟨(hW.cell (p := ⟨w.heap.size, 0, none⟩) (by simp)).trans (by simp), Nat.lt_of_lt_of_le (by simp) hW.size⟩
  have A1 := rowsOK_any 16 rs (some ⟨gr, 0, none⟩) cr (w.alloc (.cells #[.slice ai cs.length ci] 43)) (hr.row.below b0) sr
  have A3 : Hid (∀ W, Below (w.alloc (.cells #[.slice ai cs.length ci] 43)).heap.size (w.alloc (.cells #[.slice ai cs.length ci] 43)) W → Calls Try.prog 45 #[.slice (some ⟨gr, 0, none⟩) rs.length cr, .func (.func 54) #[] #[.pointer (some ⟨w.heap.size, 0, none⟩)]] W fun e w' => e = .returned (.bool (rs.any fun vs => !hasC cs vs)) ∧ Below W.heap.size W w') := fun W hW =>
    containsFuncR_any rs _ 54 _ (some ⟨gr, 0, none⟩) cr W (hr.row.below (HB.out W hW)) (small_max sr.1) ⟨ent54, fun W' hb vs a c _ _ => lacks_any cs vs a c w.heap.size W' ⟨(HX.out W' (below_step hW (Nat.le_refl _) hb)).2, ai, ci, (HX.out W' (below_step hW (Nat.le_refl _) hb)).1, hi.below (HB.out W' (below_step hW (Nat.le_refl _) hb))⟩ (small_max sc)⟩
  cases o1 : okRs 16 rs with
  | false =>
    have HC : Hid (grC cs rs = 1) := by show _ = _; rw [HC0, o1]; simp
    rw [o1] at A1
    clear HC0 o1 hi hr sr ht A3 HX h1
    generalize cs.length = n at *
    generalize rs.length = l at *
    go_enter Try.func19, Try.ntmps19
    go_wp2_with (go_at_call 39; refine A1.mono ?_; rintro e w1 ⟨rfl, b1⟩)
    go_ret2
    exact RetQ.bad HC.out (by omega) (HB.out _ b1)
  | true =>
    rw [o1] at A1
    have hal : (rs.any fun vs => !hasC cs vs) = !allC cs rs := by unfold allC; simp
    rw [hal] at A3
    clear hal
    cases ha : allC cs rs with
    | false =>
      have HC : Hid (grC cs rs = 4) := by show _ = _; rw [HC0, o1, ha]; simp
      rw [ha] at A3
      clear HC0 o1 ha hi hr sr ht HX h1
      generalize cs.length = n at *
      generalize rs.length = l at *
      go_enter Try.func19, Try.ntmps19
      go_wp2_with (first | (go_at_call 39; refine A1.mono ?_; rintro e w1 ⟨rfl, b1⟩; clear A1) | (go_at_call 45; refine (A3.out _ b1).mono ?_; rintro e w2 ⟨rfl, b2⟩))
      go_ret2
      exact RetQ.bad HC.out (by omega) (below_step (HB.out _ b1) (Nat.le_refl _) b2)
    | true =>
      have HC : Hid (grC cs rs = 0) := by show _ = _; rw [HC0, o1, ha]; simp
      rw [ha] at A3
      have l4 := (small16 o1).1
      obtain ⟨k, hk, hck⟩ := hr.cel
      have CP : Hid (∀ W, Below w.heap.size w W → Calls Try.prog 47 #[.slice (some ⟨gr, 0, none⟩) rs.length cr] W fun e w' => ∃ g c, e = .returned (.slice (some ⟨g, 0, none⟩) rs.length c) ∧ W.heap.size ≤ g ∧ g < w'.heap.size ∧ BldR w' W.heap.size w'.heap.size (.slice (some ⟨g, 0, none⟩) rs.length c) rs ∧ Below W.heap.size W w') := fun W hW => copyRows_at gr 0 cr rs k W (hk.below hW) (by omega) (small16 o1).2 (fun x hx => (hW.cell (p := ⟨gr, 0 + x, none⟩) lgr).trans (hck x hx)) (Nat.lt_of_lt_of_le lgr hW.size)
      have CO : Hid (∀ W, Below w.heap.size w W → Calls Try.prog 57 #[.slice ai cs.length ci] W fun e w' => ∃ gd, e = .returned (.func (.func 84) #[] #[.pointer (some ⟨gd, 0, none⟩)]) ∧ InP w' gd cs ∧ Below W.heap.size W w') := fun W hW => columnsOrder_ip ai cs ci W (hi.below hW)
      have PO : Hid (∀ W g c gd B hi, BldR W B hi (.slice (some ⟨g, 0, none⟩) rs.length c) rs → B ≤ W.heap.size → g < W.heap.size → InP W gd cs → Calls Try.prog 56 #[.slice (some ⟨g, 0, none⟩) rs.length c, .func (.func 84) #[] #[.pointer (some ⟨gd, 0, none⟩)]] W fun e w' => ∃ a c', e = .returned (.slice a (gsOf cs rs).length c') ∧ OwnG w' B w'.heap.size a (gsOf cs rs) ∧ Below W.heap.size W w') := fun W g c gd B hi hB hBW hg hin => parted_own g c rs.length rs cs gd B hi W hB hBW rfl l4 hg hin (allC_true ha) (by omega) ht
      clear HC0 o1 ha hi hr sr ht h1 hk hck
      generalize hnl : (gsOf cs rs).length = gl at *
      have HGL : Hid ((gsOf cs rs).length = gl) := hnl
      clear hnl
      generalize cs.length = n at *
      generalize rs.length = l at *
      go_enter Try.func19, Try.ntmps19
      go_wp2_with (first | (go_at_call 39; refine A1.mono ?_; rintro e w1 ⟨rfl, b1⟩; clear A1) | (go_at_call 45; refine (A3.out _ b1).mono ?_; rintro e w2 ⟨rfl, b2⟩; clear A3))
      have B2 := below_step b1 (Nat.le_refl _) b2
      have HBW : Hid (∀ W, Below w2.heap.size w2 W → Below w.heap.size w W) := fun W hW => below_step (HB.out _ B2) (Nat.le_refl _) hW
      have hP : StK w2 w.heap.size (.slice ai n ci) w2.drew := ⟨(HX.out _ B2).1, (HX.out _ B2).2, (Below.refl _ _).drew⟩
      have L2 : Hid (w.heap.size ≤ w2.heap.size) := (HB.out _ B2).size
      clear b1 b2 B2 HB HX
      go_wp2_with fail
      go_region_held3 (StK w2 w.heap.size (.slice ai n ci)) (first | exact hP | exact StK.keep (by assumption) hb)
        (first
        | (go_at_call 47; refine (CP.out _ (HBW.out _ (show StK w2 w.heap.size (.slice ai n ci) _ by assumption).2.2)).mono ?_; rintro e wA ⟨g, c, rfl, hg1, hg2, KB0, hb⟩; have KB := And.intro (KB0.base (show StK w2 w.heap.size (.slice ai n ci) _ by assumption).2.2.size) hg2; clear KB0 hg1 hg2; (try have KF := KF.below hb))
        | (go_at_call 57; refine (CO.out _ (HBW.out _ (show StK w2 w.heap.size (.slice ai n ci) _ by assumption).2.2)).mono ?_; rintro e wA ⟨gd, rfl, KF, hb⟩; (try have KB := And.intro (KB.1.below hb) (Nat.lt_of_lt_of_le KB.2 hb.size)))
        | (go_at_call 56; refine (PO.out _ g c gd _ _ KB.1 (show StK w2 w.heap.size (.slice ai n ci) _ by assumption).2.2.size KB.2 KF).mono ?_; rintro e wA ⟨a9, c9, rfl, OG, hb⟩)
        | fail)
      rename_i hLL
      have hE := HBW.out wA hLL.2.2
      have HR : Hid (RetQ cs rs w (.returned (.tuple #[.slice a9 gl c9, .int .i64 0])) wA) := by
        have := RetQ.good (k := c9) HC.out (OG.wide L2.out) hE
        rw [HGL.out] at this
        exact this
      clear hLL hE OG KB KF hb hP HGL HC
      go_wp2
      go_ret2
      exact HR.out
end Go.Proofs.Ytmcjgncpblbhpaa
