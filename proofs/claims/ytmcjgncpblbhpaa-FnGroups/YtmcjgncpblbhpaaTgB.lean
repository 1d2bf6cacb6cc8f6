/- For every two lists of bytes, FnGroups returns true: the groups that impl.GroupRows makes of drawn rows by one column are the specification's, none is empty, all rows of one have the same value, the values rise from group to group, and together they are the rows; both lists read as before. (GpL, PrH, PdA, FgM, FgL, ByA, FnGroups as one.) -/
import Derived.Test.YtmcjgncpblbhpaaGpI
import Derived.BigQuiet
import Derived.Test.YtmcjgncpblbhpaaPrG
import Derived.Test.YtmcjgncpblbhpaaTgA
namespace Go.Proofs.Ytmcjgncpblbhpaa
open Go.RowKit


theorem OwnY.mono {w : World} {S S' T T' : Nat → Prop} {a : Option Addr} {rs : Rs} {P : Nat → Nat → Nat → Prop} (h : OwnY w S T a rs P) (hS : ∀ b, S b → S' b) (hT : ∀ b, T b → T' b) : OwnY w S' T' a rs P := by
  rcases h with h | ⟨g, cur, gs, ns, cs, ax, e, h1, h2, hh, hc, hd⟩
  · exact .inl h
  · refine .inr ⟨g, cur, gs, ns, cs, ax, e, hS _ h1, hT _ h2, hh, fun i hi' => ⟨(hc i hi').1, fun h0 => ?_⟩, hd⟩
    obtain ⟨q1, q2, q3, q4, q5, q6⟩ := (hc i hi').2 h0
    exact ⟨q1, q2, hS _ q3, hT _ q4, q5, q6⟩
theorem OwnR.toS {w : World} {lo hi B top : Nat} {a : Option Addr} {rs : Rs} (h : OwnR w lo hi a rs) (hB : B ≤ lo) (ht : hi ≤ top) : OwnS w (Rng lo hi) (Rng B top) a rs := by
  rcases h with h | ⟨g, cur, gs, ns, cs, ax, e, h1, h2, hh, hc, hd⟩
  · exact .inl h
  · refine .inr ⟨g, cur, gs, ns, cs, ax, e, ⟨h1, h2⟩, ⟨by omega, by omega⟩, hh, fun i hi' => ⟨(hc i hi').1, fun h0 => ?_⟩, hd⟩
    obtain ⟨q1, q2, q3, q4, q5, q6⟩ := (hc i hi').2 h0
    exact ⟨q1, q2, ⟨q3, q4⟩, ⟨by omega, by omega⟩, q5, q6⟩
/-- A list of groups of the call's own; each group lies in a range of its own below top. -/
def BldG (w : World) (B top : Nat) (v : Value) (gs : Gs) : Prop := ∃ (xs : List Value) (cs lo hi : Nat → Nat) (ax : Nat → Option Addr), w.ownsRow B 23 1 v gs.length xs ∧ (∀ g, v.ownBlock = some g → g < top ∧ ∀ i, i < gs.length → ¬ Rng (lo i) (hi i) g) ∧
  (∀ i, i < gs.length → xs[i]? = some (.slice (ax i) (nthG gs i).length (cs i)) ∧ hi i ≤ top ∧ OwnS w (Rng (lo i) (hi i)) (Rng B top) (ax i) (nthG gs i)) ∧ ∀ i j, i < j → j < gs.length → hi i ≤ lo j
theorem BldG.empty {w : World} {B : Nat} (hB : B ≤ w.heap.size) : BldG (w.alloc (.cells #[] 23)) B (w.heap.size + 1) (.slice (some ⟨w.heap.size, 0, none⟩) 0 0) [] :=
  ⟨[], fun _ => 0, fun _ => 0, fun _ => 0, fun _ => none, ⟨rfl, .inr ⟨w.heap.size, 0, #[], rfl, hB, heap_alloc_new w _, by simp, by simp, by simp, by simp⟩⟩, fun g hg => ⟨by simp [Value.ownBlock] at hg; omega, fun i hi => by simp at hi⟩, fun i hi => by simp at hi, fun i j _ hj => by simp at hj⟩
theorem BldG.below {w w' : World} {B top : Nat} {v : Value} {gs : Gs} (h : BldG w B top v gs) (hb : Below w.heap.size w w') : BldG w' B top v gs := by
  obtain ⟨xs, cs, lo, hi, ax, ho, hv, hr, hd⟩ := h
  exact ⟨xs, cs, lo, hi, ax, owns_below ho hb, hv, fun i hi => ⟨(hr i hi).1, (hr i hi).2.1, (hr i hi).2.2.below hb⟩, hd⟩
theorem BldG.ownG {w : World} {B top : Nat} {v : Value} {gs : Gs} (h : BldG w B top v gs) (ht : top ≤ w.heap.size) : ∃ a c, v = .slice a gs.length c ∧ OwnG w B w.heap.size a gs := by
  obtain ⟨xs, cs, lo, hi, ax, ⟨hx, ho⟩, hv, hr, hd⟩ := h
  rcases ho with ⟨rfl, h0⟩ | ⟨g, cap, cur, rfl, hg, hh, hc, _, hs, htk⟩
  · exact ⟨none, 0, by rw [h0], .inl h0⟩
  · refine ⟨_, cap, rfl, .inr ⟨g, cur, cs, ax, fun i => Rng (lo i) (hi i), rfl, hg, slab_lt hh, hh, fun i hi' => ⟨?_, (hr i hi').2.2.mono (fun _ h => h) (fun b h => ⟨h.1, by have := h.2; omega⟩), (hv g rfl).2 i hi'⟩, fun i j x hij hj hi1 hi2 => ?_⟩⟩
    · have e1 := (hr i hi').1
      rw [← htk, List.getElem?_take, if_pos (by omega)] at e1
      rw [← Array.getElem?_toList]; exact e1
    · have := hd i j hij hj
      have h1 := hi1.2
      have h2 := hi2.1
      omega
set_option maxRecDepth 100000 in
/-- One more group. -/
theorem app_Gs {w : World} {B top lo2 hi2 b c cap : Nat} {v : Value} {gs : Gs} {rs : Rs} {a : Option Addr} (h : BldG w B top v gs) (hB : B ≤ w.heap.size) (hl : gs.length ≤ 400) (hc : w.cell? ⟨b, 0, none⟩ = some (.slice a rs.length cap)) (ho : OwnS w (Rng lo2 hi2) (Rng B hi2) a rs) (ht : top ≤ lo2) (hlh : lo2 ≤ hi2) (hw : hi2 ≤ w.heap.size) :
    ∃ v' w', (Builtin.append_ #[40, 40] 40 #[v, .slice (some ⟨b, 0, none⟩) 1 c]).run Try.prog w = .ok v' w' ∧ BldG w' B w'.heap.size v' (gs ++ [rs]) ∧ ∀ w0, Below B w0 w → Below B w0 w' := by
  obtain ⟨i0, hi1, hz0, hz1, hz2⟩ := info_parts infoG
  obtain ⟨xs, cs, lo, hi, ax, hw1, hv, hr, hd⟩ := h
  obtain ⟨v', w', h1, h2, h3, h4, h5⟩ := run_append_own_at (P := Try.prog) (w := w) B 40 40 23 i0 _ 1 24 Try.underlying40 hi1 hz0 hz1 hz2 rfl (by decide) v gs.length xs hw1 ⟨b, 0, none⟩ 1 c [.slice a rs.length cap] rfl (fun j u hj => by
    cases j with
    | zero => simp at hj; subst hj; rw [add_plain]; exact hc
    | succ j => simp at hj) (by intro u hu; simp at hu; subst hu; rfl) (by unfold maxLen; omega) (by omega) hB
  have hxl : xs.length = gs.length := by have := hw1.1; omega
  have hsz : w.heap.size ≤ w'.heap.size := h3.size
  have hgo : ∀ g, v.ownBlock = some g → B ≤ g ∧ g < w.heap.size := fun g e => by
    obtain ⟨_, q2⟩ := hw1
    rcases q2 with ⟨rfl, _⟩ | ⟨g2, cap2, cur2, rfl, hg2, hh2, _⟩
    · simp [Value.ownBlock] at e
    · simp [Value.ownBlock] at e; subst e; exact ⟨hg2, slab_lt hh2⟩
  refine ⟨v', w', h1, ⟨_, fun i => if i < gs.length then cs i else cap, fun i => if i < gs.length then lo i else lo2, fun i => if i < gs.length then hi i else hi2, fun i => if i < gs.length then ax i else a, by rw [List.length_append]; exact h2, fun g e => ⟨?_, fun i hi' => ?_⟩, fun i hi' => ?_, fun i j hij hj => ?_⟩, fun w0 hb => hb.grown h3 hB fun j e => (hgo j e).1⟩
  · obtain ⟨_, q2⟩ := h2
    rcases q2 with ⟨rfl, _⟩ | ⟨g2, cap2, cur2, rfl, hg2, hh2, _⟩
    · simp [Value.ownBlock] at e
    · simp [Value.ownBlock] at e; subst e; exact slab_lt hh2
  · have hg2 : v.ownBlock = some g ∨ g = w.heap.size := by
      rcases h5 with h | h
      · exact .inl (by rw [← h]; exact e)
      · rw [e] at h; exact .inr (by simpa using h)
    by_cases hlt : i < gs.length
    · simp only [if_pos hlt]
      rcases hg2 with h | h
      · exact (hv g h).2 i hlt
      · intro hR; have := hR.2; have := (hr i hlt).2.1; omega
    · simp only [if_neg hlt]
      rcases hg2 with h | h
      · intro hR; have := hR.1; have := (hv g h).1; omega
      · intro hR; have := hR.2; omega
  · by_cases hlt : i < gs.length
    · simp only [if_pos hlt]
      rw [nthG_left hlt]
      refine ⟨by rw [List.getElem?_append_left (by omega)]; exact (hr i hlt).1, by have := (hr i hlt).2.1; omega, ?_⟩
      have hS := (hr i hlt).2.2
      exact (OwnS.block hS (w' := w') fun g hg _ hl2 => h3.block g hl2 (fun e => (hv g e.symm).2 i hlt hg)).mono (fun _ h => h) (fun b h => ⟨h.1, by have := h.2; omega⟩)
    · have hi2' : i = gs.length := by rw [List.length_append] at hi'; simp at hi'; omega
      subst hi2'
      simp only [if_neg hlt]
      rw [nthG_last]
      refine ⟨by rw [List.getElem?_append_right (by omega), hxl]; simp, by omega, ?_⟩
      exact (OwnS.block ho (w' := w') fun g hg _ hl2 => h3.block g hl2 (fun e => by have := hg.1; have := (hv g e.symm).1; omega)).mono (fun _ h => h) (fun b h => ⟨h.1, by have := h.2; omega⟩)
  · rw [List.length_append] at hj
    simp at hj
    by_cases hlj : j < gs.length
    · simp only [if_pos hlj, if_pos (show i < gs.length by omega)]
      exact hd i j hij hlj
    · simp only [if_neg hlj, if_pos (show i < gs.length by omega)]
      have := (hr i (by omega)).2.1
      omega
/-- The rows of a group can be read. -/
theorem GrpB.rowA {w : World} {g : Nat} {kr : Cel} {l : List Nat} {rs : Rs} (h : GrpB w g kr l) (hk : CelR w kr rs) (hz : ∀ x ∈ l, x < rs.length) (hl : ∀ i, i < rs.length → (nthR rs i).length ≤ 4096) : RowA w (some ⟨g, 0, none⟩) (l.map (nthR rs)) := fun i hi => by
  rw [List.length_map] at hi
  obtain ⟨e1, p1, o1, f1, r1⟩ := hk _ (hz _ (mem_nthN hi))
  rw [nthR_mapN hi]
  refine ⟨g, 0, p1, o1, kr.c (nthN l i), rfl, h.lt, ?_, r1, by have := hl _ (hz _ (mem_nthN hi)); unfold maxLen; omega⟩
  rw [Nat.zero_add, h.cell hi, Cel.v, f1, e1]
theorem gs_take {gs : Gs} {q : Nat} (h : q < gs.length) : gs.take (q + 1) = gs.take q ++ [nthG gs q] := by
  rw [List.take_add_one, List.getElem?_eq_getElem h, nthG_get h]; rfl


theorem grp_small {cs : List Int} {rs : Rs} : (grpN cs rs).length ≤ rs.length ∧ ∀ i, i < (grpN cs rs).length → (nthL (grpN cs rs) i).length ≤ rs.length := by
  have h := grpN_spec cs rs
  have hl : (grpN cs rs).flatten.length = rs.length := by rw [h.1.length_eq, List.length_range]
  refine ⟨by have := runs_len h.2; omega, fun i hi => ?_⟩
  rw [← hl]
  exact (List.sublist_flatten_of_mem (mem_nthL hi)).length_le
set_option maxRecDepth 100000 in
set_option maxHeartbeats 8000000 in
theorem specGroup_any (ai : Option Addr) (ci gr or cr : Nat) (cs : List Int) (rs : Rs) (w : World) (hi : InA w ai cs) (hr : RowA w (some ⟨gr, or, none⟩) rs) (lgr : gr < w.heap.size) (sr : SmallR rs) (sc : cs.length ≤ 1048576) (ht : TextR rs) :
    Calls Try.prog 20 #[.slice ai cs.length ci, .slice (some ⟨gr, or, none⟩) rs.length cr] w (RetQ cs rs w) := by
  have lr := sr.1
  have rf : Below w.heap.size w w := Below.refl _ _
  have AL : ∀ W, Below w.heap.size w W → Below w.heap.size w (W.alloc (.cells #[] 23)) := fun W hW => below_step hW (Nat.le_refl _) ((Below.refl _ _).alloc (Nat.le_refl _) _)
  by_cases h1 : 4096 < cs.length ∨ 4096 < rs.length
  · have HC : Hid (grC cs rs = 2) := if_pos h1
    clear hi hr sr ht
    generalize cs.length = n at *
    generalize rs.length = l at *
    by_cases h2 : 4096 < n
    · have h2I : (4096 : Int) < (n : Int) := by omega
      go_enter Try.func20, Try.ntmps20
      go_wp2
      go_ret2
      exact RetQ.bad HC.out (by omega) (AL w rf)
    · have h2I : ¬ (4096 : Int) < (n : Int) := by omega
      have h3I : (4096 : Int) < (l : Int) := by omega
      go_enter Try.func20, Try.ntmps20
      go_wp2
      go_ret2
      exact RetQ.bad HC.out (by omega) (AL w rf)
  have HC0 : grC cs rs = if okRs 16 rs = true then (if allC cs rs = true then 0 else 4) else 1 := if_neg h1
  have g1 : ¬ (4096 : Int) < (cs.length : Int) := by omega
  have g2 : ¬ (4096 : Int) < (rs.length : Int) := by omega
  have A1 := l13Rows_any 16 (some ⟨gr, or, none⟩) cr rs w hr.row sr (by omega)
  cases o1 : okRs 16 rs with
  | false =>
    have HC : Hid (grC cs rs = 1) := by show _ = _; rw [HC0, o1]; simp
    rw [o1] at A1
    clear HC0 o1 hi hr sr ht h1
    generalize cs.length = n at *
    generalize rs.length = l at *
    go_enter Try.func20, Try.ntmps20
    go_wp2_with (go_at_call 49; refine A1.mono ?_; rintro e w1 ⟨rfl, b1⟩)
    go_ret2
    exact RetQ.bad HC.out (by omega) (AL _ b1)
  | true =>
    rw [o1] at A1
    have l4 := (small16 o1).1
    have hm4 : cs.length ≤ 4096 := by omega
    obtain ⟨kr, hkr, hck⟩ := hr.cel
    have LCW : Hid (∀ x, x < rs.length → ∀ W, Below w.heap.size w W → W.cell? ⟨gr, or + x, none⟩ = some (.slice (kr.a x) (nthR rs x).length (kr.c x))) := fun x hx W hW => (hW.cell (p := ⟨gr, or + x, none⟩) lgr).trans (by rw [hck x hx, Cel.v, (hkr x hx).1])
    have LI : Hid (∀ W, Below w.heap.size w W → InA W ai cs) := fun W hW => hi.below hW
    have HX : Hid (∀ i, i < rs.length → (nthR rs i).length ≤ 16) := (okRs_small o1).2
    have LG : Hid (allC cs rs = true → ∀ W, Below w.heap.size w W → Calls Try.prog 59 #[.slice ai cs.length ci, .slice (some ⟨gr, or, none⟩) rs.length cr] W fun e w' => ∃ v, e = .returned v ∧ v ≠ .slice none 0 0 ∧ OwnL w' W.heap.size v kr (grpN cs rs) ∧ Below W.heap.size W w') := fun ha W hW =>
      l13Group_any ai ci cr gr or rs.length cs.length cs rs kr W (hi.below hW) (fun x hx => (hW.cell (p := ⟨gr, or + x, none⟩) lgr).trans (hck x hx)) (Nat.lt_of_lt_of_le lgr hW.size) (fun x hx => ⟨(hkr x hx).1, by obtain ⟨_, b, o, e, hv⟩ := hkr x hx; rw [e]; exact hv.below hW⟩) rfl rfl l4 hm4 (allC_true ha) ht
    have LO : Hid (∀ W g c i, Below w.heap.size w W → i < (grpN cs rs).length → GrpB W g kr (nthL (grpN cs rs) i) → Calls Try.prog 50 #[.slice (some ⟨g, 0, none⟩) (nthL (grpN cs rs) i).length c] W fun e w' => ∃ a c', e = .returned (.slice a (nthL (grpN cs rs) i).length c') ∧ OwnR w' W.heap.size w'.heap.size a (nthG (gsOf cs rs) i) ∧ Below W.heap.size W w') := fun W g c i hW hi' hg => by
      have hz : ∀ x ∈ nthL (grpN cs rs) i, x < rs.length := (grp_lt (grpN_spec cs rs)).1 _ (mem_nthL hi')
      have := l13Own_any (some ⟨g, 0, none⟩) c ((nthL (grpN cs rs) i).map (nthR rs)) W (hg.rowA (hkr.below hW) hz (small16 o1).2) (by rw [List.length_map]; have := grp_small.2 i hi'; omega) (fun j hj => by
        rw [List.length_map] at hj
        rw [nthR_mapN hj]
        exact (small16 o1).2 _ (hz _ (mem_nthN hj)))
      rw [List.length_map] at this
      refine this.mono ?_
      rintro e w' ⟨v, rfl, hB, hb⟩
      obtain ⟨a, c', rfl, hO⟩ := hB.own
      refine ⟨a, c', by rw [List.length_map], ?_, hb⟩
      show OwnR _ _ _ _ (nthG (rowsG rs (grpN cs rs)) i)
      rw [nthG_map hi']
      exact hO
    have HGS : Hid ((gsOf cs rs).length = (grpN cs rs).length ∧ (grpN cs rs).length ≤ 400 ∧ ∀ i, i < (grpN cs rs).length → (nthG (gsOf cs rs) i).length = (nthL (grpN cs rs) i).length) := ⟨by unfold gsOf; simp, by have := (grp_small (cs := cs) (rs := rs)).1; omega, fun i hi' => by
      show (nthG (rowsG rs (grpN cs rs)) i).length = _
      rw [nthG_map hi', List.length_map]⟩
    have HAG : Hid ((∀ i, i < rs.length → hasC cs (nthR rs i) = true) → allC cs rs = true) := allC_good
    have HAB : Hid (∀ x i, x < rs.length → i < cs.length → ¬ (0 ≤ nthC cs i ∧ nthC cs i < (nthR rs x).length) → grC cs rs = 4) := fun x i hx hi' h => by rw [HC0, o1, allC_bad hx hi' h]; simp
    have HCG : Hid (allC cs rs = true → grC cs rs = 0) := fun h => by rw [HC0, o1, h]; simp
    have HHG : Hid (∀ x, (∀ i, i < cs.length → 0 ≤ nthC cs i ∧ nthC cs i < (nthR rs x).length) → hasC cs (nthR rs x) = true) := fun x h => hasC_good h
    clear hi hr sr ht h1 HC0 o1 hkr hck lgr
    obtain ⟨m, hm⟩ : ∃ m, cs.length = m := ⟨_, rfl⟩
    have HMC : Hid (cs.length = m) := hm
    obtain ⟨n, hn⟩ : ∃ n, rs.length = n := ⟨_, rfl⟩
    rw [hm] at LG HAB HHG g1 hm4 ⊢
    rw [hn] at A1 LCW HX LG HAG HAB g2 l4 ⊢
    clear hm hn lr
    go_enter Try.func20, Try.ntmps20
    go_wp2_with (go_at_call 49; refine A1.mono ?_; rintro e w1 ⟨rfl, b1⟩; clear A1)
    go_loopw [6] (fun i wr => ∃ q : Nat, q ≤ n ∧ i = .int .i64 q ∧ Hid (∀ j, j < q → hasC cs (nthR rs j) = true) ∧ Below w.heap.size w wr) (fun i _ => n - (intOf i).toNat)
    case atStart => exact ⟨0, by omega, rfl, fun j hj => by omega, b1⟩
    case round =>
      rename World => wo
      obtain ⟨i, hin, rfl, HA, hbo⟩ := hrel
      by_cases hiN : i < n
      · have hiI : (i : Int) < (n : Int) := by omega
        go_wp2
        go_loopw [7] (fun k wq => ∃ q : Nat, q ≤ m ∧ k = .int .i64 q ∧ Hid (∀ j, j < q → 0 ≤ nthC cs j ∧ nthC cs j < (nthR rs i).length) ∧ Below w.heap.size w wq) (fun k _ => m - (intOf k).toNat)
        case atStart => exact ⟨0, by omega, rfl, fun j hj => by omega, hbo⟩
        case round =>
          obtain ⟨q, hq, rfl, HB, hbq⟩ := hrel
          by_cases hqm : q < m
          · have hqI : (q : Int) < (m : Int) := by omega
            obtain ⟨bi, oi, rfl, lbi, c1⟩ := (LI.out wr hbq) q (by rw [HMC.out]; exact hqm)
            have c2 := LCW.out i hiN wr hbq
            have hx := HX.out i hiN
            by_cases hok : 0 ≤ nthC cs q ∧ nthC cs q < (nthR rs i).length
            · have HB2 : Hid (∀ j, j < q + 1 → 0 ≤ nthC cs j ∧ nthC cs j < (nthR rs i).length) := fun j hj => by
                rcases Nat.lt_or_ge j q with h | h
                · exact HB.out j h
                · obtain rfl : j = q := by omega
                  exact hok
              have L : ∀ W, Calls Try.prog 58 #[.int .i64 (nthC cs q), .int .i64 0, .int .i64 (((nthR rs i).length : Int) - 1)] W fun e w' => e = .returned (.bool true) ∧ w' = W := fun W => by
                have := l01In_any (nthC cs q) 0 (((nthR rs i).length : Int) - 1) W
                rw [show inB (nthC cs q) 0 (((nthR rs i).length : Int) - 1) = true from decide_eq_true ⟨hok.1, by omega⟩] at this
                exact this
              clear HB hok
              generalize (nthR rs i).length = x at *
              generalize nthC cs q = y at *
              go_wp2_with fail
              go_quiet ((go_at_call 58; refine Calls.quiet_of_same (L _)))
              go_wp2
              go_roundw
              case rel => exact ⟨q + 1, by omega, by go_num, HB2, below_drewN hbq _⟩
              case measure => simp [intOf]; omega
            · have HC : Hid (grC cs rs = 4) := HAB.out i q hiN hqm hok
              have L : ∀ W, Calls Try.prog 58 #[.int .i64 (nthC cs q), .int .i64 0, .int .i64 (((nthR rs i).length : Int) - 1)] W fun e w' => e = .returned (.bool false) ∧ w' = W := fun W => by
                have := l01In_any (nthC cs q) 0 (((nthR rs i).length : Int) - 1) W
                rw [show inB (nthC cs q) 0 (((nthR rs i).length : Int) - 1) = false from decide_eq_false (fun h => hok ⟨h.1, by omega⟩)] at this
                exact this
              clear HB hok HA HAB
              generalize (nthR rs i).length = x at *
              generalize nthC cs q = y at *
              go_wp2_with fail
              go_quiet ((go_at_call 58; refine Calls.quiet_of_same (L _)))
              go_wp2
              go_ret2
              exact RetQ.bad HC.out (by omega) (AL _ (below_drewN hbq _))
          · obtain rfl : q = m := by omega
            have HA2 : Hid (∀ j, j < i + 1 → hasC cs (nthR rs j) = true) := fun j hj => by
              rcases Nat.lt_or_ge j i with h | h
              · exact HA.out j h
              · obtain rfl : j = i := by omega
                exact HHG.out j HB.out
            clear HA HB
            go_wp2
            go_roundw
            case rel => exact ⟨i + 1, by omega, by go_num, HA2, hbq⟩
            case measure => simp [intOf]; omega
      · obtain rfl : i = n := by omega
        have hal : allC cs rs = true := HAG.out HA.out
        have HC : Hid (grC cs rs = 0) := HCG.out hal
        have L1 := LG.out hal wo hbo
        clear HA hal LG HAG HAB HCG HHG LCW LI HX
        go_wp2_with fail
        refine L1.mono ?_
        rintro e w3 ⟨v3, rfl, hne, o3, b3⟩
        obtain ⟨g, c, gg, cc, rfl, hgc, _, lg, _, hgl⟩ := o3.at hne
        have B3 := below_step hbo (Nat.le_refl _) b3
        have BA : Below w3.heap.size w3 (w3.alloc (.cells #[] 23)) := (Below.refl _ _).alloc (Nat.le_refl _) _
        have HL : Hid (∀ W, Below w3.heap.size w3 W → ∀ j, j < (grpN cs rs).length → W.cell? ⟨g, j, none⟩ = some (.slice (some ⟨gg j, 0, none⟩) (nthL (grpN cs rs) j).length (cc j)) ∧ GrpB W (gg j) kr (nthL (grpN cs rs) j)) := fun W hW j hj => ⟨(hW.cell (p := ⟨g, j, none⟩) lg).trans (hgl j hj).1, (hgl j hj).2.below hW⟩
        have O0 : Hid (BldG (w3.alloc (.cells #[] 23)) w3.heap.size (w3.heap.size + 1) (.slice (some ⟨w3.heap.size, 0, none⟩) 0 0) ((gsOf cs rs).take 0)) := BldG.empty (Nat.le_refl _)
        clear L1 o3 hgl hne b3 lg hgc
        generalize grpN cs rs = G at *
        obtain ⟨gl, hgl⟩ : ∃ gl, G.length = gl := ⟨_, rfl⟩
        rw [hgl] at HGS HL LO ⊢
        clear hgl
        go_wp2
        go_loopw [9, 10] (fun v i wr => ∃ q : Nat, q ≤ gl ∧ i = .int .i64 q ∧ Hid (∃ top, top ≤ wr.heap.size ∧ BldG wr w3.heap.size top v ((gsOf cs rs).take q)) ∧ Below w3.heap.size w3 wr) (fun _ i _ => gl - (intOf i).toNat)
        case atStart => exact ⟨0, by omega, rfl, ⟨_, by simp, O0.out⟩, BA⟩
        case round =>
          clear O0 BA
          obtain ⟨q, hq, rfl, HO, hbl⟩ := hrel
          by_cases hqn : q < gl
          · have hqI : (q : Int) < (gl : Int) := by omega
            obtain ⟨c1, c2⟩ := HL.out wr hbl q hqn
            have L1 := LO.out wr (gg q) (cc q) q (below_step B3 (Nat.le_refl _) hbl) hqn c2
            have hln := HGS.out.2.2 q hqn
            clear c2
            generalize (nthL G q).length = ln at *
            have hgl4 := HGS.out.2.1
            go_wp2_with fail
            refine L1.mono ?_
            rintro e w4 ⟨a4, c4, rfl, O4, b4⟩
            have b5 : Below w4.heap.size w4 (w4.alloc (.cells #[.slice a4 ln c4] 23)) := (Below.refl _ _).alloc (Nat.le_refl _) _
            have b45 : Below wr.heap.size wr (w4.alloc (.cells #[.slice a4 ln c4] 23)) := below_step b4 (Nat.le_refl _) b5
            have B5 : Below w3.heap.size w3 (w4.alloc (.cells #[.slice a4 ln c4] 23)) := below_step hbl (Nat.le_refl _) b45
            obtain ⟨top, htop, HB⟩ := HO.out
            have hwr : w3.heap.size ≤ wr.heap.size := hbl.size
            have hgq : q < (gsOf cs rs).length := by rw [HGS.out.1]; exact hqn
            obtain ⟨v6, w6, r6, O6, b6⟩ := app_Gs (c := 1) (cap := c4) (b := w4.heap.size) (lo2 := wr.heap.size) (hi2 := w4.heap.size) (rs := nthG (gsOf cs rs) q) (a := a4) (HB.below b45) B5.size (by rw [List.length_take]; omega) (by rw [hln]; exact World.cell?_alloc_at _ _ _ _ rfl) ((OwnR.toS O4 hwr (Nat.le_refl _)).below b5) htop b4.size (by simp)
            have B6 : Below w3.heap.size w3 w6 := b6 w3 B5
            have HO2 : Hid (∃ top, top ≤ w6.heap.size ∧ BldG w6 w3.heap.size top v6 ((gsOf cs rs).take (q + 1))) := ⟨_, Nat.le_refl _, by rw [gs_take hgq]; exact O6⟩
            clear L1 O4 b4 b5 b45 B5 HB htop hwr hgq b6 O6 HO c1 hln
            go_wp2_with (at_builtin; refine Lib.wpList_append_run _ rfl _ _ _ _ rfl _ _ rfl rfl _ _ r6 ?_)
            go_roundw
            case rel => exact ⟨q + 1, by omega, by go_num, HO2.out, B6⟩
            case measure => simp [intOf]; omega
          · obtain rfl : q = gl := by omega
            have HR : Hid (RetQ cs rs w (.returned (.tuple #[u9, .int .i64 0])) wr) := by
              obtain ⟨top, htop, HB⟩ := HO.out
              rw [List.take_of_length_le (by rw [HGS.out.1]; omega)] at HB
              obtain ⟨a, c', rfl, hO⟩ := HB.ownG htop
              exact RetQ.good HC.out (hO.wide B3.size) (below_step B3 (Nat.le_refl _) hbl)
            clear HO HL LO HGS HC
            go_wp2
            go_ret2
            exact HR.out


theorem grR_few {cs : List Int} {rs : Rs} (ht : TextR rs) : FewG (grR cs rs) := by
  unfold grR
  by_cases hc : grC cs rs = 0
  · rw [if_pos hc]
    have o1 : okRs 16 rs = true := by
      unfold grC at hc
      by_cases h1 : 4096 < cs.length ∨ 4096 < rs.length
      · rw [if_pos h1] at hc; cases hc
      · rw [if_neg h1] at hc
        cases o : okRs 16 rs with
        | true => rfl
        | false => rw [o] at hc; simp at hc
    have l4 := (small16 o1).1
    have hg := grp_small (cs := cs) (rs := rs)
    have hlt := (grp_lt (grpN_spec cs rs)).1
    refine ⟨by unfold gsOf; rw [List.length_map]; omega, fun i hi => ?_⟩
    have hi' : i < (grpN cs rs).length := by unfold gsOf at hi; simpa using hi
    have e : nthG (gsOf cs rs) i = (nthL (grpN cs rs) i).map (nthR rs) := nthG_map hi'
    have hz : ∀ x ∈ nthL (grpN cs rs) i, x < rs.length := hlt _ (mem_nthL hi')
    have hll := hg.2 i hi'
    rw [e, List.length_map]
    refine ⟨by omega, ⟨by rw [List.length_map]; omega, fun j hj => ?_⟩, fun j hj => ?_⟩
    · rw [List.length_map] at hj
      rw [nthR_mapN hj]
      have := (small16 o1).2 _ (hz _ (mem_nthN hj))
      omega
    · rw [List.length_map] at hj
      rw [nthR_mapN hj]
      exact ht _ (hz _ (mem_nthN hj))
  · rw [if_neg hc]
    exact ⟨by simp, fun i hi => by simp at hi⟩
theorem Kept.beyond {lo hi lo' hi' : Nat} {w w' : World} (h : Kept (Rng lo hi) w w') (hd : hi ≤ lo' ∨ hi' ≤ lo) : ∀ g, lo' ≤ g → g < hi' → g < w.heap.size → w'.heap[g]? = w.heap[g]? :=
  fun g h1 h2 h3 => h.block g h3 (fun hr => by have := hr.1; have := hr.2; omega)
/-- Columns of the law's own. -/
def SlC (w : World) (lo hi g : Nat) (ds : List Int) : Prop := lo ≤ g ∧ g < hi ∧ SlabC w g ds.length ds ds.length
theorem SlC.block {w w' : World} {lo hi g : Nat} {ds : List Int} (h : SlC w lo hi g ds) (hb : ∀ g, lo ≤ g → g < hi → g < w.heap.size → w'.heap[g]? = w.heap[g]?) : SlC w' lo hi g ds := ⟨h.1, h.2.1, h.2.2.at (hb g h.1 h.2.1 h.2.2.lt)⟩
theorem SlC.below {w w' : World} {lo hi g : Nat} {ds : List Int} (h : SlC w lo hi g ds) (hb : Below w.heap.size w w') : SlC w' lo hi g ds := h.block fun g _ _ hg => hb.block g hg
/-- What has come in the law till marks are made. -/
abbrev StG (w : World) (l0 l1 l2 l3 l4 : Nat) (ua : Option Addr) (gd : Nat) (xc ia : Option Addr) (ds : List Int) (bb : Rs) (gs : Gs) (W : World) : Prop :=
  Below w.heap.size w W ∧ OwnG W l0 l1 ua gs ∧ SlC W l1 l2 gd ds ∧ OwnR W l2 l3 xc bb ∧ OwnG W l3 l4 ia gs
theorem StG.keep {w : World} {l0 l1 l2 l3 l4 : Nat} {ua : Option Addr} {gd : Nat} {xc ia : Option Addr} {ds : List Int} {bb : Rs} {gs : Gs} {W W' : World} (h : StG w l0 l1 l2 l3 l4 ua gd xc ia ds bb gs W) (hb : Below W.heap.size W W') : StG w l0 l1 l2 l3 l4 ua gd xc ia ds bb gs W' :=
  ⟨below_step h.1 (Nat.le_refl _) hb, h.2.1.below hb, h.2.2.1.below hb, h.2.2.2.1.below hb, h.2.2.2.2.below hb⟩
abbrev EnG (w : World) (l0 h0 l3 h3 : Nat) (ua ia : Option Addr) (gs : Gs) (W : World) : Prop := Below w.heap.size w W ∧ OwnG W l0 h0 ua gs ∧ MkG W l3 h3 ia gs 1
theorem EnG.keep {w : World} {l0 h0 l3 h3 : Nat} {ua ia : Option Addr} {gs : Gs} {W W' : World} (h : EnG w l0 h0 l3 h3 ua ia gs W) (hb : Below W.heap.size W W') : EnG w l0 h0 l3 h3 ua ia gs W' :=
  ⟨below_step h.1 (Nat.le_refl _) hb, h.2.1.below hb, h.2.2.below hb⟩
set_option maxRecDepth 100000 in
set_option maxHeartbeats 8000000 in
theorem lawGroup (ad b : Option Addr) (cd cb : Nat) (ds : List Int) (bb : Rs) (w : World) (hd : InA w ad ds) (hb : RowR w b bb) (ld : ds.length ≤ maxLen) (lb : bb.length ≤ maxLen) :
    Calls Try.prog 8 #[.slice ad ds.length cd, .slice b bb.length cb] w fun r w' => r = .returned (.bool true) ∧ Below w.heap.size w w' := by
  by_cases hdl : 1048576 < ds.length
  · have hdI : (1048576 : Int) < (ds.length : Int) := by omega
    unfold maxLen at ld lb
    clear hd hb
    generalize ds.length = m at *
    generalize bb.length = l at *
    go_enter Try.func8, Try.ntmps8
    go_wp2
    go_ret
    exact ⟨rfl, Below.refl _ _⟩
  have hdI : ¬ (1048576 : Int) < (ds.length : Int) := by omega
  have HA : Hid (∀ W, Below w.heap.size w W → RowR W b bb ∧ InA W ad ds) := fun W hW => ⟨hb.below hW, hd.below hW⟩
  have HT : Hid (TextR bb) := hb.text
  have HDL : Hid (ds.length ≤ 1048576) := by show _ ≤ _; omega
  have Z2 := szR_any b cb bb 1048576 w hb lb (by omega) (by omega)
  unfold maxLen at ld
  clear hb lb hd
  go_enter Try.func8, Try.ntmps8
  go_wp2_with fail
  refine Z2.mono ?_
  rintro e w2 ⟨y, rfl, y0, y1, y2, B2⟩
  have HS : Hid (0 ≤ y → SmallR bb) := y2
  clear Z2 y2
  by_cases hy : y < 0
  · go_wp2
    go_ret
    exact ⟨rfl, B2⟩
  have SS : Hid (SmallR bb) := HS.out (by omega)
  clear HS
  have TB : Hid (∀ W, Below w.heap.size w W → Calls Try.prog 23 #[.slice b bb.length cb] W fun e w' => ∃ g, e = .returned (.slice (some ⟨g, 0, none⟩) bb.length bb.length) ∧ W.heap.size ≤ g ∧ SlabR w' g bb.length bb bb.length ∧ Below W.heap.size W w') := fun W hW => toR_any b cb bb W (HA.out W hW).1 SS.out
  have TD : Hid (∀ W, Below w.heap.size w W → Calls Try.prog 30 #[.slice ad ds.length cd] W fun e w' => ∃ g, e = .returned (.slice (some ⟨g, 0, none⟩) ds.length ds.length) ∧ W.heap.size ≤ g ∧ SlabC w' g ds.length ds ds.length ∧ Below W.heap.size W w') := fun W hW => toC_any ad cd ds W (HA.out W hW).2 HDL.out
  have IM : Hid (∀ W gd g', InA W (some ⟨gd, 0, none⟩) ds → RowA W (some ⟨g', 0, none⟩) bb ∧ g' < W.heap.size → Calls Try.prog 19 #[.slice (some ⟨gd, 0, none⟩) ds.length ds.length, .slice (some ⟨g', 0, none⟩) bb.length bb.length] W (RetQ ds bb W)) := fun W gd g' hd h' => implGroup_any _ _ _ _ ds bb W hd h'.1 h'.2 SS.out HDL.out HT.out
  have SP : Hid (∀ W gd g', InA W (some ⟨gd, 0, none⟩) ds → RowA W (some ⟨g', 0, none⟩) bb ∧ g' < W.heap.size → Calls Try.prog 20 #[.slice (some ⟨gd, 0, none⟩) ds.length ds.length, .slice (some ⟨g', 0, none⟩) bb.length bb.length] W (RetQ ds bb W)) := fun W gd g' hd h' => specGroup_any _ _ _ 0 _ ds bb W hd h'.1 h'.2 SS.out HDL.out HT.out
  have RT : Hid (FewG (grR ds bb)) := grR_few HT.out
  unfold RetQ at IM SP
  generalize grR ds bb = gs at *
  generalize grC ds bb = cod at *
  go_wp2_with fail
  refine (TD.out _ B2).mono ?_
  rintro e w3a ⟨gd, rfl, hgd, Sd, b3a⟩
  have B3a := below_step B2 (Nat.le_refl _) b3a
  have A1a : Hid (InA w3a (some ⟨gd, 0, none⟩) ds) := Sd.inA
  clear Sd b3a hgd B2
  go_wp2_with fail
  refine (TB.out _ B3a).mono ?_
  rintro e w4 ⟨g2, rfl, hg2, S2, b4⟩
  have B4 := below_step B3a (Nat.le_refl _) b4
  have A2 : Hid (InA w4 (some ⟨gd, 0, none⟩) ds ∧ RowA w4 (some ⟨g2, 0, none⟩) bb ∧ g2 < w4.heap.size) := ⟨A1a.out.below b4, S2.rowA HT.out SS.out, S2.lt⟩
  clear S2 b4 hg2 B3a A1a
  go_wp2_with fail
  refine (SP.out _ _ _ A2.out.1 A2.out.2).mono ?_
  rintro e w5 ⟨ua, uc, rfl, O5, b5⟩
  have B5 := below_step B4 (Nat.le_refl _) b5
  have O5' : Hid (OwnG w5 w4.heap.size w5.heap.size ua gs) := O5
  have L5 : w.heap.size ≤ w4.heap.size ∧ w4.heap.size ≤ w5.heap.size := ⟨B4.size, b5.size⟩
  clear A2 b5 O5 B4 SP
  go_wp2_with fail
  refine (TD.out _ B5).mono ?_
  rintro e w6 ⟨ge, rfl, hge, Se, b6⟩
  have B6 := below_step B5 (Nat.le_refl _) b6
  have L6 := b6.size
  have P6 : Hid (OwnG w6 w4.heap.size w5.heap.size ua gs ∧ SlC w6 w5.heap.size w6.heap.size ge ds ∧ InA w6 (some ⟨ge, 0, none⟩) ds) := ⟨O5'.out.below b6, ⟨hge, Se.lt, Se⟩, Se.inA⟩
  clear Se b6 hge B5 O5'
  go_wp2_with fail
  refine (TB.out _ B6).mono ?_
  rintro e w7 ⟨g4, rfl, hg4, S4, b7⟩
  have B7 := below_step B6 (Nat.le_refl _) b7
  have L7 := b7.size
  have P7 : Hid ((OwnG w7 w4.heap.size w5.heap.size ua gs ∧ SlC w7 w5.heap.size w6.heap.size ge ds ∧ OwnR w7 w6.heap.size w7.heap.size (some ⟨g4, 0, none⟩) bb) ∧ InA w7 (some ⟨ge, 0, none⟩) ds ∧ RowA w7 (some ⟨g4, 0, none⟩) bb ∧ g4 < w7.heap.size) := ⟨⟨P6.out.1.below b7, P6.out.2.1.below b7, S4.own hg4⟩, P6.out.2.2.below b7, S4.rowA HT.out SS.out, S4.lt⟩
  clear S4 b7 hg4 B6 P6
  go_wp2_with fail
  refine (IM.out _ _ _ P7.out.2.1 P7.out.2.2).mono ?_
  rintro e w8 ⟨ia, ic, rfl, Q8, b8⟩
  have L8 := b8.size
  have P8 : Hid (StG w w4.heap.size w5.heap.size w6.heap.size w7.heap.size w8.heap.size ua ge (some ⟨g4, 0, none⟩) ia ds bb gs w8) := ⟨below_step B7 (Nat.le_refl _) b8, P7.out.1.1.below b8, P7.out.1.2.1.below b8, P7.out.1.2.2.below b8, Q8⟩
  clear Q8 b8 B7 P7
  generalize w4.heap.size = l0 at *
  generalize w5.heap.size = l1 at *
  generalize w6.heap.size = l2 at *
  generalize w7.heap.size = l3 at *
  generalize w8.heap.size = l4 at *
  have EQ : Hid (∀ W a1 a2 c1 c2, OwnG W l3 l4 a1 gs → OwnG W l0 l1 a2 gs → Calls Try.prog 31 #[.slice a1 gs.length c1, .slice a2 gs.length c2] W fun e w' => e = .returned (.bool true) ∧ Below W.heap.size W w') := fun W a1 a2 c1 c2 h1 h2 => eqG_same a1 a2 c1 c2 gs W (h1.row RT.out) (h2.row RT.out) RT.out
  go_wp2_with fail
  refine (EQ.out _ _ _ _ _ P8.out.2.2.2.2 P8.out.2.1).mono ?_
  rintro e w9 ⟨rfl, b9⟩
  have P9 : Hid (StG w l0 l1 l2 l3 l4 ua ge (some ⟨g4, 0, none⟩) ia ds bb gs w9) := P8.out.keep b9
  clear P8 b9
  go_wp2_with fail
  refine (TD.out _ P9.out.1).mono ?_
  rintro e w11a ⟨gf, rfl, hgf, Sf, b11a⟩
  have P11a : Hid (StG w l0 l1 l2 l3 l4 ua ge (some ⟨g4, 0, none⟩) ia ds bb gs w11a) := P9.out.keep b11a
  have E11 := eqC_same _ _ ds.length ds.length ds w11a P11a.out.2.2.1.2.2.inA Sf.inA HDL.out
  clear P9 b11a Sf hgf
  go_wp2_with fail
  refine E11.mono ?_
  rintro e w11b ⟨rfl, b11b⟩
  have P11b : Hid (StG w l0 l1 l2 l3 l4 ua ge (some ⟨g4, 0, none⟩) ia ds bb gs w11b) := P11a.out.keep b11b
  clear P11a b11b E11
  go_wp2_with fail
  refine (TB.out _ P11b.out.1).mono ?_
  rintro e w12 ⟨g6, rfl, hg6, S6, b12⟩
  have P12 : Hid (StG w l0 l1 l2 l3 l4 ua ge (some ⟨g4, 0, none⟩) ia ds bb gs w12) := P11b.out.keep b12
  have E12 := eqR_same _ _ bb.length bb.length bb w12 (P12.out.2.2.2.1.row HT.out SS.out) (S6.row HT.out SS.out) SS.out
  clear P11b b12 S6 hg6
  go_wp2_with fail
  refine E12.mono ?_
  rintro e w14 ⟨rfl, b13⟩
  have P14 : Hid (StG w l0 l1 l2 l3 l4 ua ge (some ⟨g4, 0, none⟩) ia ds bb gs w14) := P12.out.keep b13
  clear P12 b13 E12
  have Md := markC_any ge ds.length ds.length ds 1 w14 P14.out.2.2.1.2.2 HDL.out (by omega) (by omega)
  have hdl1 := HDL.out
  go_wp2_with fail
  refine Md.mono ?_
  rintro e w14a ⟨rfl, K14a⟩
  have LW : w.heap.size ≤ w14.heap.size := P14.out.1.size
  have hge := P14.out.2.2.1
  have P14a : Hid (Below w.heap.size w w14a ∧ OwnG w14a l0 l1 ua gs ∧ OwnR w14a l2 l3 (some ⟨g4, 0, none⟩) bb ∧ OwnG w14a l3 l4 ia gs) := ⟨P14.out.1.trans (K14a.below LW (fun x hx => by subst hx; have := hge.1; omega)), P14.out.2.1.block (fun g h1 h2 h3 => K14a.block g h3 (fun e => by subst e; have := hge.1; omega)), P14.out.2.2.2.1.block (fun g h1 h2 h3 => K14a.block g h3 (fun e => by subst e; have := hge.2.1; omega)), P14.out.2.2.2.2.block (fun g h1 h2 h3 => K14a.block g h3 (fun e => by subst e; have := hge.2.1; omega))⟩
  clear Md K14a P14 LW hge
  obtain ⟨kd, hkd⟩ : ∃ kd, 1 + (ds.length : Int) = kd := ⟨_, rfl⟩
  rw [hkd]
  have M2 := markR_any l2 l3 (some ⟨g4, 0, none⟩) bb.length bb kd w14a P14a.out.2.2.1.shp SS.out (by omega) (by omega)
  go_wp2_with fail
  refine M2.mono ?_
  rintro e w15 ⟨rfl, _, K15⟩
  have LW : w.heap.size ≤ w14a.heap.size := P14a.out.1.size
  have P15 : Hid (Below w.heap.size w w15 ∧ OwnG w15 l0 l1 ua gs ∧ OwnG w15 l3 l4 ia gs) := ⟨P14a.out.1.trans (K15.below LW (fun x hx => by have := hx.1; omega)), P14a.out.2.1.block (K15.beyond (.inr (by omega))), P14a.out.2.2.2.block (K15.beyond (.inl (Nat.le_refl _)))⟩
  obtain ⟨kb1, kb2⟩ := kAt_bd (k := kd) SS.out bb.length (Nat.le_refl _)
  clear M2 K15 P14a LW
  generalize kAt kd bb bb.length = k2 at *
  have hk2 : ¬ k2 < 0 := by omega
  clear hkd
  go_wp2_with fail
  refine (EQ.out _ _ _ _ _ P15.out.2.2 P15.out.2.1).mono ?_
  rintro e w16 ⟨rfl, b16⟩
  have P16 : Hid (Below w.heap.size w w16 ∧ OwnG w16 l0 l1 ua gs ∧ OwnG w16 l3 l4 ia gs) := ⟨below_step P15.out.1 (Nat.le_refl _) b16, P15.out.2.1.below b16, P15.out.2.2.below b16⟩
  clear P15 b16
  have M3 := markG_any l3 l4 ia ic gs 1 w16 P16.out.2.2 RT.out (by omega) (by omega)
  go_wp2_with fail
  refine M3.mono ?_
  rintro e w17 ⟨rfl, Q17, K17⟩
  have LW : w.heap.size ≤ w16.heap.size := P16.out.1.size
  have P17 : Hid (EnG w l0 l1 l3 l4 ua ia gs w17) := ⟨P16.out.1.trans (K17.below LW (fun x hx => by have := hx.1; omega)), P16.out.2.1.block (K17.beyond (.inr (by omega))), Q17⟩
  obtain ⟨kc1, kc2⟩ := kG_bd (k := 1) RT.out gs.length (Nat.le_refl _)
  have glen := RT.out.1
  have HD : Hid (∀ W, EnG w l0 l1 l3 l4 ua ia gs W → Calls Try.prog 35 #[.slice ia gs.length ic, .int .i64 1] W fun r w' => r = .returned (.int .i64 (kG 1 gs gs.length)) ∧ Below W.heap.size W w') := fun W hW => heldG_any l3 l4 ia ic gs 1 W hW.2.2 RT.out (by omega) (by omega)
  clear M3 K17 P16 LW Q17
  generalize kG 1 gs gs.length = k3 at *
  have hk3 : ¬ k3 < 0 := by omega
  go_wp2_with fail
  refine (HD.out _ P17.out).mono ?_
  rintro e w18 ⟨rfl, b18⟩
  have P18 : Hid (EnG w l0 l1 l3 l4 ua ia gs w18) := P17.out.keep b18
  clear P17 b18
  go_wp2_with fail
  refine (TD.out _ P18.out.1).mono ?_
  rintro e w19a ⟨gh, rfl, hgh, Sh, b19a⟩
  have P19a : Hid (EnG w l0 l1 l3 l4 ua ia gs w19a) := P18.out.keep b19a
  have A19a : Hid (InA w19a (some ⟨gh, 0, none⟩) ds) := Sh.inA
  clear P18 b19a Sh hgh
  go_wp2_with fail
  refine (TB.out _ P19a.out.1).mono ?_
  rintro e w20 ⟨g8, rfl, hg8, S8, b20⟩
  have P20 : Hid (EnG w l0 l1 l3 l4 ua ia gs w20) := P19a.out.keep b20
  have A20 : Hid (InA w20 (some ⟨gh, 0, none⟩) ds ∧ RowA w20 (some ⟨g8, 0, none⟩) bb ∧ g8 < w20.heap.size) := ⟨A19a.out.below b20, S8.rowA HT.out SS.out, S8.lt⟩
  clear P19a b20 S8 hg8 A19a
  go_wp2_with fail
  refine (IM.out _ _ _ A20.out.1 A20.out.2).mono ?_
  rintro e w21 ⟨ha, hc, rfl, Q21, b21⟩
  have P21 : Hid (EnG w l0 l1 l3 l4 ua ia gs w21) := P20.out.keep b21
  have E21 := eqG_same ha ua hc uc gs w21 (Q21.row RT.out) (P21.out.2.1.row RT.out) RT.out
  clear P20 b21 Q21 A20
  go_wp2_with fail
  refine E21.mono ?_
  rintro e w22 ⟨rfl, b22⟩
  have P22 : Hid (EnG w l0 l1 l3 l4 ua ia gs w22) := P21.out.keep b22
  clear P21 b22 E21
  go_wp2_with fail
  refine (HD.out _ P22.out).mono ?_
  rintro e w23 ⟨rfl, b23⟩
  have hE := below_step P22.out.1 (Nat.le_refl _) b23
  go_wp2
  go_ret
  exact ⟨rfl, hE⟩
end Go.Proofs.Ytmcjgncpblbhpaa
namespace Go.Proofs.Ytmcjgncpblbhpaa
open Go.RowKit

theorem text_all {vs : List V3} : (∀ j, j < vs.length → (nthV vs j).2.2.size ≤ maxLen) ↔ ∀ v ∈ vs, v.2.2.size ≤ maxLen := by
  constructor
  · intro h v hv
    obtain ⟨i, hi, rfl⟩ := List.getElem_of_mem hv
    have := h i hi
    rwa [nthV_get hi] at this
  · intro h j hj
    rw [nthV_get hj]
    exact h _ (List.getElem_mem hj)
theorem TextR.mem {rs : Rs} (h : TextR rs) : ∀ vs ∈ rs, ∀ v ∈ vs, v.2.2.size ≤ maxLen := fun vs hv => by
  obtain ⟨i, hi, rfl⟩ := List.getElem_of_mem hv
  have := h i hi
  rw [nthR_get hi] at this
  exact text_all.1 this
theorem textR_of {rs : Rs} (h : ∀ vs ∈ rs, ∀ v ∈ vs, v.2.2.size ≤ maxLen) : TextR rs := fun i hi => by
  rw [nthR_get hi]
  exact text_all.2 (h _ (List.getElem_mem hi))
theorem mem_prod {aa bb : Rs} {vs : List V3} (h : vs ∈ prodL aa bb) : ∃ x ∈ aa, ∃ y ∈ bb, vs = x ++ y := by
  unfold prodL at h
  obtain ⟨x, hx, h2⟩ := List.mem_flatMap.1 h
  obtain ⟨y, hy, e⟩ := List.mem_map.1 h2
  exact ⟨x, hx, y, hy, e.symm⟩
theorem mem_pr {aa bb : Rs} {vs : List V3} (h : vs ∈ prR aa bb) : ∃ x ∈ aa, ∃ y ∈ bb, vs = x ++ y := by
  unfold prR at h
  split at h
  · exact mem_prod h
  · simp at h
theorem prR_text {aa bb : Rs} (ha : TextR aa) (hb : TextR bb) : TextR (prR aa bb) := textR_of fun vs hv v hvv => by
  obtain ⟨x, hx, y, hy, rfl⟩ := mem_pr hv
  rcases List.mem_append.1 hvv with h | h
  · exact ha.mem x hx v h
  · exact hb.mem y hy v h
theorem prC_zero {aa bb : Rs} (h : prC aa bb = 0) : FitR aa bb := by
  unfold prC at h
  by_cases h1 : 4096 < aa.length ∨ 4096 < bb.length
  · rw [if_pos h1] at h; cases h
  rw [if_neg h1] at h
  by_cases h2 : okRs 8 aa = true ∧ okRs 8 bb = true
  · rw [if_pos h2] at h
    by_cases h3 : 400 < aa.length * bb.length
    · rw [if_pos h3] at h; cases h
    · exact fit_of h2.1 h2.2 h3
  · rw [if_neg h2] at h; cases h
theorem prR_small (aa bb : Rs) : SmallR (prR aa bb) := by
  by_cases hc : prC aa bb = 0
  · have hf := prC_zero hc
    have e : prR aa bb = prodL aa bb := if_pos hc
    rw [e]
    refine ⟨by rw [prodL_len]; have := hf.2.2.1; omega, fun i hi => ?_⟩
    rw [nthR_get hi]
    obtain ⟨x, hx, y, hy, e2⟩ := mem_prod (List.getElem_mem hi)
    rw [e2, List.length_append]
    obtain ⟨p, hp, rfl⟩ := List.getElem_of_mem hx
    obtain ⟨q, hq, rfl⟩ := List.getElem_of_mem hy
    have h1 := hf.2.2.2.1 p hp
    have h2 := hf.2.2.2.2 q hq
    rw [nthR_get hp] at h1
    rw [nthR_get hq] at h2
    omega
  · have e : prR aa bb = [] := if_neg hc
    rw [e]
    exact ⟨by simp, fun i hi => by simp at hi⟩
theorem Kept.outside {lo hi lo' hi' : Nat} {w w' : World} (h : Kept (Rng lo hi) w w') (hd : hi ≤ lo' ∨ hi' ≤ lo) : ∀ g, lo' ≤ g → g < hi' → g < w.heap.size → w'.heap[g]? = w.heap[g]? :=
  fun g h1 h2 h3 => h.block g h3 (fun hr => by have := hr.1; have := hr.2; omega)
/-- What has come in the law till marks are made: the other answer, copies, and impl's answer. -/
abbrev StP (w : World) (l0 h0 l1 h1 l2 h2 l3 h3 : Nat) (ua xa ya ia : Option Addr) (aa bb rs : Rs) (W : World) : Prop :=
  Below w.heap.size w W ∧ OwnR W l0 h0 ua rs ∧ OwnR W l1 h1 xa aa ∧ OwnR W l2 h2 ya bb ∧ OwnR W l3 h3 ia rs
theorem StP.keep {w : World} {l0 h0 l1 h1 l2 h2 l3 h3 : Nat} {ua xa ya ia : Option Addr} {aa bb rs : Rs} {W W' : World} (h : StP w l0 h0 l1 h1 l2 h2 l3 h3 ua xa ya ia aa bb rs W) (hb : Below W.heap.size W W') : StP w l0 h0 l1 h1 l2 h2 l3 h3 ua xa ya ia aa bb rs W' :=
  ⟨below_step h.1 (Nat.le_refl _) hb, h.2.1.below hb, h.2.2.1.below hb, h.2.2.2.1.below hb, h.2.2.2.2.below hb⟩
/-- Behind the marks on the answer. -/
abbrev EnP (w : World) (l0 h0 l3 h3 : Nat) (ua ia : Option Addr) (rs : Rs) (W : World) : Prop := Below w.heap.size w W ∧ OwnR W l0 h0 ua rs ∧ MkR W l3 h3 ia rs 1
theorem EnP.keep {w : World} {l0 h0 l3 h3 : Nat} {ua ia : Option Addr} {rs : Rs} {W W' : World} (h : EnP w l0 h0 l3 h3 ua ia rs W) (hb : Below W.heap.size W W') : EnP w l0 h0 l3 h3 ua ia rs W' :=
  ⟨below_step h.1 (Nat.le_refl _) hb, h.2.1.below hb, h.2.2.below hb⟩
set_option maxRecDepth 100000 in
set_option maxHeartbeats 8000000 in
theorem lawProduct (a b : Option Addr) (ca cb : Nat) (aa bb : Rs) (w : World) (ha : RowR w a aa) (hb : RowR w b bb) (la : aa.length ≤ maxLen) (lb : bb.length ≤ maxLen) :
    Calls Try.prog 6 #[.slice a aa.length ca, .slice b bb.length cb] w fun r w' => r = .returned (.bool true) ∧ Below w.heap.size w w' := by
  have HA : Hid (∀ W, Below w.heap.size w W → RowR W a aa ∧ RowR W b bb) := fun W hW => ⟨ha.below hW, hb.below hW⟩
  have HT : Hid (TextR aa ∧ TextR bb) := ⟨ha.text, hb.text⟩
  have Z1 := szR_any a ca aa 1048576 w ha la (by omega) (by omega)
  have Z2 := fun (x : Int) (h0 : 0 ≤ x) (h1 : x ≤ 1048576) W (hW : Below w.heap.size w W) => szR_any b cb bb x W (hb.below hW) lb h0 h1
  have HZ2 : Hid (∀ (x : Int), 0 ≤ x → x ≤ 1048576 → ∀ W, Below w.heap.size w W → Calls Try.prog 21 #[.slice b bb.length cb, .int .i64 x] W fun e w' => ∃ r : Int, e = .returned (.int .i64 r) ∧ -1 ≤ r ∧ r ≤ x ∧ (0 ≤ r → SmallR bb) ∧ Below W.heap.size W w') := Z2
  clear Z2 ha hb la lb
  go_enter Try.func6, Try.ntmps6
  go_wp2_with fail
  refine Z1.mono ?_
  rintro e w1 ⟨x, rfl, x0, x1, x2, b1⟩
  have HS1 : Hid (0 ≤ x → SmallR aa) := x2
  clear Z1 x2
  by_cases hx : x < 0
  · go_wp2
    go_ret
    exact ⟨rfl, b1⟩
  have Z2 := HZ2.out x (by omega) x1 w1 b1
  clear HZ2
  go_wp2_with fail
  refine Z2.mono ?_
  rintro e w2 ⟨y, rfl, y0, y1, y2, b2⟩
  have B2 := below_step b1 (Nat.le_refl _) b2
  have HS : Hid (0 ≤ y → SmallR aa ∧ SmallR bb) := fun h => ⟨HS1.out (by omega), y2 h⟩
  clear Z2 y2 HS1 b1 b2
  by_cases hy : y < 0
  · go_wp2
    go_ret
    exact ⟨rfl, B2⟩
  have SS : Hid (SmallR aa ∧ SmallR bb) := HS.out (by omega)
  clear HS
  have TA : Hid (∀ W, Below w.heap.size w W → Calls Try.prog 23 #[.slice a aa.length ca] W fun e w' => ∃ g, e = .returned (.slice (some ⟨g, 0, none⟩) aa.length aa.length) ∧ W.heap.size ≤ g ∧ SlabR w' g aa.length aa aa.length ∧ Below W.heap.size W w') := fun W hW => toR_any a ca aa W (HA.out W hW).1 SS.out.1
  have TB : Hid (∀ W, Below w.heap.size w W → Calls Try.prog 23 #[.slice b bb.length cb] W fun e w' => ∃ g, e = .returned (.slice (some ⟨g, 0, none⟩) bb.length bb.length) ∧ W.heap.size ≤ g ∧ SlabR w' g bb.length bb bb.length ∧ Below W.heap.size W w') := fun W hW => toR_any b cb bb W (HA.out W hW).2 SS.out.2
  have IM : Hid (∀ W g g', RowA W (some ⟨g, 0, none⟩) aa → RowA W (some ⟨g', 0, none⟩) bb → Calls Try.prog 11 #[.slice (some ⟨g, 0, none⟩) aa.length aa.length, .slice (some ⟨g', 0, none⟩) bb.length bb.length] W (RetP aa bb W)) := fun W g g' h h' => implProduct_any _ _ _ _ aa bb W h h' SS.out.1 SS.out.2
  have SP : Hid (∀ W g g', RowA W (some ⟨g, 0, none⟩) aa → RowA W (some ⟨g', 0, none⟩) bb → Calls Try.prog 22 #[.slice (some ⟨g, 0, none⟩) aa.length aa.length, .slice (some ⟨g', 0, none⟩) bb.length bb.length] W (RetP aa bb W)) := fun W g g' h h' => specProduct_any _ _ _ _ aa bb W h h' SS.out.1 SS.out.2
  have RT : Hid (TextR (prR aa bb) ∧ SmallR (prR aa bb)) := ⟨prR_text HT.out.1 HT.out.2, prR_small aa bb⟩
  unfold RetP at IM SP
  generalize prR aa bb = rs at *
  generalize prC aa bb = cod at *
  go_wp2_with fail
  refine (TA.out _ B2).mono ?_
  rintro e w3 ⟨g1, rfl, hg1, S1, b3⟩
  have B3 := below_step B2 (Nat.le_refl _) b3
  have A1 : Hid (RowA w3 (some ⟨g1, 0, none⟩) aa) := S1.rowA HT.out.1 SS.out.1
  clear S1 b3 hg1 B2
  go_wp2_with fail
  refine (TB.out _ B3).mono ?_
  rintro e w4 ⟨g2, rfl, hg2, S2, b4⟩
  have B4 := below_step B3 (Nat.le_refl _) b4
  have A2 : Hid (RowA w4 (some ⟨g1, 0, none⟩) aa ∧ RowA w4 (some ⟨g2, 0, none⟩) bb) := ⟨A1.out.below b4, S2.rowA HT.out.2 SS.out.2⟩
  clear S2 b4 hg2 B3 A1
  go_wp2_with fail
  refine (SP.out _ _ _ A2.out.1 A2.out.2).mono ?_
  rintro e w5 ⟨v5, hi5, rfl, O5, b5⟩
  obtain ⟨ua, uc, rfl, Q5⟩ := O5.own
  have B5 := below_step B4 (Nat.le_refl _) b5
  have O5' : Hid (OwnR w5 w4.heap.size w5.heap.size ua rs) := Q5
  have L5 : w.heap.size ≤ w4.heap.size ∧ w4.heap.size ≤ w5.heap.size := ⟨B4.size, b5.size⟩
  clear A2 b5 O5 Q5 B4 SP
  go_wp2_with fail
  refine (TA.out _ B5).mono ?_
  rintro e w6 ⟨g3, rfl, hg3, S3, b6⟩
  have B6 := below_step B5 (Nat.le_refl _) b6
  have L6 := b6.size
  have P6 : Hid (OwnR w6 w4.heap.size w5.heap.size ua rs ∧ OwnR w6 w5.heap.size w6.heap.size (some ⟨g3, 0, none⟩) aa ∧ RowA w6 (some ⟨g3, 0, none⟩) aa) := ⟨O5'.out.below b6, S3.own hg3, S3.rowA HT.out.1 SS.out.1⟩
  clear S3 b6 hg3 B5 O5'
  go_wp2_with fail
  refine (TB.out _ B6).mono ?_
  rintro e w7 ⟨g4, rfl, hg4, S4, b7⟩
  have B7 := below_step B6 (Nat.le_refl _) b7
  have L7 := b7.size
  have P7 : Hid ((OwnR w7 w4.heap.size w5.heap.size ua rs ∧ OwnR w7 w5.heap.size w6.heap.size (some ⟨g3, 0, none⟩) aa ∧ OwnR w7 w6.heap.size w7.heap.size (some ⟨g4, 0, none⟩) bb) ∧ RowA w7 (some ⟨g3, 0, none⟩) aa ∧ RowA w7 (some ⟨g4, 0, none⟩) bb) := ⟨⟨P6.out.1.below b7, P6.out.2.1.below b7, S4.own hg4⟩, P6.out.2.2.below b7, S4.rowA HT.out.2 SS.out.2⟩
  clear S4 b7 hg4 B6 P6
  go_wp2_with fail
  refine (IM.out _ _ _ P7.out.2.1 P7.out.2.2).mono ?_
  rintro e w8 ⟨v8, hi8, rfl, O8, b8⟩
  obtain ⟨ia, ic, rfl, Q8⟩ := O8.own
  have L8 := b8.size
  have P8 : Hid (StP w w4.heap.size w5.heap.size w5.heap.size w6.heap.size w6.heap.size w7.heap.size w7.heap.size w8.heap.size ua (some ⟨g3, 0, none⟩) (some ⟨g4, 0, none⟩) ia aa bb rs w8) := ⟨below_step B7 (Nat.le_refl _) b8, P7.out.1.1.below b8, P7.out.1.2.1.below b8, P7.out.1.2.2.below b8, Q8⟩
  clear O8 Q8 b8 B7 P7
  generalize w4.heap.size = l0 at *
  generalize w5.heap.size = l1 at *
  generalize w6.heap.size = l2 at *
  generalize w7.heap.size = l3 at *
  generalize w8.heap.size = l4 at *
  have EQ : Hid (∀ W a1 a2 c1 c2, OwnR W l3 l4 a1 rs → OwnR W l0 l1 a2 rs → Calls Try.prog 24 #[.slice a1 rs.length c1, .slice a2 rs.length c2] W fun e w' => e = .returned (.bool true) ∧ Below W.heap.size W w') := fun W a1 a2 c1 c2 h1 h2 => eqR_same a1 a2 c1 c2 rs W (h1.row RT.out.1 RT.out.2) (h2.row RT.out.1 RT.out.2) RT.out.2
  go_wp2_with fail
  refine (EQ.out _ _ _ _ _ P8.out.2.2.2.2 P8.out.2.1).mono ?_
  rintro e w9 ⟨rfl, b9⟩
  have P9 : Hid (StP w l0 l1 l1 l2 l2 l3 l3 l4 ua (some ⟨g3, 0, none⟩) (some ⟨g4, 0, none⟩) ia aa bb rs w9) := P8.out.keep b9
  clear P8 b9
  go_wp2_with fail
  refine (TA.out _ P9.out.1).mono ?_
  rintro e w10 ⟨g5, rfl, hg5, S5, b10⟩
  have P10 : Hid (StP w l0 l1 l1 l2 l2 l3 l3 l4 ua (some ⟨g3, 0, none⟩) (some ⟨g4, 0, none⟩) ia aa bb rs w10) := P9.out.keep b10
  have E10 := eqR_same _ _ aa.length aa.length aa w10 (P10.out.2.2.1.row HT.out.1 SS.out.1) (S5.row HT.out.1 SS.out.1) SS.out.1
  clear P9 b10 S5 hg5
  go_wp2_with fail
  refine E10.mono ?_
  rintro e w11 ⟨rfl, b11⟩
  have P11 : Hid (StP w l0 l1 l1 l2 l2 l3 l3 l4 ua (some ⟨g3, 0, none⟩) (some ⟨g4, 0, none⟩) ia aa bb rs w11) := P10.out.keep b11
  clear P10 b11 E10
  go_wp2_with fail
  refine (TB.out _ P11.out.1).mono ?_
  rintro e w12 ⟨g6, rfl, hg6, S6, b12⟩
  have P12 : Hid (StP w l0 l1 l1 l2 l2 l3 l3 l4 ua (some ⟨g3, 0, none⟩) (some ⟨g4, 0, none⟩) ia aa bb rs w12) := P11.out.keep b12
  have E12 := eqR_same _ _ bb.length bb.length bb w12 (P12.out.2.2.2.1.row HT.out.2 SS.out.2) (S6.row HT.out.2 SS.out.2) SS.out.2
  clear P11 b12 S6 hg6
  go_wp2_with fail
  refine E12.mono ?_
  rintro e w13 ⟨rfl, b13⟩
  have P13 : Hid (StP w l0 l1 l1 l2 l2 l3 l3 l4 ua (some ⟨g3, 0, none⟩) (some ⟨g4, 0, none⟩) ia aa bb rs w13) := P12.out.keep b13
  clear P12 b13 E12
  have M1 := markR_any l1 l2 (some ⟨g3, 0, none⟩) aa.length aa 1 w13 P13.out.2.2.1.shp SS.out.1 (by omega) (by omega)
  go_wp2_with fail
  refine M1.mono ?_
  rintro e w14 ⟨rfl, _, K14⟩
  have LW : w.heap.size ≤ w13.heap.size := P13.out.1.size
  have P14 : Hid (Below w.heap.size w w14 ∧ OwnR w14 l0 l1 ua rs ∧ OwnR w14 l2 l3 (some ⟨g4, 0, none⟩) bb ∧ OwnR w14 l3 l4 ia rs) := ⟨P13.out.1.trans (K14.below LW (fun x hx => by have := hx.1; omega)), P13.out.2.1.block (K14.outside (.inr (Nat.le_refl _))), P13.out.2.2.2.1.block (K14.outside (.inl (Nat.le_refl _))), P13.out.2.2.2.2.block (K14.outside (.inl (by omega)))⟩
  obtain ⟨ka1, ka2⟩ := kAt_bd (k := 1) SS.out.1 aa.length (Nat.le_refl _)
  have sla := SS.out.1.1
  clear M1 K14 P13 LW
  generalize kAt 1 aa aa.length = k1 at *
  have M2 := markR_any l2 l3 (some ⟨g4, 0, none⟩) bb.length bb k1 w14 P14.out.2.2.1.shp SS.out.2 (by omega) (by omega)
  go_wp2_with fail
  refine M2.mono ?_
  rintro e w15 ⟨rfl, _, K15⟩
  have LW : w.heap.size ≤ w14.heap.size := P14.out.1.size
  have P15 : Hid (Below w.heap.size w w15 ∧ OwnR w15 l0 l1 ua rs ∧ OwnR w15 l3 l4 ia rs) := ⟨P14.out.1.trans (K15.below LW (fun x hx => by have := hx.1; omega)), P14.out.2.1.block (K15.outside (.inr (by omega))), P14.out.2.2.2.block (K15.outside (.inl (Nat.le_refl _)))⟩
  obtain ⟨kb1, kb2⟩ := kAt_bd (k := k1) SS.out.2 bb.length (Nat.le_refl _)
  clear M2 K15 P14 LW
  generalize kAt k1 bb bb.length = k2 at *
  have hk2 : ¬ k2 < 0 := by omega
  go_wp2_with fail
  refine (EQ.out _ _ _ _ _ P15.out.2.2 P15.out.2.1).mono ?_
  rintro e w16 ⟨rfl, b16⟩
  have P16 : Hid (Below w.heap.size w w16 ∧ OwnR w16 l0 l1 ua rs ∧ OwnR w16 l3 l4 ia rs) := ⟨below_step P15.out.1 (Nat.le_refl _) b16, P15.out.2.1.below b16, P15.out.2.2.below b16⟩
  clear P15 b16
  have M3 := markR_any l3 l4 ia ic rs 1 w16 P16.out.2.2.shp RT.out.2 (by omega) (by omega)
  go_wp2_with fail
  refine M3.mono ?_
  rintro e w17 ⟨rfl, Q17, K17⟩
  have LW : w.heap.size ≤ w16.heap.size := P16.out.1.size
  have P17 : Hid (EnP w l0 l1 l3 l4 ua ia rs w17) := ⟨P16.out.1.trans (K17.below LW (fun x hx => by have := hx.1; omega)), P16.out.2.1.block (K17.outside (.inr (by omega))), Q17⟩
  obtain ⟨kc1, kc2⟩ := kAt_bd (k := 1) RT.out.2 rs.length (Nat.le_refl _)
  have HD : Hid (∀ W, EnP w l0 l1 l3 l4 ua ia rs W → Calls Try.prog 26 #[.slice ia rs.length ic, .int .i64 1] W fun r w' => r = .returned (.int .i64 (kAt 1 rs rs.length)) ∧ Below W.heap.size W w') := fun W hW => heldR_any l3 l4 ia ic rs 1 W hW.2.2 RT.out.2 (by omega) (by omega)
  clear M3 K17 P16 LW Q17
  generalize kAt 1 rs rs.length = k3 at *
  have hk3 : ¬ k3 < 0 := by omega
  go_wp2_with fail
  refine (HD.out _ P17.out).mono ?_
  rintro e w18 ⟨rfl, b18⟩
  have P18 : Hid (EnP w l0 l1 l3 l4 ua ia rs w18) := P17.out.keep b18
  clear P17 b18
  go_wp2_with fail
  refine (TA.out _ P18.out.1).mono ?_
  rintro e w19 ⟨g7, rfl, hg7, S7, b19⟩
  have P19 : Hid (EnP w l0 l1 l3 l4 ua ia rs w19) := P18.out.keep b19
  have A19 : Hid (RowA w19 (some ⟨g7, 0, none⟩) aa) := S7.rowA HT.out.1 SS.out.1
  clear P18 b19 S7 hg7
  go_wp2_with fail
  refine (TB.out _ P19.out.1).mono ?_
  rintro e w20 ⟨g8, rfl, hg8, S8, b20⟩
  have P20 : Hid (EnP w l0 l1 l3 l4 ua ia rs w20) := P19.out.keep b20
  have A20 : Hid (RowA w20 (some ⟨g7, 0, none⟩) aa ∧ RowA w20 (some ⟨g8, 0, none⟩) bb) := ⟨A19.out.below b20, S8.rowA HT.out.2 SS.out.2⟩
  clear P19 b20 S8 hg8 A19
  go_wp2_with fail
  refine (IM.out _ _ _ A20.out.1 A20.out.2).mono ?_
  rintro e w21 ⟨v21, hi21, rfl, O21, b21⟩
  obtain ⟨ha, hc, rfl, Q21⟩ := O21.own
  have P21 : Hid (EnP w l0 l1 l3 l4 ua ia rs w21) := P20.out.keep b21
  have E21 := eqR_same ha ua hc uc rs w21 (Q21.row RT.out.1 RT.out.2) (P21.out.2.1.row RT.out.1 RT.out.2) RT.out.2
  clear P20 b21 O21 Q21 A20
  go_wp2_with fail
  refine E21.mono ?_
  rintro e w22 ⟨rfl, b22⟩
  have P22 : Hid (EnP w l0 l1 l3 l4 ua ia rs w22) := P21.out.keep b22
  clear P21 b22 E21
  go_wp2_with fail
  refine (HD.out _ P22.out).mono ?_
  rintro e w23 ⟨rfl, b23⟩
  have hE := below_step P22.out.1 (Nat.le_refl _) b23
  go_wp2
  go_ret
  exact ⟨rfl, hE⟩
end Go.Proofs.Ytmcjgncpblbhpaa
namespace Go.Proofs.Ytmcjgncpblbhpaa
open Go.RowKit

/-- What f makes of each of one list with each of the other. -/
def genL (f : List V3 → List V3 → List V3) (aa bb : Rs) : Rs := aa.flatMap fun x => bb.map fun y => f x y
theorem nthR_right {L R : Rs} {q : Nat} : nthR (L ++ R) (L.length + q) = nthR R q := by
  unfold nthR
  rw [List.getD_eq_getElem?_getD, List.getD_eq_getElem?_getD, List.getElem?_append_right (by omega)]
  congr 2
  omega
theorem nthR_map (f : List V3 → List V3) {bb : Rs} {i : Nat} (h : i < bb.length) : nthR (bb.map f) i = f (nthR bb i) := by
  rw [nthR_get (by simpa using h), nthR_get h, List.getElem_map]
theorem genL_len (f : List V3 → List V3 → List V3) : ∀ aa bb : Rs, (genL f aa bb).length = aa.length * bb.length
  | [], bb => by simp [genL]
  | x :: aa, bb => by
    have := genL_len f aa bb
    unfold genL at this ⊢
    rw [List.flatMap_cons, List.length_append, this, List.length_map, List.length_cons, Nat.add_mul]
    omega
theorem genL_nth (f : List V3 → List V3 → List V3) : ∀ (aa bb : Rs) (i : Nat), i < aa.length * bb.length → nthR (genL f aa bb) i = f (nthR aa (i / bb.length)) (nthR bb (i % bb.length))
  | [], bb, i, h => by simp at h
  | x :: aa, bb, i, h => by
    have hm : 0 < bb.length := by
      rcases Nat.eq_zero_or_pos bb.length with h0 | h0
      · rw [h0] at h; simp at h
      · exact h0
    have e : genL f (x :: aa) bb = bb.map (fun y => f x y) ++ genL f aa bb := by unfold genL; rw [List.flatMap_cons]
    rw [e]
    by_cases hi : i < bb.length
    · rw [nthR_left (by simpa using hi), nthR_map _ hi, Nat.div_eq_of_lt hi, Nat.mod_eq_of_lt hi]
      rfl
    · obtain ⟨q, rfl⟩ : ∃ q, i = bb.length + q := ⟨i - bb.length, by omega⟩
      have hq : q < aa.length * bb.length := by rw [List.length_cons, Nat.add_mul] at h; omega
      have := genL_nth f aa bb q hq
      have l1 : (bb.map (fun y => f x y)).length = bb.length := by simp
      have e2 := nthR_right (L := bb.map (fun y => f x y)) (R := genL f aa bb) (q := q)
      rw [l1] at e2
      rw [e2, this, Nat.add_div_left _ hm, Nat.add_mod_left]
      rfl
theorem flat_cons {α β : Type} (g : α → β) (h : α → List β) : ∀ l : List α, (l.flatMap fun y => g y :: h y).Perm (l.map g ++ l.flatMap h)
  | [] => List.Perm.refl _
  | y :: l => by
    rw [List.flatMap_cons, List.flatMap_cons, List.map_cons, List.cons_append, List.cons_append]
    refine List.Perm.cons _ ?_
    refine ((flat_cons g h l).append_left (h y)).trans ?_
    rw [← List.append_assoc, ← List.append_assoc]
    exact (List.perm_append_comm).append_right _
theorem gen_swap (f : List V3 → List V3 → List V3) : ∀ aa bb : Rs, (genL f aa bb).Perm (genL (fun y x => f x y) bb aa)
  | [], bb => by simp [genL]
  | x :: aa, bb => by
    have e : genL f (x :: aa) bb = bb.map (fun y => f x y) ++ genL f aa bb := by unfold genL; rw [List.flatMap_cons]
    rw [e]
    refine ((gen_swap f aa bb).append_left _).trans ?_
    have := flat_cons (fun y => f x y) (fun y => aa.map fun z => f z y) bb
    exact this.symm
/-- The product turned. -/
def turnL (aa bb : Rs) : Rs := genL (fun x y => y ++ x) aa bb
theorem turn_perm (aa bb : Rs) : (turnL aa bb).Perm (prodL bb aa) := gen_swap (fun x y => y ++ x) aa bb
theorem take_next {rs : Rs} {i : Nat} (h : i < rs.length) : rs.take (i + 1) = rs.take i ++ [nthR rs i] := by
  rw [List.take_add_one, List.getElem?_eq_getElem h, nthR_get h]
  rfl
/-- Rows with addresses, and room for their values. -/
def RowC (w : World) (a : Option Addr) (rs : Rs) : Prop :=
  ∀ i, i < rs.length → ∃ b off bi oi ci, a = some ⟨b, off, none⟩ ∧ b < w.heap.size ∧ w.cell? ⟨b, off + i, none⟩ = some (.slice (some ⟨bi, oi, none⟩) (nthR rs i).length ci) ∧ RowV w (some ⟨bi, oi, none⟩) (nthR rs i) ∧ (nthR rs i).length ≤ ci
theorem RowC.below {w w' : World} {a : Option Addr} {rs : Rs} (h : RowC w a rs) (hb : Below w.heap.size w w') : RowC w' a rs := fun i hi => by
  obtain ⟨b, off, bi, oi, ci, e, hlt, hc, hr, hs⟩ := h i hi
  exact ⟨b, off, bi, oi, ci, e, Nat.lt_of_lt_of_le hlt hb.size, (hb.cell (p := ⟨b, off + i, none⟩) hlt).trans hc, hr.below hb, hs⟩
theorem BldR.rowC {w : World} {B hi : Nat} {v : Value} {rs : Rs} (h : BldR w B hi v rs) (hp : ∀ i, i < rs.length → 0 < (nthR rs i).length) (ht : TextR rs) : ∃ a c, v = .slice a rs.length c ∧ RowC w a rs := by
  obtain ⟨xs, gs, ns, cs, ax, ⟨hx, ho⟩, hr, _, hcp⟩ := h
  rcases ho with ⟨rfl, h0⟩ | ⟨g, cap, cur, rfl, hg, hh, hc, _, hcs, htk⟩
  · exact ⟨none, 0, by rw [h0], fun i hi => by omega⟩
  · refine ⟨_, cap, rfl, fun i hi => ?_⟩
    obtain ⟨e1, e2⟩ := hr i hi
    obtain ⟨q1, q2, q3, q4, q5⟩ := e2 (hp i hi)
    rw [q1] at e1
    have hcell : cur[i]? = some (.slice (some ⟨gs i, 0, none⟩) (nthR rs i).length (cs i)) := by
      rw [← htk, List.getElem?_take] at e1
      split at e1
      · rw [← Array.getElem?_toList]; exact e1
      · cases e1
    refine ⟨g, 0, gs i, 0, cs i, rfl, slab_lt hh, by rw [slab_cell hh, Nat.zero_add]; exact hcell, ?_, hcp i hi (hp i hi)⟩
    intro j hj
    obtain ⟨cu, qh, _, qc⟩ := q5
    have := qc j hj
    refine ⟨gs i, 0, rfl, slab_lt qh, ⟨?_, ?_, ?_⟩, ht i hi j hj⟩
    · rw [slab_cell qh, Nat.zero_add]; exact this.1
    · rw [slab_cell qh, Nat.zero_add]; exact this.2.1
    · rw [slab_cell qh, Nat.zero_add]; exact this.2.2
theorem nthV_left {xs ys : List V3} {i : Nat} (h : i < xs.length) : nthV (xs ++ ys) i = nthV xs i := by unfold nthV; rw [List.getD_eq_getElem?_getD, List.getD_eq_getElem?_getD, List.getElem?_append_left h]
theorem nthV_right {xs ys : List V3} {i : Nat} : nthV (xs ++ ys) (xs.length + i) = nthV ys i := by
  unfold nthV
  rw [List.getD_eq_getElem?_getD, List.getD_eq_getElem?_getD, List.getElem?_append_right (by omega)]
  congr 2
  omega
theorem RowV.pre {w : World} {b o : Nat} {xs ys : List V3} (h : RowV w (some ⟨b, o, none⟩) (xs ++ ys)) : RowV w (some ⟨b, o, none⟩) xs := fun i hi => by
  obtain ⟨b', o', e, hl, hc, ht⟩ := h i (by rw [List.length_append]; omega)
  rw [nthV_left hi] at hc ht
  exact ⟨b', o', e, hl, hc, ht⟩
theorem RowV.suf {w : World} {b o : Nat} {xs ys : List V3} (h : RowV w (some ⟨b, o, none⟩) (xs ++ ys)) : RowV w (some ⟨b, o + xs.length * 3, none⟩) ys := fun i hi => by
  obtain ⟨b', o', e, hl, hc, ht⟩ := h (xs.length + i) (by rw [List.length_append]; omega)
  cases e
  rw [nthV_right] at hc ht
  refine ⟨b, o + xs.length * 3, rfl, hl, ?_, ht⟩
  rw [show o + xs.length * 3 + i * 3 = o + (xs.length + i) * 3 by omega]
  exact hc
/-- Rows that are drawn are right. -/
theorem GoodR.small {nw : Nat} {rs : Rs} (h : GoodR nw rs) (hl : rs.length ≤ 400) (hn : nw ≤ 16) : SmallR rs := ⟨by omega, fun i hi => by
  have := (h _ (by rw [nthR_get hi]; exact List.getElem_mem hi : nthR rs i ∈ rs)).1
  omega⟩
theorem GoodR.text {nw : Nat} {rs : Rs} (h : GoodR nw rs) : TextR rs := textR_of fun vs hv v hvv => by
  have := ((h vs hv).2 v hvv).2.2
  unfold maxLen
  omega
theorem GoodR.ok {nw wd : Nat} {rs : Rs} (h : GoodR nw rs) (hl : rs.length ≤ 400) (hn : nw ≤ wd) : okRs wd rs = true := by
  rw [okRs_good (fun j hj => ?_)]
  · simp; omega
  · have hm : nthR rs j ∈ rs := by rw [nthR_get hj]; exact List.getElem_mem hj
    unfold rowB
    simp only [Bool.and_eq_true, decide_eq_true_eq, List.all_eq_true]
    exact ⟨by rw [(h _ hm).1]; exact hn, fun v hv => ((h _ hm).2 v hv).1⟩
theorem GoodR.len {nw : Nat} {rs : Rs} (h : GoodR nw rs) {i : Nat} (hi : i < rs.length) : (nthR rs i).length = nw := (h _ (by rw [nthR_get hi]; exact List.getElem_mem hi)).1
theorem good_gen {nw nv : Nat} {aa bb : Rs} (ha : GoodR nw aa) (hb : GoodR nv bb) : GoodR (nw + nv) (prodL aa bb) := fun vs hv => by
  obtain ⟨x, hx, y, hy, rfl⟩ := mem_prod hv
  refine ⟨by rw [List.length_append, (ha x hx).1, (hb y hy).1], fun v hvv => ?_⟩
  rcases List.mem_append.1 hvv with h | h
  · exact (ha x hx).2 v h
  · exact (hb y hy).2 v h
theorem GoodR.perm {nw : Nat} {rs ts : Rs} (h : GoodR nw rs) (hp : ts.Perm rs) : GoodR nw ts := fun vs hv => h vs (hp.mem_iff.1 hv)
theorem GoodR.take {nw : Nat} {rs : Rs} (h : GoodR nw rs) (k : Nat) : GoodR nw (rs.take k) := fun vs hv => h vs (List.mem_of_mem_take hv)
end Go.Proofs.Ytmcjgncpblbhpaa
namespace Go.Proofs.Ytmcjgncpblbhpaa
open Go.RowKit

structure GrpG (nw c : Nat) (ks : Rs) (gs : Gs) : Prop where
  few : FewG gs
  pos : ∀ i, i < gs.length → 0 < (nthG gs i).length
  good : ∀ i, i < gs.length → GoodR nw (nthG gs i)
  alike : ∀ i j, i < gs.length → j < (nthG gs i).length → nthV (nthR (nthG gs i) j) c = nthV (nthR (nthG gs i) 0) c
  rise : ∀ i, i + 1 < gs.length → cmp3 (nthV (nthR (nthG gs i) 0) c) (nthV (nthR (nthG gs (i + 1)) 0) c) < 0
  perm : gs.flatten.Perm ks
theorem rows_range (ks : Rs) : (List.range ks.length).map (nthR ks) = ks := by
  apply List.ext_getElem
  · simp
  · intro i h1 h2
    rw [List.getElem_map, List.getElem_range, nthR_get h2]
theorem one_cmp (x y : V3) : cmpRows [x] [y] = cmp3 x y := by
  rw [cmpRows]
  by_cases h : cmp3 x y ≠ 0
  · rw [if_pos h]
  · rw [if_neg h]
    have : cmp3 x y = 0 := by simpa using h
    rw [this]; rfl
theorem cfG_one (c : Nat) (ks : Rs) (x y : Nat) : cfG [(c : Int)] ks x y = cmp3 (nthV (nthR ks x) c) (nthV (nthR ks y) c) := by
  show cmpRows [nthV (nthR ks x) (c : Int).toNat] [nthV (nthR ks y) (c : Int).toNat] = _
  rw [Int.toNat_natCast, one_cmp]
theorem grC_good {nw c : Nat} {ks : Rs} (h : GoodR nw ks) (hl : ks.length ≤ 7) (hc : c < nw) (hn : nw ≤ 3) : grC [(c : Int)] ks = 0 := by
  unfold grC
  have h1 : ¬ (4096 < [(c : Int)].length ∨ 4096 < ks.length) := by simp; omega
  rw [if_neg h1, if_pos (h.ok (by omega) (by omega)), if_pos (allC_good fun x hx => hasC_good fun i hi => ?_)]
  have : i = 0 := by simpa using hi
  subst this
  rw [h.len hx]
  show 0 ≤ (c : Int) ∧ (c : Int) < (nw : Int)
  omega
theorem grpG_of {nw c : Nat} {ks : Rs} (h : GoodR nw ks) (hl : ks.length ≤ 7) (hc : c < nw) (hn : nw ≤ 3) : GrpG nw c ks (gsOf [(c : Int)] ks) := by
  have hz := grC_good h hl hc hn
  have hf : FewG (gsOf [(c : Int)] ks) := by
    have := grR_few (cs := [(c : Int)]) h.text
    unfold grR at this
    rw [if_pos hz] at this
    exact this
  have hG := grpN_spec [(c : Int)] ks
  have hlen : (gsOf [(c : Int)] ks).length = (grpN [(c : Int)] ks).length := by unfold gsOf; simp
  have e : ∀ i, i < (grpN [(c : Int)] ks).length → nthG (gsOf [(c : Int)] ks) i = (nthL (grpN [(c : Int)] ks) i).map (nthR ks) := fun i hi => nthG_map hi
  have hp : (gsOf [(c : Int)] ks).flatten.Perm ks := by
    have h1 := hG.1.map (nthR ks)
    rw [rows_range] at h1
    unfold gsOf
    rw [List.map_flatten] at h1
    exact h1
  have pos : ∀ i, i < (grpN [(c : Int)] ks).length → 0 < (nthL (grpN [(c : Int)] ks) i).length := fun i hi => List.length_pos_iff.2 (hG.2.ne _ (mem_nthL hi))
  refine ⟨hf, fun i hi => ?_, fun i hi vs hv => ?_, fun i j hi hj => ?_, fun i hi => ?_, hp⟩
  · rw [hlen] at hi
    rw [e i hi, List.length_map]
    exact pos i hi
  · refine h vs (hp.mem_iff.1 (List.mem_flatten.2 ⟨_, ?_, hv⟩))
    rw [nthG_get hi]
    exact List.getElem_mem hi
  · rw [hlen] at hi
    rw [e i hi, List.length_map] at hj
    rw [e i hi, nthR_mapN hj, nthR_mapN (pos i hi)]
    rcases Nat.eq_zero_or_pos j with rfl | hj0
    · rfl
    · have hin := (List.pairwise_iff_getElem.1 (hG.2.inn _ (mem_nthL hi)) 0 j (by omega) hj hj0).2
      rw [← nthN_get hj, ← nthN_get (show 0 < (nthL (grpN [(c : Int)] ks) i).length by omega)] at hin
      obtain ⟨a1, a2⟩ := hin
      have b1 := of_decide_eq_false a1
      have b2 := of_decide_eq_false a2
      have n1 := cfG_neg [(c : Int)] ks (nthN (nthL (grpN [(c : Int)] ks) i) 0) (nthN (nthL (grpN [(c : Int)] ks) i) j)
      have z : cfG [(c : Int)] ks (nthN (nthL (grpN [(c : Int)] ks) i) 0) (nthN (nthL (grpN [(c : Int)] ks) i) j) = 0 := by omega
      rw [cfG_one] at z
      exact ((cmp3_zero _ _).1 z).symm
  · rw [hlen] at hi
    have hi0 : i < (grpN [(c : Int)] ks).length := by omega
    rw [e i hi0, e (i + 1) hi, nthR_mapN (pos i hi0), nthR_mapN (pos (i + 1) hi)]
    have ho := List.pairwise_iff_getElem.1 hG.2.out i (i + 1) hi0 hi (by omega)
    rw [← nthL_get hi0, ← nthL_get hi] at ho
    have := ho _ (mem_nthN (pos i hi0)) _ (mem_nthN (pos (i + 1) hi))
    have h2 := of_decide_eq_true this
    rw [cfG_one] at h2
    exact h2
/-- Groups of rows that are not empty, as they are read. -/
theorem OwnG.rd {w : World} {lo hi : Nat} {a : Option Addr} {gs : Gs} {nw c : Nat} {ks : Rs} (h : OwnG w lo hi a gs) (hg : GrpG nw c ks gs) (hn : 1 ≤ nw) (hn3 : nw ≤ 3) {i : Nat} (hi' : i < gs.length) : ∃ b bo p po ci, a = some ⟨b, bo, none⟩ ∧ b < w.heap.size ∧ w.cell? ⟨b, bo + i, none⟩ = some (.slice (some ⟨p, po, none⟩) (nthG gs i).length ci) ∧ p < w.heap.size ∧ RowA w (some ⟨p, po, none⟩) (nthG gs i) := by
  rcases h with h | ⟨g, cur, cs, ax, S, e, h1, h2, hh, hc, hd⟩
  · omega
  · obtain ⟨e1, e2, _⟩ := hc i hi'
    rcases e2 with e2 | ⟨g2, cur2, gs2, ns2, cs2, ax2, q1, _, _, hh2, hc2, _⟩
    · have := hg.pos i hi'
      omega
    · refine ⟨g, 0, g2, 0, cs i, e, slab_lt hh, ?_, slab_lt hh2, fun j hj => ?_⟩
      · rw [slab_cell hh, Nat.zero_add, e1, q1]
      · obtain ⟨c1, c2⟩ := hc2 j hj
        have hl := (hg.good i hi').len hj
        obtain ⟨d1, d2, d3, d4, d5, cu, qh, _, qc⟩ := c2 (by omega)
        refine ⟨g2, 0, gs2 j, 0, cs2 j, rfl, slab_lt hh2, ?_, fun k hk => ?_, by rw [hl]; unfold maxLen; omega⟩
        · rw [slab_cell hh2, Nat.zero_add, c1, d1]
        · have := qc k hk
          refine ⟨gs2 j, 0, rfl, slab_lt qh, ⟨?_, ?_, ?_⟩, (hg.few.2 i hi').2.2 j hj k hk⟩
          · rw [slab_cell qh, Nat.zero_add]; exact this.1
          · rw [slab_cell qh, Nat.zero_add]; exact this.2.1
          · rw [slab_cell qh, Nat.zero_add]; exact this.2.2
/-- A list of rows that lie elsewhere. -/
def AllR (w0 w : World) (v : Value) (F : Rs) : Prop := ∃ xs, w.ownsRow w0.heap.size 28 1 v F.length xs ∧ ∀ i, i < F.length → ∃ p o c, xs[i]? = some (.slice (some ⟨p, o, none⟩) (nthR F i).length c) ∧ RowV w0 (some ⟨p, o, none⟩) (nthR F i)
theorem AllR.empty (w0 : World) : AllR w0 (w0.alloc (.cells #[] 28)) (.slice (some ⟨w0.heap.size, 0, none⟩) 0 0) [] :=
  ⟨[], ⟨rfl, .inr ⟨w0.heap.size, 0, #[], rfl, Nat.le_refl _, heap_alloc_new w0 _, by simp, by simp, by simp, by simp⟩⟩, fun i hi => by simp at hi⟩
theorem AllR.below {w0 w w' : World} {v : Value} {F : Rs} (h : AllR w0 w v F) (hb : Below w.heap.size w w') : AllR w0 w' v F := by
  obtain ⟨xs, ho, hr⟩ := h
  exact ⟨xs, owns_below ho hb, hr⟩
theorem AllR.lst {w0 w : World} {v : Value} {F : Rs} (h : AllR w0 w v F) (hb : Below w0.heap.size w0 w) (hs : SmallR F) : LstA w v F := by
  obtain ⟨xs, ⟨hx, ho⟩, hr⟩ := h
  rcases ho with ⟨rfl, h0⟩ | ⟨g, cap, cur, rfl, hg, hh, hc, _, hsz, ht⟩
  · exact .inl ⟨rfl, List.eq_nil_of_length_eq_zero h0⟩
  · refine .inr ⟨g, cap, rfl, fun i hi => ?_, slab_lt hh⟩
    obtain ⟨p, o, c, e, hv⟩ := hr i hi
    refine ⟨g, 0, p, o, c, rfl, slab_lt hh, ?_, hv.below hb, small_max (hs.2 i hi)⟩
    rw [← ht, List.getElem?_take, if_pos (by omega)] at e
    rw [slab_cell hh, Nat.zero_add, ← Array.getElem?_toList]
    exact e
theorem nthR_past {F G : Rs} {q : Nat} : nthR (F ++ G) (F.length + q) = nthR G q := by
  unfold nthR
  rw [List.getD_eq_getElem?_getD, List.getD_eq_getElem?_getD, List.getElem?_append_right (by omega)]
  congr 2
  omega
set_option maxRecDepth 100000 in
theorem app_all {w0 w : World} {p po c : Nat} {v : Value} {F G : Rs} (h : AllR w0 w v F) (hb : Below w0.heap.size w0 w) (hl : F.length + G.length ≤ 4096) (hr : RowA w0 (some ⟨p, po, none⟩) G) (hp : p < w0.heap.size) :
    ∃ v' w', (Builtin.append_ #[23, 23] 23 #[v, .slice (some ⟨p, po, none⟩) G.length c]).run Try.prog w = .ok v' w' ∧ AllR w0 w' v' (F ++ G) ∧ Below w0.heap.size w0 w' := by
  obtain ⟨i0, hi1, hz0, hz1, hz2⟩ := info_parts infoR
  obtain ⟨xs, ho, hx⟩ := h
  obtain ⟨k, hk, hck⟩ := hr.cel
  have hcw : ∀ j, j < G.length → w.cell? ⟨p, po + j, none⟩ = some (k.v j) := fun j hj => (hb.cell (p := ⟨p, po + j, none⟩) hp).trans (hck j hj)
  obtain ⟨v', w', h1, h2, h3, _⟩ := run_append_own (P := Try.prog) w w0.heap.size 23 23 28 i0 _ 1 24 Try.underlying23 hi1 hz0 hz1 hz2 rfl (by decide) v F.length xs ho ⟨p, po, none⟩ G.length c ((List.range G.length).map k.v) (by simp) (fun j u hj => by
    rw [List.getElem?_map] at hj
    obtain ⟨x, hx, rfl⟩ := Option.map_eq_some_iff.1 hj
    have hjn : j < G.length := by have := (List.getElem?_eq_some_iff.1 hx).1; simpa using this
    rw [List.getElem?_range hjn] at hx
    cases hx
    rw [add_plain]
    exact hcw j hjn) (by intro u hu; obtain ⟨x, _, rfl⟩ := List.mem_map.1 hu; rfl) (by unfold maxLen; omega) (by omega) hb.size
  have hxl : xs.length = F.length := by have := ho.1; omega
  refine ⟨v', w', h1, ⟨_, by rw [List.length_append]; exact h2, fun i hi => ?_⟩, hb.grown h3 hb.size fun j e => ?_⟩
  · rw [List.length_append] at hi
    by_cases e : i < F.length
    · obtain ⟨a1, a2, a3, a4, a5⟩ := hx i e
      have en : nthR (F ++ G) i = nthR F i := by unfold nthR; rw [List.getD_eq_getElem?_getD, List.getD_eq_getElem?_getD, List.getElem?_append_left e]
      rw [en]
      exact ⟨a1, a2, a3, by rw [List.getElem?_append_left (by omega)]; exact a4, a5⟩
    · obtain ⟨q, rfl⟩ : ∃ q, i = F.length + q := ⟨i - F.length, by omega⟩
      have hq : q < G.length := by omega
      rw [nthR_past]
      obtain ⟨e1, p1, o1, f1, r1⟩ := hk q hq
      refine ⟨p1, o1, k.c q, ?_, r1⟩
      rw [List.getElem?_append_right (by omega), hxl, Nat.add_sub_cancel_left, List.getElem?_map, List.getElem?_range hq]
      simp only [Option.map_some]
      rw [Cel.v, f1, e1]
  · obtain ⟨_, q2⟩ := ho
    rcases q2 with ⟨rfl, _⟩ | ⟨g2, cap2, cur2, rfl, hg', _⟩
    · simp [Value.ownBlock] at e
    · simp [Value.ownBlock] at e
      omega
theorem flat_take {gs : Gs} {q : Nat} (h : q < gs.length) : (gs.take (q + 1)).flatten = (gs.take q).flatten ++ nthG gs q := by
  rw [gs_take h, List.flatten_append]; simp
theorem flat_len {gs : Gs} {ks : Rs} (h : gs.flatten.Perm ks) (q : Nat) : (gs.take q).flatten.length ≤ ks.length := by
  rw [← h.length_eq]
  have e : gs.flatten = (gs.take q).flatten ++ (gs.drop q).flatten := by rw [← List.flatten_append, List.take_append_drop]
  rw [e, List.length_append]
  omega
set_option maxRecDepth 100000 in
theorem at_lt {w : World} {a : Option Addr} {cap len nw : Nat} (h : Code w a len) (hlen : len ≤ 1048576) (h1 : 1 ≤ nw) (h3 : nw ≤ 3) :
    Calls Try.prog 14 #[.slice a len cap, .int .i64 0, .int .i64 nw] w fun e w' => ∃ c : Nat, e = .returned (.int .i64 c) ∧ c < nw ∧ Below w.heap.size w w' := by
  by_cases h0 : nw = 1
  · subst h0
    refine (at_one (a := a) (cap := cap) (len := len) (w := w) 0).mono ?_
    rintro e w' ⟨rfl, rfl⟩
    exact ⟨0, rfl, by omega, Below.refl _ _⟩
  · refine (at_any (cap := cap) h hlen 0 (nw : Int) (by omega) (by omega) (by omega)).mono ?_
    rintro e w' ⟨r, rfl, r0, r1, hb⟩
    exact ⟨r.toNat, by rw [Int.toNat_of_nonneg r0], by omega, hb⟩
end Go.Proofs.Ytmcjgncpblbhpaa
namespace Go.Proofs.Ytmcjgncpblbhpaa
open Go.RowKit

/-- Two cells. -/
abbrev StR2 (W : World) (b1 o1 : Nat) (s1 : Value) (b2 o2 : Nat) (s2 : Value) (w' : World) : Prop := w'.cell? ⟨b1, o1, none⟩ = some s1 ∧ w'.cell? ⟨b2, o2, none⟩ = some s2 ∧ Below W.heap.size W w'
theorem StR2.keep {W : World} {b1 o1 : Nat} {s1 : Value} {b2 o2 : Nat} {s2 : Value} {w1 w2 : World} (h : StR2 W b1 o1 s1 b2 o2 s2 w1) (l1 : b1 < W.heap.size) (l2 : b2 < W.heap.size) (hb : Below w1.heap.size w1 w2) : StR2 W b1 o1 s1 b2 o2 s2 w2 :=
  ⟨(hb.cell (p := ⟨b1, o1, none⟩) (Nat.lt_of_lt_of_le l1 h.2.2.size)).trans h.1, (hb.cell (p := ⟨b2, o2, none⟩) (Nat.lt_of_lt_of_le l2 h.2.2.size)).trans h.2.1, below_step h.2.2 (Nat.le_refl _) hb⟩
/-- The heads of two groups, and a value of each. -/
abbrev StR6 (W : World) (b o1 : Nat) (s1 : Value) (o2 : Nat) (s2 : Value) (p1 q1 : Nat) (h1 : Value) (p2 q2 : Nat) (h2 : Value) (x1 y1 : Nat) (x : V3) (x2 y2 : Nat) (y : V3) (w' : World) : Prop :=
  w'.cell? ⟨b, o1, none⟩ = some s1 ∧ w'.cell? ⟨b, o2, none⟩ = some s2 ∧ w'.cell? ⟨p1, q1, none⟩ = some h1 ∧ w'.cell? ⟨p2, q2, none⟩ = some h2 ∧ CellV w' x1 y1 x ∧ CellV w' x2 y2 y ∧ Below W.heap.size W w'
theorem StR6.keep {W : World} {b o1 : Nat} {s1 : Value} {o2 : Nat} {s2 : Value} {p1 q1 : Nat} {h1 : Value} {p2 q2 : Nat} {h2 : Value} {x1 y1 : Nat} {x : V3} {x2 y2 : Nat} {y : V3} {w1 w2 : World} (h : StR6 W b o1 s1 o2 s2 p1 q1 h1 p2 q2 h2 x1 y1 x x2 y2 y w1) (l : b < W.heap.size ∧ p1 < W.heap.size ∧ p2 < W.heap.size ∧ x1 < W.heap.size ∧ x2 < W.heap.size) (hb : Below w1.heap.size w1 w2) : StR6 W b o1 s1 o2 s2 p1 q1 h1 p2 q2 h2 x1 y1 x x2 y2 y w2 := by
  have hs := h.2.2.2.2.2.2.size
  exact ⟨(hb.cell (p := ⟨b, o1, none⟩) (Nat.lt_of_lt_of_le l.1 hs)).trans h.1, (hb.cell (p := ⟨b, o2, none⟩) (Nat.lt_of_lt_of_le l.1 hs)).trans h.2.1, (hb.cell (p := ⟨p1, q1, none⟩) (Nat.lt_of_lt_of_le l.2.1 hs)).trans h.2.2.1, (hb.cell (p := ⟨p2, q2, none⟩) (Nat.lt_of_lt_of_le l.2.2.1 hs)).trans h.2.2.2.1, CellV.below h.2.2.2.2.1 (Nat.lt_of_lt_of_le l.2.2.2.1 hs) hb, CellV.below h.2.2.2.2.2.1 (Nat.lt_of_lt_of_le l.2.2.2.2 hs) hb, below_step h.2.2.2.2.2.2 (Nat.le_refl _) hb⟩
/-- The value in column c of row j, as it is read. -/
theorem RowA.val {w : World} {p po nw : Nat} {rs : Rs} (h : RowA w (some ⟨p, po, none⟩) rs) (hg : GoodR nw rs) {j c : Nat} (hj : j < rs.length) (hc : c < nw) : ∃ x y d, w.cell? ⟨p, po + j, none⟩ = some (.slice (some ⟨x, y, none⟩) nw d) ∧ x < w.heap.size ∧ CellV w x (y + c * 3) (nthV (nthR rs j) c) := by
  obtain ⟨_, _, x, y, d, e, _, hcell, hv, _⟩ := h j hj
  cases e
  rw [hg.len hj] at hcell
  obtain ⟨_, _, e2, hl, hcv, _⟩ := hv c (by rw [hg.len hj]; exact hc)
  cases e2
  exact ⟨x, y, d, hcell, hl, hcv⟩
set_option maxRecDepth 100000 in
set_option maxHeartbeats 8000000 in
theorem lawGroups_small (a0 : Option Addr) (len0 cap0 : Nat) (a1 : Option Addr) (len1 cap1 : Nat) (w : World) (c0 : Code w a0 len0) (c1 : Code w a1 len1) (hl0 : len0 ≤ 1048576) (hl1 : len1 ≤ 1048576) :
    Calls Try.prog 5 #[.slice a0 len0 cap0, .slice a1 len1 cap1] w fun e w' => e = .returned (.bool true) ∧ Below w.heap.size w w' := by
  have R1 := rowsOf_any (cap := cap0) c0 (by omega)
  have HC1 : Hid (Code w a1 len1) := c1
  clear c0 c1
  go_enter Try.func5, Try.ntmps5
  go_wp2_with fail
  refine R1.mono ?_
  rintro e w1 ⟨v1, ks, nw, rfl, O1, lk, hnw, gk, b1⟩
  have sk := gk.small (by omega) (by omega)
  have L1 := O1.lst (fun i hi => by rw [gk.len hi]; omega) gk.text sk
  rcases L1 with ⟨rfl, rfl⟩ | ⟨g0, ck, rfl, rk, lg0⟩
  · clear R1 O1 sk gk
    go_wp2
    go_ret
    exact ⟨rfl, b1⟩
  have HK : Hid (RowA w1 (some ⟨g0, 0, none⟩) ks ∧ g0 < w1.heap.size ∧ GoodR nw ks ∧ SmallR ks) := ⟨rk, lg0, gk, sk⟩
  clear R1 O1 rk sk gk lg0
  obtain ⟨n, hn⟩ : ∃ n, ks.length = n := ⟨_, rfl⟩
  have HN : Hid (ks.length = n) := hn
  rw [hn] at lk ⊢
  clear hn
  by_cases h0 : n = 0
  · subst h0
    go_wp2
    go_ret
    exact ⟨rfl, b1⟩
  have h0I : ((n : Int) == 0) = false := by simp; omega
  have h0N : 0 < n := by omega
  have h0J : (0 : Int) < (n : Int) := by omega
  obtain ⟨_, _, p0, s0, d0, e0, _, ck0, _, _⟩ := HK.out.1 0 (by rw [HN.out]; omega)
  cases e0
  rw [Nat.add_zero, HK.out.2.2.1.len (by rw [HN.out]; omega)] at ck0
  have AT := at_lt (cap := cap1) (nw := nw) (HC1.out.kept b1) hl1 hnw.1 hnw.2
  go_wp2_with fail
  refine AT.mono ?_
  rintro e w2 ⟨c, rfl, hc, b2⟩
  have B2 := b1.trans (b2.mono b1.size)
  clear AT ck0 h0I
  have hz := grC_good HK.out.2.2.1 (by rw [HN.out]; exact lk) hc hnw.2
  have gg := grpG_of HK.out.2.2.1 (by rw [HN.out]; exact lk) hc hnw.2
  have IM : Hid (∀ W, Below w1.heap.size w1 W → Calls Try.prog 19 #[.slice (some ⟨W.heap.size, 0, none⟩) 1 1, .slice (some ⟨g0, 0, none⟩) n ck] (W.alloc (.cells #[.int .i64 c] 3)) fun r w' => ∃ a c', r = .returned (.tuple #[.slice a (gsOf [(c : Int)] ks).length c', .int .i64 0]) ∧ OwnG w' 0 w'.heap.size a (gsOf [(c : Int)] ks) ∧ Below W.heap.size W w') := fun W hW => by
    have bA : Below W.heap.size W (W.alloc (.cells #[.int .i64 c] 3)) := (Below.refl _ _).alloc (Nat.le_refl _) _
    have := implGroup_any (some ⟨W.heap.size, 0, none⟩) 1 g0 ck [(c : Int)] ks (W.alloc (.cells #[.int .i64 c] 3)) (fun i hi => ⟨W.heap.size, 0, rfl, by simp, by
      have : i = 0 := by simpa using hi
      subst this
      simp [nthC]⟩) ((HK.out.1.below hW).below bA) (Nat.lt_of_lt_of_le HK.out.2.1 (Nat.le_trans hW.size bA.size)) HK.out.2.2.2 (by simp) HK.out.2.2.1.text
    rw [HN.out] at this
    refine this.mono ?_
    rintro e w' ⟨a, c', rfl, hO, hb⟩
    have eR : grR [(c : Int)] ks = gsOf [(c : Int)] ks := if_pos hz
    rw [eR] at hO
    exact ⟨a, c', by rw [eR, hz], hO.wide (Nat.zero_le _), below_step bA (Nat.le_refl _) hb⟩
  have SP : Hid (∀ W, Below w1.heap.size w1 W → Calls Try.prog 20 #[.slice (some ⟨W.heap.size, 0, none⟩) 1 1, .slice (some ⟨g0, 0, none⟩) n ck] (W.alloc (.cells #[.int .i64 c] 3)) fun r w' => ∃ a c', r = .returned (.tuple #[.slice a (gsOf [(c : Int)] ks).length c', .int .i64 0]) ∧ OwnG w' 0 w'.heap.size a (gsOf [(c : Int)] ks) ∧ Below W.heap.size W w') := fun W hW => by
    have bA : Below W.heap.size W (W.alloc (.cells #[.int .i64 c] 3)) := (Below.refl _ _).alloc (Nat.le_refl _) _
    have := specGroup_any (some ⟨W.heap.size, 0, none⟩) 1 g0 0 ck [(c : Int)] ks (W.alloc (.cells #[.int .i64 c] 3)) (fun i hi => ⟨W.heap.size, 0, rfl, by simp, by
      have : i = 0 := by simpa using hi
      subst this
      simp [nthC]⟩) ((HK.out.1.below hW).below bA) (Nat.lt_of_lt_of_le HK.out.2.1 (Nat.le_trans hW.size bA.size)) HK.out.2.2.2 (by simp) HK.out.2.2.1.text
    rw [HN.out] at this
    refine this.mono ?_
    rintro e w' ⟨a, c', rfl, hO, hb⟩
    have eR : grR [(c : Int)] ks = gsOf [(c : Int)] ks := if_pos hz
    rw [eR] at hO
    exact ⟨a, c', by rw [eR, hz], hO.wide (Nat.zero_le _), below_step bA (Nat.le_refl _) hb⟩
  clear hz
  generalize gsOf [(c : Int)] ks = gs at *
  have HGR : Hid (GrpG nw c ks gs) := gg
  have HFL : Hid (∀ q, (gs.take q).flatten.length ≤ 7) := fun q => by have := flat_len gg.perm q; rw [HN.out] at this; omega
  have lgs := gg.few.1
  obtain ⟨gl, hgl⟩ : ∃ gl, gs.length = gl := ⟨_, rfl⟩
  have HGL : Hid (gs.length = gl) := hgl
  rw [hgl] at IM SP lgs
  clear gg hgl
  have i1 := IM.out w2 b2
  clear IM
  go_wp2_with fail
  refine i1.mono ?_
  rintro e w3 ⟨ga, gc, rfl, O3, b3⟩
  have B3 := below_step b2 (Nat.le_refl _) b3
  have HO3 : Hid (OwnG w3 0 w3.heap.size ga gs) := O3
  have i2 := SP.out w3 B3
  clear SP i1 O3 b3
  go_wp2_with fail
  refine i2.mono ?_
  rintro e w4 ⟨ha, hc', rfl, O4, b4⟩
  have HO : Hid (OwnG w4 0 w3.heap.size ga gs ∧ OwnG w4 0 w4.heap.size ha gs) := ⟨HO3.out.below b4, O4⟩
  have HKB : Hid (Below w.heap.size w w4 ∧ RowA w4 (some ⟨g0, 0, none⟩) ks ∧ g0 < w4.heap.size) := ⟨below_step (b1.trans (B3.mono b1.size)) (Nat.le_refl _) b4, (HK.out.1.below B3).below b4, Nat.lt_of_lt_of_le HK.out.2.1 (Nat.le_trans B3.size b4.size)⟩
  have A0 : Hid (AllR w4 (w4.alloc (.cells #[] 28)) (.slice (some ⟨w4.heap.size, 0, none⟩) 0 0) (gs.take 0).flatten) := AllR.empty w4
  have BA : Below w4.heap.size w4 (w4.alloc (.cells #[] 28)) := (Below.refl _ _).alloc (Nat.le_refl _) _
  clear i2 O4 b4 B3 HO3 b2 B2
  go_wp2
  go_loopw [11, 12] (fun v i wr => ∃ q : Nat, q ≤ gl ∧ i = .int .i64 q ∧ Hid (AllR w4 wr v (gs.take q).flatten) ∧ Below w4.heap.size w4 wr) (fun _ i _ => gl - (intOf i).toNat)
  case atStart => exact ⟨0, by omega, rfl, A0.out, BA⟩
  case round =>
    clear A0 BA
    rename World => wo
    obtain ⟨i, hin, rfl, HA, hbo⟩ := hrel
    by_cases hiN : i < gl
    · have hiI : (i : Int) < (gl : Int) := by omega
      have hig : i < gs.length := by rw [HGL.out]; exact hiN
      obtain ⟨b1, o1, p1, q1, d1, rfl, lb1, e1, lp1, r1⟩ := HO.out.1.rd HGR.out hnw.1 hnw.2 hig
      obtain ⟨b2, o2, p2, q2, d2, rfl, lb2, e2, lp2, r2⟩ := HO.out.2.rd HGR.out hnw.1 hnw.2 hig
      obtain ⟨m, hm⟩ : ∃ m, (nthG gs i).length = m := ⟨_, rfl⟩
      have HM : Hid ((nthG gs i).length = m) := hm
      have hm0 : 0 < m := by rw [← hm]; exact HGR.out.pos i hig
      have hm4 : m ≤ 400 := by rw [← hm]; exact (HGR.out.few.2 i hig).1
      rw [hm] at e1 e2
      clear hm
      have hmI : ((m : Int) == 0) = false := by simp; omega
      have hmJ : (0 : Int) < (m : Int) := by omega
      have HR1 : Hid (RowA w4 (some ⟨p1, q1, none⟩) (nthG gs i) ∧ p1 < w4.heap.size) := ⟨r1, lp1⟩
      have HE : Hid (∀ W, Below w4.heap.size w4 W → W.cell? ⟨b1, o1 + i, none⟩ = some (.slice (some ⟨p1, q1, none⟩) m d1) ∧ W.cell? ⟨b2, o2 + i, none⟩ = some (.slice (some ⟨p2, q2, none⟩) m d2)) := fun W hW => ⟨(hW.cell (p := ⟨b1, o1 + i, none⟩) lb1).trans e1, (hW.cell (p := ⟨b2, o2 + i, none⟩) lb2).trans e2⟩
      have C5 : ∀ w', StR2 wo b1 (o1 + i) (.slice (some ⟨p1, q1, none⟩) m d1) b2 (o2 + i) (.slice (some ⟨p2, q2, none⟩) m d2) w' → Calls Try.prog 17 #[.slice (some ⟨p1, q1, none⟩) m d1, .slice (some ⟨p2, q2, none⟩) m d2] w' fun e w'' => e = .returned (.bool true) ∧ Below w'.heap.size w' w'' := fun w' hw' => by
        have hB := below_step hbo (Nat.le_refl _) hw'.2.2
        have := sameRows_same (some ⟨p1, q1, none⟩) (some ⟨p2, q2, none⟩) d1 d2 (nthG gs i) w' (r1.row.below hB) (r2.row.below hB) (HGR.out.few.2 i hig).2.1
        rw [HM.out] at this
        exact this
      have HLL : Hid (b1 < wo.heap.size ∧ b2 < wo.heap.size) := ⟨Nat.lt_of_lt_of_le lb1 hbo.size, Nat.lt_of_lt_of_le lb2 hbo.size⟩
      have hS : Hid (StR2 wo b1 (o1 + i) (.slice (some ⟨p1, q1, none⟩) m d1) b2 (o2 + i) (.slice (some ⟨p2, q2, none⟩) m d2) wo.drew) := ⟨(HE.out wo hbo).1, (HE.out wo hbo).2, (Below.refl _ _).drew⟩
      clear e1 e2 lp1 lp2 r1 r2 lb2
      go_wp2_with fail
      refine wp_region_class (C := StR2 wo b1 (o1 + i) (.slice (some ⟨p1, q1, none⟩) m d1) b2 (o2 + i) (.slice (some ⟨p2, q2, none⟩) m d2)) (by kernel_rfl) (by kernel_rfl) hS.out ?_
      repeat (first | go_big_quiet_skip | (go_big_quiet_want; apply Exists.intro; refine ⟨?_, ?_⟩; (focus (intro w' hw'; first | (obtain ⟨t0, t1, t3⟩ := hw'; go_simp; with_reducible rfl) | (go_simp; refine (C5 w' hw').mono ?_; rintro e w'' ⟨rfl, hb⟩; exact ⟨rfl, hw'.keep HLL.out.1 HLL.out.2 hb⟩))); (try simp only [Act.put, List.setIfInBounds_toArray, List.set_cons_zero, List.set_cons_succ]); go_big_quiet_on))
      refine wpQuiet_nil ?_
      intro wx hwx
      have hbx := below_step hbo (Nat.le_refl _) hwx.2.2
      have hox := hwx.2.2
      clear hS C5 hwx HLL
      go_wp2
      go_loopw [13] (fun k wq => ∃ z : Nat, z ≤ m ∧ k = .int .i64 z ∧ Below wx.heap.size wx wq) (fun k _ => m - (intOf k).toNat)
      case atStart => exact ⟨0, by omega, rfl, Below.refl _ _⟩
      case round =>
        obtain ⟨z, hz, rfl, hbz⟩ := hrel
        have hB4 := below_step hbx (Nat.le_refl _) hbz
        obtain ⟨f1, _⟩ := HE.out wr hB4
        by_cases hzm : z < m
        · have hzI : (z : Int) < (m : Int) := by omega
          have hcI : (c : Int) < (nw : Int) := by omega
          obtain ⟨x1, y1, k1, f2, _, v1⟩ := (HR1.out.1.below hB4).val (HGR.out.good i hig) (j := z) (c := c) (by rw [HM.out]; exact hzm) hc
          obtain ⟨x2, y2, k2, f3, _, v2⟩ := (HR1.out.1.below hB4).val (HGR.out.good i hig) (j := 0) (c := c) (by rw [HM.out]; exact hm0) hc
          rw [HGR.out.alike i z hig (by rw [HM.out]; exact hzm)] at v1
          rw [Nat.add_zero] at f3
          generalize nthV (nthR (nthG gs i) 0) c = x at *
          have Q := fun W => eq_val x.1 x.2.1 x.2.2 x.1 x.2.1 x.2.2 W
          rw [show eqV3 (x.1, x.2.1, x.2.2) (x.1, x.2.1, x.2.2) = true from (eqV3_iff _ _).2 rfl] at Q
          obtain ⟨s0, s1, s2⟩ := v1
          obtain ⟨t0, t1, t2⟩ := v2
          go_wp2_with fail
          go_quiet (fail)
          go_wp2
          go_roundw
          case rel => exact ⟨z + 1, by omega, by go_num, below_drewN hbz _⟩
          case measure => simp [intOf]; omega
        · by_cases hi0 : i = 0
          · have hi0I : ¬ (0 : Int) < (i : Int) := by omega
            clear hi0
            obtain ⟨v6, w6, r6, O6, b6⟩ := app_all (p := p1) (po := q1) (c := d1) (G := nthG gs i) (HA.out.below (below_step hox (Nat.le_refl _) hbz)) (hB4) (by have := HFL.out i; have := HGR.out.few.2 i (by rw [HGL.out]; exact hiN); omega) HR1.out.1 HR1.out.2
            have HO2 : Hid (AllR w4 w6 v6 (gs.take (i + 1)).flatten ∧ Below w4.heap.size w4 w6) := ⟨by rw [flat_take (by rw [HGL.out]; exact hiN)]; exact O6, b6⟩
            have e9 := (HE.out wr (hB4)).1
            rw [HM.out] at r6
            clear O6 b6 HA HR1 HE
            go_wp2_with (at_builtin; refine Lib.wpList_append_run _ rfl _ _ _ _ rfl _ _ rfl rfl _ _ r6 ?_)
            go_roundw
            case rel => exact ⟨i + 1, by omega, by go_num, HO2.out.1, HO2.out.2⟩
            case measure => simp [intOf]; omega

          · have hi0I : (0 : Int) < (i : Int) := by omega
            obtain ⟨j, hj⟩ : ∃ j, j + 1 = i := ⟨i - 1, by omega⟩
            have hjg : j < gs.length := by omega
            have hjI : (i : Int) - 1 = (j : Int) := by omega
            have hwj : IntKind.i64.wrap (j : Int) = (j : Int) := wrap_nat (by omega)
            have hjn : j < gl := by omega
            have hjnI : (j : Int) < (gl : Int) := by omega
            have hcI : (c : Int) < (nw : Int) := by omega
            obtain ⟨bj, oj, p3, q3, d3, ej, lb3, e3, lp3, r3⟩ := HO.out.1.rd HGR.out hnw.1 hnw.2 hjg
            cases ej
            obtain ⟨m3, hm3⟩ : ∃ m3, (nthG gs j).length = m3 := ⟨_, rfl⟩
            have hm30 : 0 < m3 := by rw [← hm3]; exact HGR.out.pos j hjg
            have hm3J : (0 : Int) < (m3 : Int) := by omega
            have hm34 : m3 ≤ 400 := by rw [← hm3]; exact (HGR.out.few.2 j hjg).1
            obtain ⟨x1, y1, k1, f2, l1, v1⟩ := (r3.below hB4).val (HGR.out.good j hjg) (j := 0) (c := c) (by rw [hm3]; exact hm30) hc
            obtain ⟨x2, y2, k2, f3, l2, v2⟩ := (HR1.out.1.below hB4).val (HGR.out.good i hig) (j := 0) (c := c) (by rw [HM.out]; exact hm0) hc
            rw [Nat.add_zero] at f2 f3
            rw [hm3] at e3
            have hri := HGR.out.rise j (by rw [hj]; exact hig)
            rw [hj] at hri
            have ok1 : okV3 (nthV (nthR (nthG gs j) 0) c) = true := (((HGR.out.good j hjg) (nthR (nthG gs j) 0) (by rw [nthR_get (by rw [hm3]; exact hm30)]; exact List.getElem_mem _)).2 (nthV (nthR (nthG gs j) 0) c) (by rw [nthV_get (by rw [(HGR.out.good j hjg).len (by rw [hm3]; exact hm30)]; exact hc)]; exact List.getElem_mem _)).1
            have ok2 : okV3 (nthV (nthR (nthG gs i) 0) c) = true := (((HGR.out.good i hig) (nthR (nthG gs i) 0) (by rw [nthR_get (by rw [HM.out]; exact hm0)]; exact List.getElem_mem _)).2 (nthV (nthR (nthG gs i) 0) c) (by rw [nthV_get (by rw [(HGR.out.good i hig).len (by rw [HM.out]; exact hm0)]; exact hc)]; exact List.getElem_mem _)).1
            have C7 : ∀ W, Calls Try.prog 18 #[VV (nthV (nthR (nthG gs j) 0) c).1 (nthV (nthR (nthG gs j) 0) c).2.1 (nthV (nthR (nthG gs j) 0) c).2.2, VV (nthV (nthR (nthG gs i) 0) c).1 (nthV (nthR (nthG gs i) 0) c).2.1 (nthV (nthR (nthG gs i) 0) c).2.2] W fun e w' => e = .returned (.tuple #[.int .i64 (cmp3 (nthV (nthR (nthG gs j) 0) c) (nthV (nthR (nthG gs i) 0) c)), .int .i64 0]) ∧ Below W.heap.size W w' := fun W => specCompare_ok _ _ W ok1 ok2
            generalize nthV (nthR (nthG gs j) 0) c = x at *
            generalize nthV (nthR (nthG gs i) 0) c = y at *
            generalize cmp3 x y = cc at *
            have hcc : ¬ (0 : Int) ≤ cc := by omega
            have hS : Hid (StR6 wr b1 (o1 + j) (.slice (some ⟨p3, q3, none⟩) m3 d3) (o1 + i) (.slice (some ⟨p1, q1, none⟩) m d1) p3 q3 (.slice (some ⟨x1, y1, none⟩) nw k1) p1 q1 (.slice (some ⟨x2, y2, none⟩) nw k2) x1 (y1 + c * 3) x x2 (y2 + c * 3) y wr.drew) := ⟨(hB4.cell (p := ⟨b1, o1 + j, none⟩) lb1).trans e3, f1, f2, f3, v1, v2, (Below.refl _ _).drew⟩
            have HLL : Hid (b1 < wr.heap.size ∧ p3 < wr.heap.size ∧ p1 < wr.heap.size ∧ x1 < wr.heap.size ∧ x2 < wr.heap.size) := ⟨Nat.lt_of_lt_of_le lb1 hB4.size, Nat.lt_of_lt_of_le lp3 hB4.size, Nat.lt_of_lt_of_le HR1.out.2 hB4.size, l1, l2⟩
            clear f2 f3 v1 v2 l1 l2 e3 lp3 r3 ok1 ok2 hm3 hri lb3 hj hjg
            go_wp2_with fail
            refine wp_region_class (C := StR6 wr b1 (o1 + j) (.slice (some ⟨p3, q3, none⟩) m3 d3) (o1 + i) (.slice (some ⟨p1, q1, none⟩) m d1) p3 q3 (.slice (some ⟨x1, y1, none⟩) nw k1) p1 q1 (.slice (some ⟨x2, y2, none⟩) nw k2) x1 (y1 + c * 3) x x2 (y2 + c * 3) y) (by kernel_rfl) (by kernel_rfl) hS.out ?_
            repeat (first | go_big_quiet_skip | (go_big_quiet_want; apply Exists.intro; refine ⟨?_, ?_⟩; (focus (intro w' hw'; first | (obtain ⟨t0, t1, t2, t3, ⟨m0, m1, m2⟩, ⟨n0, n1, n2⟩, t4⟩ := hw'; go_simp; with_reducible rfl) | (go_simp; refine (C7 w').mono ?_; rintro e w'' ⟨rfl, hb⟩; exact ⟨rfl, hw'.keep HLL.out hb⟩))); (try simp only [Act.put, List.setIfInBounds_toArray, List.set_cons_zero, List.set_cons_succ]); go_big_quiet_on))
            refine wpQuiet_nil ?_
            intro wy hwy
            have hby := hwy.2.2.2.2.2.2
            have hB5 := below_step hB4 (Nat.le_refl _) hby
            have hoy := below_step (below_step hox (Nat.le_refl _) hbz) (Nat.le_refl _) hby
            clear hS C7 hwy HLL hwj hjI
            obtain ⟨v6, w6, r6, O6, b6⟩ := app_all (p := p1) (po := q1) (c := d1) (G := nthG gs i) (HA.out.below hoy) (hB5) (by have := HFL.out i; have := HGR.out.few.2 i (by rw [HGL.out]; exact hiN); omega) HR1.out.1 HR1.out.2
            have HO2 : Hid (AllR w4 w6 v6 (gs.take (i + 1)).flatten ∧ Below w4.heap.size w4 w6) := ⟨by rw [flat_take (by rw [HGL.out]; exact hiN)]; exact O6, b6⟩
            have e9 := (HE.out wy (hB5)).1
            rw [HM.out] at r6
            clear O6 b6 HA HR1 HE
            go_wp2_with (at_builtin; refine Lib.wpList_append_run _ rfl _ _ _ _ rfl _ _ rfl rfl _ _ r6 ?_)
            go_roundw
            case rel => exact ⟨i + 1, by omega, by go_num, HO2.out.1, HO2.out.2⟩
            case measure => simp [intOf]; omega

    · obtain rfl : i = gl := by omega
      have hfl : (gs.take i).flatten = gs.flatten := by rw [List.take_of_length_le (by rw [HGL.out]; omega)]
      have ha := HA.out
      rw [hfl] at ha
      have gf : GoodR nw gs.flatten := HK.out.2.2.1.perm HGR.out.perm
      have lf : gs.flatten.length = n := by rw [HGR.out.perm.length_eq, HN.out]
      have sf := gf.small (by omega) (by omega)
      have C4 := implSame_lst u11 (.slice (some ⟨g0, 0, none⟩) ks.length ck) gs.flatten ks wo (ha.lst hbo sf) (.inr ⟨g0, ck, rfl, HKB.out.2.1.below hbo, Nat.lt_of_lt_of_le HKB.out.2.2 hbo.size⟩) sf HK.out.2.2.2 (gf.ok (by omega) (by omega)) (HK.out.2.2.1.ok (by rw [HN.out]; omega) (by omega))
      have z0 : sbC gs.flatten ks = 0 := by
        unfold sbC
        rw [if_neg (by rw [lf, HN.out]; omega), if_pos ⟨gf.ok (by omega) (by omega), HK.out.2.2.1.ok (by rw [HN.out]; omega) (by omega)⟩]
      have z1 : sbR gs.flatten ks = true := by
        unfold sbR
        rw [z0]
        simp [HGR.out.perm]
      unfold RetB at C4
      rw [z0, z1, HN.out] at C4
      have hE := below_step HKB.out.1 (Nat.le_refl _) hbo
      clear z0 z1 ha hfl gf lf sf HA
      go_wp2_with fail
      refine C4.mono ?_
      rintro e w5 ⟨rfl, b5⟩
      have hE5 := below_step hE (Nat.le_refl _) b5
      clear C4
      go_wp2
      go_ret
      exact ⟨rfl, hE5⟩
end Go.Proofs.Ytmcjgncpblbhpaa
namespace Go.Proofs.Ytmcjgncpblbhpaa
open Go.ChangeShapes Go.WideShapes Go.ChangeAt Go.RowKit Go.Joins

/-- A slice of bytes that came in: nil, or a row of cells. -/
def IsRow (w : World) (a : Option Addr) (len cap : Nat) (zs : List Int) : Prop :=
  (a = none ∧ len = 0 ∧ cap = 0 ∧ zs = []) ∨
  ∃ x, a = some x ∧ len ≤ cap ∧ cap ≤ maxLen ∧ zs.length = cap ∧ (∀ i, i < zs.length → w.cell? (x.add i) = some (.int .u8 (zs.getD i 0))) ∧ ∀ n ∈ zs, (Lit.int .u8 n).wf = true

/-- The same, with the address written out. -/
theorem IsRow.split {w : World} {a : Option Addr} {len cap : Nat} {zs : List Int} (h : IsRow w a len cap zs) :
    (len = 0 ∧ a = none ∧ cap = 0) ∨ len = 0 ∨ ∃ b off, a = some ⟨b, off, none⟩ ∧ 0 < len ∧ len ≤ zs.length ∧ b < w.heap.size ∧ ∀ i, i < zs.length → w.cell? ⟨b, off + i, none⟩ = some (.int .u8 (zs.getD i 0)) ∧ 0 ≤ zs.getD i 0 ∧ zs.getD i 0 ≤ 255 := by
  rcases h with ⟨rfl, rfl, rfl, rfl⟩ | ⟨⟨b, off, spot⟩, rfl, hl, hm, hz, hcell, hwz⟩
  · exact .inl ⟨rfl, rfl, rfl⟩
  · by_cases h0 : len = 0
    · exact .inr (.inl h0)
    · have hs : spot = none := by simpa [Addr.add] using World.cell?_spot (hcell 0 (by omega))
      subst hs
      refine .inr (.inr ⟨b, off, rfl, by omega, by omega, ?_, fun i hi => ?_⟩)
      · have := World.block_lt_of_cell? w _ (hcell 0 (by omega))
        rwa [add_plain] at this
      · have hc := hcell i hi
        rw [add_plain] at hc
        have hmem : zs.getD i 0 ∈ zs := by rw [List.getD_eq_getElem?_getD, List.getElem?_eq_getElem (by omega)]; exact List.getElem_mem _
        exact ⟨hc, (bounds_u8 (hwz _ hmem)).1, (bounds_u8 (hwz _ hmem)).2⟩

theorem IsRow.code {w : World} {a : Option Addr} {len cap : Nat} {zs : List Int} (h : IsRow w a len cap zs) : Code w a len := fun i hi => by
  rcases h.split with ⟨h0, _⟩ | h0 | ⟨b, off, e, _, hl, hb, hc⟩
  · omega
  · omega
  · have := hc i (by omega)
    exact ⟨b, off, _, e, hb, this.2.1, this.2.2, this.1⟩

theorem open_row {H : Type} {enc : TypeId × Value → H} {W : World} {a : Option Addr} {len cap : Nat} {d : DataW H} {p : List MemPlace}
    (h : DataW.Trod enc Try.prog W 0 (fun _ => true) true 22 (.slice a len cap) d p) : ∃ zs, IsRow W a len cap zs := by
  obtain ⟨fuel, hf⟩ := h
  rcases open_ints Try.underlying22 Try.underlying5 (by kernel_rfl) hf with ⟨hcs, _⟩ | ⟨x, l, c, zs, hcs, _, hl, hm, hz, _, hcell, hwz⟩
  · simp [Value.cells] at hcs
    obtain ⟨rfl, rfl, rfl⟩ := hcs
    exact ⟨[], .inl ⟨rfl, rfl, rfl, rfl⟩⟩
  · simp [Value.cells] at hcs
    obtain ⟨rfl, rfl, rfl⟩ := hcs
    exact ⟨zs, .inr ⟨_, rfl, hl, hm, by simpa using hz, hcell, hwz⟩⟩

theorem IsRow.len_le {w : World} {a : Option Addr} {len cap : Nat} {zs : List Int} (h : IsRow w a len cap zs) : len ≤ maxLen := by
  rcases h with ⟨_, rfl, _⟩ | ⟨x, _, h1, h2, _⟩
  · exact Nat.zero_le _
  · exact Nat.le_trans h1 h2


end Go.Proofs.Ytmcjgncpblbhpaa
namespace Go.Proofs.Ytmcjgncpblbhpaa
open Go.ChangeShapes Go.WideShapes Go.ChangeAt Go.RowKit Go.Joins

set_option maxRecDepth 100000 in
theorem lawFnGroups (a0 : Option Addr) (len0 cap0 : Nat) (z0 : List Int) (a1 : Option Addr) (len1 cap1 : Nat) (z1 : List Int) (w : World) (w0 : IsRow w a0 len0 cap0 z0) (w1 : IsRow w a1 len1 cap1 z1) :
    Calls Try.prog 5 #[.slice a0 len0 cap0, .slice a1 len1 cap1] w fun e w' => e = .returned (.bool true) ∧ Below w.heap.size w w' := by
  by_cases hl0 : len0 ≤ 1048576
  · by_cases hl1 : len1 ≤ 1048576
    · exact lawGroups_small a0 len0 cap0 a1 len1 cap1 w w0.code w1.code hl0 hl1
    · have hm := w1.len_le
      unfold maxLen at hm
      clear w0 w1
      go_enter Try.func5, Try.ntmps5
      go_wp2
      go_ret
      exact ⟨rfl, Below.refl _ _⟩
  · have hm := w0.len_le
    unfold maxLen at hm
    clear w0 w1
    go_enter Try.func5, Try.ntmps5
    go_wp2
    go_ret
    exact ⟨rfl, Below.refl _ _⟩

set_option maxRecDepth 100000 in
theorem fnGroups_lifted (os : Os) (started : os.Started) (H : Type) (enc : TypeId × Value → H) :
    ReturnsInHanded {} Try.checked os 5 .any (Rows.fnGroupsSpec.pre6 enc Try.prog Try.f5 Rows.fnGroupsRow.domain false) (Rows.fnGroupsSpec.post enc Try.prog Try.f5 false true false false) := by
  refine returnsInHanded_of_change (C := Try.checked) own started (by kernel_rfl) Try.func5
    (ChangeSpec.witness6 (enc := enc) (C := Try.checked) false ⟨#[], #[.slice none 0 0, .slice none 0 0], []⟩ 8 (by kernel_rfl) (by kernel_rfl) (by kernel_rfl) (by kernel_rfl)) ?_
  intro W base args ds gs before hval0 hW hcnd _
  have hval : ∀ (j : Nat) t v, Try.f5.params[j]? = some t → args[j]? = some v → Value.okWide Try.prog W .any base t v := hval0
  have hW' := hW
  obtain ⟨p, q, hA0, hV, rfl, hfz, hnd⟩ := hW
  have hA : DataW.TrodAll enc Try.prog W 0 (fun _ => true) true Try.f5.params.toList args.toList ds p := hA0
  rw [Try.params5] at hA hval
  obtain ⟨v0, vs0, d0, ds0, p0, q0, hargs, rfl, rfl, h0, r0⟩ := trodAll_cons hA
  obtain ⟨v1, vs1, d1, ds1, p1, q1, rfl, rfl, rfl, h1, r1⟩ := trodAll_cons r0
  obtain ⟨rfl, rfl, rfl⟩ := trodAll_nil r1
  obtain rfl : args = #[v0, v1] := by cases args; simp_all
  obtain ⟨rfl, rfl⟩ := trodVars_none hV
  have k0 := h0
  have lt0 : ∀ x ∈ p0, x.block < W.heap.size := by obtain ⟨m, hm⟩ := k0; exact DataW.trod_lt m _ _ _ hm
  have k1 := h1
  have lt1 : ∀ x ∈ p1, x.block < W.heap.size := by obtain ⟨m, hm⟩ := k1; exact DataW.trod_lt m _ _ _ hm
  obtain ⟨a0, len0, cap0, rfl⟩ := okWide_slice Try.underlying22 (hval 0 22 v0 rfl rfl)
  obtain ⟨z0, w0⟩ : ∃ zs, IsRow W a0 len0 cap0 zs := open_row h0
  obtain ⟨a1, len1, cap1, rfl⟩ := okWide_slice Try.underlying22 (hval 1 22 v1 rfl rfl)
  obtain ⟨z1, w1⟩ : ∃ zs, IsRow W a1 len1 cap1 zs := open_row h1
  clear hA0 hval0
  refine (lawFnGroups a0 len0 cap0 z0 a1 len1 cap1 z1 W w0 w1).mono fun e W' ⟨he, bel⟩ => ?_
  subst he
  exact ⟨_, rfl, _, _, _, [], _, [], hW', trodAll_mk1 (shut_bool Try.underlying4 _), (trodAll_cons_mk (Below.trod laidOut (by kernel_rfl) (of_decide_eq_true (by kernel_rfl)) k0 bel lt0) (trodAll_cons_mk (Below.trod laidOut (by kernel_rfl) (of_decide_eq_true (by kernel_rfl)) k1 bel lt1) trodAll_mk0)), rfl, bel.frame _, fun h => by cases h⟩

theorem fnGroups_over : Rows.fnGroupsRow.holds Try.pinned (OpenSpec.ofChange Rows.fnGroupsSpec) :=
  OpenClaim.holds_of_wide 5 Try.f5 rfl rfl rfl rfl rfl rfl rfl ⟨rfl, rfl, rfl, rfl, rfl⟩ rfl rfl rfl rfl rfl (by kernel_rfl) Try.func5 (by kernel_rfl)
    (of_decide_eq_true (by kernel_rfl)) (by unfold Func.isWrapper; first | (rw [if_pos (by decide +kernel)]; kernel_rfl) | (rw [if_neg (by decide +kernel)]; exact ⟨rfl, rfl⟩))
    (fun os started H enc _ => fnGroups_lifted os started H enc)

/-- The statement. -/
theorem fnGroups_proved : Rows.FnGroupsSaid := fnGroups_over
end Go.Proofs.Ytmcjgncpblbhpaa
