/- The specification's GroupRows, and the law on GroupRows (stage 13). -/
import Derived.Test.YtmcjgncpblbhpaaGpI
import Derived.BigQuiet
namespace Go.Proofs.Ytmcjgncpblbhpaa
open Go.RowKit


theorem OwnY.mono {w : World} {S S' T T' : Nat → Prop} {a : Option Addr} {rs : Rs} {P : Nat → Nat → Nat → Prop} (h : OwnY w S T a rs P) (hS : ∀ b, S b → S' b) (hT : ∀ b, T b → T' b) : OwnY w S' T' a rs P := by
  rcases h with h | ⟨g, cur, gs, ns, cs, ax, e, h1, h2, hh, hc, hd⟩
  · exact .inl h
  · refine .inr ⟨g, cur, gs, ns, cs, ax, e, hS _ h1, hT _ h2, hh, fun i hi' => ⟨(hc i hi').1, fun h0 => ?_⟩, hd⟩
    obtain ⟨q1, q2, q3, q4, q5, q6⟩ := (hc i hi').2 h0
    exact ⟨q1, q2, hS _ q3, hT _ q4, q5, q6⟩
theorem OwnR.toS {w : World} {lo hi B top : Nat} {a : Option Addr} {rs : Rs} (h : OwnR w lo hi a rs) (hB : B ≤ lo) (ht : hi ≤ top) : OwnS w (Rng lo hi) (Rng B top) a rs := by
  rcases h with h | ⟨g, cur, gs, ns, cs, ax, e, h1, h2, hh, hc, hd⟩
  · exact .inl h
  · refine .inr ⟨g, cur, gs, ns, cs, ax, e, ⟨h1, h2⟩, ⟨by omega, by omega⟩, hh, fun i hi' => ⟨(hc i hi').1, fun h0 => ?_⟩, hd⟩
    obtain ⟨q1, q2, q3, q4, q5, q6⟩ := (hc i hi').2 h0
    exact ⟨q1, q2, ⟨q3, q4⟩, ⟨by omega, by omega⟩, q5, q6⟩
/-- A list of groups of the call's own; each group lies in a range of its own below top. -/
def BldG (w : World) (B top : Nat) (v : Value) (gs : Gs) : Prop := ∃ (xs : List Value) (cs lo hi : Nat → Nat) (ax : Nat → Option Addr), w.ownsRow B 23 1 v gs.length xs ∧ (∀ g, v.ownBlock = some g → g < top ∧ ∀ i, i < gs.length → ¬ Rng (lo i) (hi i) g) ∧
  (∀ i, i < gs.length → xs[i]? = some (.slice (ax i) (nthG gs i).length (cs i)) ∧ hi i ≤ top ∧ OwnS w (Rng (lo i) (hi i)) (Rng B top) (ax i) (nthG gs i)) ∧ ∀ i j, i < j → j < gs.length → hi i ≤ lo j
theorem BldG.empty {w : World} {B : Nat} (hB : B ≤ w.heap.size) : BldG (w.alloc (.cells #[] 23)) B (w.heap.size + 1) (.slice (some ⟨w.heap.size, 0, none⟩) 0 0) [] :=
  ⟨[], fun _ => 0, fun _ => 0, fun _ => 0, fun _ => none, ⟨rfl, .inr ⟨w.heap.size, 0, #[], rfl, hB, heap_alloc_new w _, by simp, by simp, by simp, by simp⟩⟩, fun g hg => ⟨by simp [Value.ownBlock] at hg; omega, fun i hi => by simp at hi⟩, fun i hi => by simp at hi, fun i j _ hj => by simp at hj⟩
theorem BldG.below {w w' : World} {B top : Nat} {v : Value} {gs : Gs} (h : BldG w B top v gs) (hb : Below w.heap.size w w') : BldG w' B top v gs := by
  obtain ⟨xs, cs, lo, hi, ax, ho, hv, hr, hd⟩ := h
  exact ⟨xs, cs, lo, hi, ax, owns_below ho hb, hv, fun i hi => ⟨(hr i hi).1, (hr i hi).2.1, (hr i hi).2.2.below hb⟩, hd⟩
theorem BldG.ownG {w : World} {B top : Nat} {v : Value} {gs : Gs} (h : BldG w B top v gs) (ht : top ≤ w.heap.size) : ∃ a c, v = .slice a gs.length c ∧ OwnG w B w.heap.size a gs := by
  obtain ⟨xs, cs, lo, hi, ax, ⟨hx, ho⟩, hv, hr, hd⟩ := h
  rcases ho with ⟨rfl, h0⟩ | ⟨g, cap, cur, rfl, hg, hh, hc, _, hs, htk⟩
  · exact ⟨none, 0, by rw [h0], .inl h0⟩
  · refine ⟨_, cap, rfl, .inr ⟨g, cur, cs, ax, fun i => Rng (lo i) (hi i), rfl, hg, slab_lt hh, hh, fun i hi' => ⟨?_, (hr i hi').2.2.mono (fun _ h => h) (fun b h => ⟨h.1, by have := h.2; omega⟩), (hv g rfl).2 i hi'⟩, fun i j x hij hj hi1 hi2 => ?_⟩⟩
    · have e1 := (hr i hi').1
      rw [← htk, List.getElem?_take, if_pos (by omega)] at e1
      rw [← Array.getElem?_toList]; exact e1
    · have := hd i j hij hj
      have h1 := hi1.2
      have h2 := hi2.1
      omega
set_option maxRecDepth 100000 in
/-- One more group. -/
theorem app_Gs {w : World} {B top lo2 hi2 b c cap : Nat} {v : Value} {gs : Gs} {rs : Rs} {a : Option Addr} (h : BldG w B top v gs) (hB : B ≤ w.heap.size) (hl : gs.length ≤ 400) (hc : w.cell? ⟨b, 0, none⟩ = some (.slice a rs.length cap)) (ho : OwnS w (Rng lo2 hi2) (Rng B hi2) a rs) (ht : top ≤ lo2) (hlh : lo2 ≤ hi2) (hw : hi2 ≤ w.heap.size) :
    ∃ v' w', (Builtin.append_ #[40, 40] 40 #[v, .slice (some ⟨b, 0, none⟩) 1 c]).run Try.prog w = .ok v' w' ∧ BldG w' B w'.heap.size v' (gs ++ [rs]) ∧ ∀ w0, Below B w0 w → Below B w0 w' := by
  obtain ⟨i0, hi1, hz0, hz1, hz2⟩ := info_parts infoG
  obtain ⟨xs, cs, lo, hi, ax, hw1, hv, hr, hd⟩ := h
  obtain ⟨v', w', h1, h2, h3, h4, h5⟩ := run_append_own_at (P := Try.prog) (w := w) B 40 40 23 i0 _ 1 24 Try.underlying40 hi1 hz0 hz1 hz2 rfl (by decide) v gs.length xs hw1 ⟨b, 0, none⟩ 1 c [.slice a rs.length cap] rfl (fun j u hj => by
    cases j with
    | zero => simp at hj; subst hj; rw [add_plain]; exact hc
    | succ j => simp at hj) (by intro u hu; simp at hu; subst hu; rfl) (by unfold maxLen; omega) (by omega) hB
  have hxl : xs.length = gs.length := by have := hw1.1; omega
  have hsz : w.heap.size ≤ w'.heap.size := h3.size
  have hgo : ∀ g, v.ownBlock = some g → B ≤ g ∧ g < w.heap.size := fun g e => by
    obtain ⟨_, q2⟩ := hw1
    rcases q2 with ⟨rfl, _⟩ | ⟨g2, cap2, cur2, rfl, hg2, hh2, _⟩
    · simp [Value.ownBlock] at e
    · simp [Value.ownBlock] at e; subst e; exact ⟨hg2, slab_lt hh2⟩
  refine ⟨v', w', h1, ⟨_, fun i => if i < gs.length then cs i else cap, fun i => if i < gs.length then lo i else lo2, fun i => if i < gs.length then hi i else hi2, fun i => if i < gs.length then ax i else a, by rw [List.length_append]; exact h2, fun g e => ⟨?_, fun i hi' => ?_⟩, fun i hi' => ?_, fun i j hij hj => ?_⟩, fun w0 hb => hb.grown h3 hB fun j e => (hgo j e).1⟩
  · obtain ⟨_, q2⟩ := h2
    rcases q2 with ⟨rfl, _⟩ | ⟨g2, cap2, cur2, rfl, hg2, hh2, _⟩
    · simp [Value.ownBlock] at e
    · simp [Value.ownBlock] at e; subst e; exact slab_lt hh2
  · have hg2 : v.ownBlock = some g ∨ g = w.heap.size := by
      rcases h5 with h | h
      · exact .inl (by rw [← h]; exact e)
      · rw [e] at h; exact .inr (by simpa using h)
    by_cases hlt : i < gs.length
    · simp only [if_pos hlt]
      rcases hg2 with h | h
      · exact (hv g h).2 i hlt
      · intro hR; have := hR.2; have := (hr i hlt).2.1; omega
    · simp only [if_neg hlt]
      rcases hg2 with h | h
      · intro hR; have := hR.1; have := (hv g h).1; omega
      · intro hR; have := hR.2; omega
  · by_cases hlt : i < gs.length
    · simp only [if_pos hlt]
      rw [nthG_left hlt]
      refine ⟨by rw [List.getElem?_append_left (by omega)]; exact (hr i hlt).1, by have := (hr i hlt).2.1; omega, ?_⟩
      have hS := (hr i hlt).2.2
      exact (OwnS.block hS (w' := w') fun g hg _ hl2 => h3.block g hl2 (fun e => (hv g e.symm).2 i hlt hg)).mono (fun _ h => h) (fun b h => ⟨h.1, by have := h.2; omega⟩)
    · have hi2' : i = gs.length := by rw [List.length_append] at hi'; simp at hi'; omega
      subst hi2'
      simp only [if_neg hlt]
      rw [nthG_last]
      refine ⟨by rw [List.getElem?_append_right (by omega), hxl]; simp, by omega, ?_⟩
      exact (OwnS.block ho (w' := w') fun g hg _ hl2 => h3.block g hl2 (fun e => by have := hg.1; have := (hv g e.symm).1; omega)).mono (fun _ h => h) (fun b h => ⟨h.1, by have := h.2; omega⟩)
  · rw [List.length_append] at hj
    simp at hj
    by_cases hlj : j < gs.length
    · simp only [if_pos hlj, if_pos (show i < gs.length by omega)]
      exact hd i j hij hlj
    · simp only [if_neg hlj, if_pos (show i < gs.length by omega)]
      have := (hr i (by omega)).2.1
      omega
/-- The rows of a group can be read. -/
theorem GrpB.rowA {w : World} {g : Nat} {kr : Cel} {l : List Nat} {rs : Rs} (h : GrpB w g kr l) (hk : CelR w kr rs) (hz : ∀ x ∈ l, x < rs.length) (hl : ∀ i, i < rs.length → (nthR rs i).length ≤ 4096) : RowA w (some ⟨g, 0, none⟩) (l.map (nthR rs)) := fun i hi => by
  rw [List.length_map] at hi
  obtain ⟨e1, p1, o1, f1, r1⟩ := hk _ (hz _ (mem_nthN hi))
  rw [nthR_mapN hi]
  refine ⟨g, 0, p1, o1, kr.c (nthN l i), rfl, h.lt, ?_, r1, by have := hl _ (hz _ (mem_nthN hi)); unfold maxLen; omega⟩
  rw [Nat.zero_add, h.cell hi, Cel.v, f1, e1]
theorem gs_take {gs : Gs} {q : Nat} (h : q < gs.length) : gs.take (q + 1) = gs.take q ++ [nthG gs q] := by
  rw [List.take_add_one, List.getElem?_eq_getElem h, nthG_get h]; rfl


theorem grp_small {cs : List Int} {rs : Rs} : (grpN cs rs).length ≤ rs.length ∧ ∀ i, i < (grpN cs rs).length → (nthL (grpN cs rs) i).length ≤ rs.length := by
  have h := grpN_spec cs rs
  have hl : (grpN cs rs).flatten.length = rs.length := by rw [h.1.length_eq, List.length_range]
  refine ⟨by have := runs_len h.2; omega, fun i hi => ?_⟩
  rw [← hl]
  exact (List.sublist_flatten_of_mem (mem_nthL hi)).length_le
set_option maxRecDepth 100000 in
set_option maxHeartbeats 8000000 in
theorem specGroup_any (ai : Option Addr) (ci gr or cr : Nat) (cs : List Int) (rs : Rs) (w : World) (hi : InA w ai cs) (hr : RowA w (some ⟨gr, or, none⟩) rs) (lgr : gr < w.heap.size) (sr : SmallR rs) (sc : cs.length ≤ 1048576) (ht : TextR rs) :
    Calls Try.prog 20 #[.slice ai cs.length ci, .slice (some ⟨gr, or, none⟩) rs.length cr] w (RetQ cs rs w) := by
  have lr := sr.1
  have rf : Below w.heap.size w w := Below.refl _ _
  have AL : ∀ W, Below w.heap.size w W → Below w.heap.size w (W.alloc (.cells #[] 23)) := fun W hW => below_step hW (Nat.le_refl _) ((Below.refl _ _).alloc (Nat.le_refl _) _)
  by_cases h1 : 4096 < cs.length ∨ 4096 < rs.length
  · have HC : Hid (grC cs rs = 2) := if_pos h1
    clear hi hr sr ht
    generalize cs.length = n at *
    generalize rs.length = l at *
    by_cases h2 : 4096 < n
    · have h2I : (4096 : Int) < (n : Int) := by omega
      go_enter Try.func20, Try.ntmps20
      go_wp2
      go_ret2
      exact RetQ.bad HC.out (by omega) (AL w rf)
    · have h2I : ¬ (4096 : Int) < (n : Int) := by omega
      have h3I : (4096 : Int) < (l : Int) := by omega
      go_enter Try.func20, Try.ntmps20
      go_wp2
      go_ret2
      exact RetQ.bad HC.out (by omega) (AL w rf)
  have HC0 : grC cs rs = if okRs 16 rs = true then (if allC cs rs = true then 0 else 4) else 1 := if_neg h1
  have g1 : ¬ (4096 : Int) < (cs.length : Int) := by omega
  have g2 : ¬ (4096 : Int) < (rs.length : Int) := by omega
  have A1 := l13Rows_any 16 (some ⟨gr, or, none⟩) cr rs w hr.row sr (by omega)
  cases o1 : okRs 16 rs with
  | false =>
    have HC : Hid (grC cs rs = 1) := by show _ = _; rw [HC0, o1]; simp
    rw [o1] at A1
    clear HC0 o1 hi hr sr ht h1
    generalize cs.length = n at *
    generalize rs.length = l at *
    go_enter Try.func20, Try.ntmps20
    go_wp2_with (go_at_call 49; refine A1.mono ?_; rintro e w1 ⟨rfl, b1⟩)
    go_ret2
    exact RetQ.bad HC.out (by omega) (AL _ b1)
  | true =>
    rw [o1] at A1
    have l4 := (small16 o1).1
    have hm4 : cs.length ≤ 4096 := by omega
    obtain ⟨kr, hkr, hck⟩ := hr.cel
    have LCW : Hid (∀ x, x < rs.length → ∀ W, Below w.heap.size w W → W.cell? ⟨gr, or + x, none⟩ = some (.slice (kr.a x) (nthR rs x).length (kr.c x))) := fun x hx W hW => (hW.cell (p := ⟨gr, or + x, none⟩) lgr).trans (by rw [hck x hx, Cel.v, (hkr x hx).1])
    have LI : Hid (∀ W, Below w.heap.size w W → InA W ai cs) := fun W hW => hi.below hW
    have HX : Hid (∀ i, i < rs.length → (nthR rs i).length ≤ 16) := (okRs_small o1).2
    have LG : Hid (allC cs rs = true → ∀ W, Below w.heap.size w W → Calls Try.prog 59 #[.slice ai cs.length ci, .slice (some ⟨gr, or, none⟩) rs.length cr] W fun e w' => ∃ v, e = .returned v ∧ v ≠ .slice none 0 0 ∧ OwnL w' W.heap.size v kr (grpN cs rs) ∧ Below W.heap.size W w') := fun ha W hW =>
      l13Group_any ai ci cr gr or rs.length cs.length cs rs kr W (hi.below hW) (fun x hx => (hW.cell (p := ⟨gr, or + x, none⟩) lgr).trans (hck x hx)) (Nat.lt_of_lt_of_le lgr hW.size) (fun x hx => ⟨(hkr x hx).1, by obtain ⟨_, b, o, e, hv⟩ := hkr x hx; rw [e]; exact hv.below hW⟩) rfl rfl l4 hm4 (allC_true ha) ht
    have LO : Hid (∀ W g c i, Below w.heap.size w W → i < (grpN cs rs).length → GrpB W g kr (nthL (grpN cs rs) i) → Calls Try.prog 50 #[.slice (some ⟨g, 0, none⟩) (nthL (grpN cs rs) i).length c] W fun e w' => ∃ a c', e = .returned (.slice a (nthL (grpN cs rs) i).length c') ∧ OwnR w' W.heap.size w'.heap.size a (nthG (gsOf cs rs) i) ∧ Below W.heap.size W w') := fun W g c i hW hi' hg => by
      have hz : ∀ x ∈ nthL (grpN cs rs) i, x < rs.length := (grp_lt (grpN_spec cs rs)).1 _ (mem_nthL hi')
      have := l13Own_any (some ⟨g, 0, none⟩) c ((nthL (grpN cs rs) i).map (nthR rs)) W (hg.rowA (hkr.below hW) hz (small16 o1).2) (by rw [List.length_map]; have := grp_small.2 i hi'; omega) (fun j hj => by
        rw [List.length_map] at hj
        rw [nthR_mapN hj]
        exact (small16 o1).2 _ (hz _ (mem_nthN hj)))
      rw [List.length_map] at this
      refine this.mono ?_
      rintro e w' ⟨v, rfl, hB, hb⟩
      obtain ⟨a, c', rfl, hO⟩ := hB.own
      refine ⟨a, c', by rw [List.length_map], ?_, hb⟩
      show OwnR _ _ _ _ (nthG (rowsG rs (grpN cs rs)) i)
      rw [nthG_map hi']
      exact hO
    have HGS : Hid ((gsOf cs rs).length = (grpN cs rs).length ∧ (grpN cs rs).length ≤ 400 ∧ ∀ i, i < (grpN cs rs).length → (nthG (gsOf cs rs) i).length = (nthL (grpN cs rs) i).length) := ⟨by unfold gsOf; simp, by have := (grp_small (cs := cs) (rs := rs)).1; omega, fun i hi' => by
      show (nthG (rowsG rs (grpN cs rs)) i).length = _
      rw [nthG_map hi', List.length_map]⟩
    have HAG : Hid ((∀ i, i < rs.length → hasC cs (nthR rs i) = true) → allC cs rs = true) := allC_good
    have HAB : Hid (∀ x i, x < rs.length → i < cs.length → ¬ (0 ≤ nthC cs i ∧ nthC cs i < (nthR rs x).length) → grC cs rs = 4) := fun x i hx hi' h => by rw [HC0, o1, allC_bad hx hi' h]; simp
    have HCG : Hid (allC cs rs = true → grC cs rs = 0) := fun h => by rw [HC0, o1, h]; simp
    have HHG : Hid (∀ x, (∀ i, i < cs.length → 0 ≤ nthC cs i ∧ nthC cs i < (nthR rs x).length) → hasC cs (nthR rs x) = true) := fun x h => hasC_good h
    clear hi hr sr ht h1 HC0 o1 hkr hck lgr
    obtain ⟨m, hm⟩ : ∃ m, cs.length = m := ⟨_, rfl⟩
    have HMC : Hid (cs.length = m) := hm
    obtain ⟨n, hn⟩ : ∃ n, rs.length = n := ⟨_, rfl⟩
    rw [hm] at LG HAB HHG g1 hm4 ⊢
    rw [hn] at A1 LCW HX LG HAG HAB g2 l4 ⊢
    clear hm hn lr
    go_enter Try.func20, Try.ntmps20
    go_wp2_with (go_at_call 49; refine A1.mono ?_; rintro e w1 ⟨rfl, b1⟩; clear A1)
    go_loopw [6] (fun i wr => ∃ q : Nat, q ≤ n ∧ i = .int .i64 q ∧ Hid (∀ j, j < q → hasC cs (nthR rs j) = true) ∧ Below w.heap.size w wr) (fun i _ => n - (intOf i).toNat)
    case atStart => exact ⟨0, by omega, rfl, fun j hj => by omega, b1⟩
    case round =>
      rename World => wo
      obtain ⟨i, hin, rfl, HA, hbo⟩ := hrel
      by_cases hiN : i < n
      · have hiI : (i : Int) < (n : Int) := by omega
        go_wp2
        go_loopw [7] (fun k wq => ∃ q : Nat, q ≤ m ∧ k = .int .i64 q ∧ Hid (∀ j, j < q → 0 ≤ nthC cs j ∧ nthC cs j < (nthR rs i).length) ∧ Below w.heap.size w wq) (fun k _ => m - (intOf k).toNat)
        case atStart => exact ⟨0, by omega, rfl, fun j hj => by omega, hbo⟩
        case round =>
          obtain ⟨q, hq, rfl, HB, hbq⟩ := hrel
          by_cases hqm : q < m
          · have hqI : (q : Int) < (m : Int) := by omega
            obtain ⟨bi, oi, rfl, lbi, c1⟩ := (LI.out wr hbq) q (by rw [HMC.out]; exact hqm)
            have c2 := LCW.out i hiN wr hbq
            have hx := HX.out i hiN
            by_cases hok : 0 ≤ nthC cs q ∧ nthC cs q < (nthR rs i).length
            · have HB2 : Hid (∀ j, j < q + 1 → 0 ≤ nthC cs j ∧ nthC cs j < (nthR rs i).length) := fun j hj => by
                rcases Nat.lt_or_ge j q with h | h
                · exact HB.out j h
                · obtain rfl : j = q := by omega
                  exact hok
              have L : ∀ W, Calls Try.prog 58 #[.int .i64 (nthC cs q), .int .i64 0, .int .i64 (((nthR rs i).length : Int) - 1)] W fun e w' => e = .returned (.bool true) ∧ w' = W := fun W => by
                have := l01In_any (nthC cs q) 0 (((nthR rs i).length : Int) - 1) W
                rw [show inB (nthC cs q) 0 (((nthR rs i).length : Int) - 1) = true from decide_eq_true ⟨hok.1, by omega⟩] at this
                exact this
              clear HB hok
              generalize (nthR rs i).length = x at *
              generalize nthC cs q = y at *
              go_wp2_with fail
              go_quiet ((go_at_call 58; refine Calls.quiet_of_same (L _)))
              go_wp2
              go_roundw
              case rel => exact ⟨q + 1, by omega, by go_num, HB2, below_drewN hbq _⟩
              case measure => simp [intOf]; omega
            · have HC : Hid (grC cs rs = 4) := HAB.out i q hiN hqm hok
              have L : ∀ W, Calls Try.prog 58 #[.int .i64 (nthC cs q), .int .i64 0, .int .i64 (((nthR rs i).length : Int) - 1)] W fun e w' => e = .returned (.bool false) ∧ w' = W := fun W => by
                have := l01In_any (nthC cs q) 0 (((nthR rs i).length : Int) - 1) W
                rw [show inB (nthC cs q) 0 (((nthR rs i).length : Int) - 1) = false from decide_eq_false (fun h => hok ⟨h.1, by omega⟩)] at this
                exact this
              clear HB hok HA HAB
              generalize (nthR rs i).length = x at *
              generalize nthC cs q = y at *
              go_wp2_with fail
              go_quiet ((go_at_call 58; refine Calls.quiet_of_same (L _)))
              go_wp2
              go_ret2
              exact RetQ.bad HC.out (by omega) (AL _ (below_drewN hbq _))
          · obtain rfl : q = m := by omega
            have HA2 : Hid (∀ j, j < i + 1 → hasC cs (nthR rs j) = true) := fun j hj => by
              rcases Nat.lt_or_ge j i with h | h
              · exact HA.out j h
              · obtain rfl : j = i := by omega
                exact HHG.out j HB.out
            clear HA HB
            go_wp2
            go_roundw
            case rel => exact ⟨i + 1, by omega, by go_num, HA2, hbq⟩
            case measure => simp [intOf]; omega
      · obtain rfl : i = n := by omega
        have hal : allC cs rs = true := HAG.out HA.out
        have HC : Hid (grC cs rs = 0) := HCG.out hal
        have L1 := LG.out hal wo hbo
        clear HA hal LG HAG HAB HCG HHG LCW LI HX
        go_wp2_with fail
        refine L1.mono ?_
        rintro e w3 ⟨v3, rfl, hne, o3, b3⟩
        obtain ⟨g, c, gg, cc, rfl, hgc, _, lg, _, hgl⟩ := o3.at hne
        have B3 := below_step hbo (Nat.le_refl _) b3
        have BA : Below w3.heap.size w3 (w3.alloc (.cells #[] 23)) := (Below.refl _ _).alloc (Nat.le_refl _) _
        have HL : Hid (∀ W, Below w3.heap.size w3 W → ∀ j, j < (grpN cs rs).length → W.cell? ⟨g, j, none⟩ = some (.slice (some ⟨gg j, 0, none⟩) (nthL (grpN cs rs) j).length (cc j)) ∧ GrpB W (gg j) kr (nthL (grpN cs rs) j)) := fun W hW j hj => ⟨(hW.cell (p := ⟨g, j, none⟩) lg).trans (hgl j hj).1, (hgl j hj).2.below hW⟩
        have O0 : Hid (BldG (w3.alloc (.cells #[] 23)) w3.heap.size (w3.heap.size + 1) (.slice (some ⟨w3.heap.size, 0, none⟩) 0 0) ((gsOf cs rs).take 0)) := BldG.empty (Nat.le_refl _)
        clear L1 o3 hgl hne b3 lg hgc
        generalize grpN cs rs = G at *
        obtain ⟨gl, hgl⟩ : ∃ gl, G.length = gl := ⟨_, rfl⟩
        rw [hgl] at HGS HL LO ⊢
        clear hgl
        go_wp2
        go_loopw [9, 10] (fun v i wr => ∃ q : Nat, q ≤ gl ∧ i = .int .i64 q ∧ Hid (∃ top, top ≤ wr.heap.size ∧ BldG wr w3.heap.size top v ((gsOf cs rs).take q)) ∧ Below w3.heap.size w3 wr) (fun _ i _ => gl - (intOf i).toNat)
        case atStart => exact ⟨0, by omega, rfl, ⟨_, by simp, O0.out⟩, BA⟩
        case round =>
          clear O0 BA
          obtain ⟨q, hq, rfl, HO, hbl⟩ := hrel
          by_cases hqn : q < gl
          · have hqI : (q : Int) < (gl : Int) := by omega
            obtain ⟨c1, c2⟩ := HL.out wr hbl q hqn
            have L1 := LO.out wr (gg q) (cc q) q (below_step B3 (Nat.le_refl _) hbl) hqn c2
            have hln := HGS.out.2.2 q hqn
            clear c2
            generalize (nthL G q).length = ln at *
            have hgl4 := HGS.out.2.1
            go_wp2_with fail
            refine L1.mono ?_
            rintro e w4 ⟨a4, c4, rfl, O4, b4⟩
            have b5 : Below w4.heap.size w4 (w4.alloc (.cells #[.slice a4 ln c4] 23)) := (Below.refl _ _).alloc (Nat.le_refl _) _
            have b45 : Below wr.heap.size wr (w4.alloc (.cells #[.slice a4 ln c4] 23)) := below_step b4 (Nat.le_refl _) b5
            have B5 : Below w3.heap.size w3 (w4.alloc (.cells #[.slice a4 ln c4] 23)) := below_step hbl (Nat.le_refl _) b45
            obtain ⟨top, htop, HB⟩ := HO.out
            have hwr : w3.heap.size ≤ wr.heap.size := hbl.size
            have hgq : q < (gsOf cs rs).length := by rw [HGS.out.1]; exact hqn
            obtain ⟨v6, w6, r6, O6, b6⟩ := app_Gs (c := 1) (cap := c4) (b := w4.heap.size) (lo2 := wr.heap.size) (hi2 := w4.heap.size) (rs := nthG (gsOf cs rs) q) (a := a4) (HB.below b45) B5.size (by rw [List.length_take]; omega) (by rw [hln]; exact World.cell?_alloc_at _ _ _ _ rfl) ((OwnR.toS O4 hwr (Nat.le_refl _)).below b5) htop b4.size (by simp)
            have B6 : Below w3.heap.size w3 w6 := b6 w3 B5
            have HO2 : Hid (∃ top, top ≤ w6.heap.size ∧ BldG w6 w3.heap.size top v6 ((gsOf cs rs).take (q + 1))) := ⟨_, Nat.le_refl _, by rw [gs_take hgq]; exact O6⟩
            clear L1 O4 b4 b5 b45 B5 HB htop hwr hgq b6 O6 HO c1 hln
            go_wp2_with (at_builtin; refine Lib.wpList_append_run _ rfl _ _ _ _ rfl _ _ rfl rfl _ _ r6 ?_)
            go_roundw
            case rel => exact ⟨q + 1, by omega, by go_num, HO2.out, B6⟩
            case measure => simp [intOf]; omega
          · obtain rfl : q = gl := by omega
            have HR : Hid (RetQ cs rs w (.returned (.tuple #[u9, .int .i64 0])) wr) := by
              obtain ⟨top, htop, HB⟩ := HO.out
              rw [List.take_of_length_le (by rw [HGS.out.1]; omega)] at HB
              obtain ⟨a, c', rfl, hO⟩ := HB.ownG htop
              exact RetQ.good HC.out (hO.wide B3.size) (below_step B3 (Nat.le_refl _) hbl)
            clear HO HL LO HGS HC
            go_wp2
            go_ret2
            exact HR.out


theorem grR_few {cs : List Int} {rs : Rs} (ht : TextR rs) : FewG (grR cs rs) := by
  unfold grR
  by_cases hc : grC cs rs = 0
  · rw [if_pos hc]
    have o1 : okRs 16 rs = true := by
      unfold grC at hc
      by_cases h1 : 4096 < cs.length ∨ 4096 < rs.length
      · rw [if_pos h1] at hc; cases hc
      · rw [if_neg h1] at hc
        cases o : okRs 16 rs with
        | true => rfl
        | false => rw [o] at hc; simp at hc
    have l4 := (small16 o1).1
    have hg := grp_small (cs := cs) (rs := rs)
    have hlt := (grp_lt (grpN_spec cs rs)).1
    refine ⟨by unfold gsOf; rw [List.length_map]; omega, fun i hi => ?_⟩
    have hi' : i < (grpN cs rs).length := by unfold gsOf at hi; simpa using hi
    have e : nthG (gsOf cs rs) i = (nthL (grpN cs rs) i).map (nthR rs) := nthG_map hi'
    have hz : ∀ x ∈ nthL (grpN cs rs) i, x < rs.length := hlt _ (mem_nthL hi')
    have hll := hg.2 i hi'
    rw [e, List.length_map]
    refine ⟨by omega, ⟨by rw [List.length_map]; omega, fun j hj => ?_⟩, fun j hj => ?_⟩
    · rw [List.length_map] at hj
      rw [nthR_mapN hj]
      have := (small16 o1).2 _ (hz _ (mem_nthN hj))
      omega
    · rw [List.length_map] at hj
      rw [nthR_mapN hj]
      exact ht _ (hz _ (mem_nthN hj))
  · rw [if_neg hc]
    exact ⟨by simp, fun i hi => by simp at hi⟩
theorem Kept.beyond {lo hi lo' hi' : Nat} {w w' : World} (h : Kept (Rng lo hi) w w') (hd : hi ≤ lo' ∨ hi' ≤ lo) : ∀ g, lo' ≤ g → g < hi' → g < w.heap.size → w'.heap[g]? = w.heap[g]? :=
  fun g h1 h2 h3 => h.block g h3 (fun hr => by have := hr.1; have := hr.2; omega)
/-- Columns of the law's own. -/
def SlC (w : World) (lo hi g : Nat) (ds : List Int) : Prop := lo ≤ g ∧ g < hi ∧ SlabC w g ds.length ds ds.length
theorem SlC.block {w w' : World} {lo hi g : Nat} {ds : List Int} (h : SlC w lo hi g ds) (hb : ∀ g, lo ≤ g → g < hi → g < w.heap.size → w'.heap[g]? = w.heap[g]?) : SlC w' lo hi g ds := ⟨h.1, h.2.1, h.2.2.at (hb g h.1 h.2.1 h.2.2.lt)⟩
theorem SlC.below {w w' : World} {lo hi g : Nat} {ds : List Int} (h : SlC w lo hi g ds) (hb : Below w.heap.size w w') : SlC w' lo hi g ds := h.block fun g _ _ hg => hb.block g hg
/-- What has come in the law till marks are made. -/
abbrev StG (w : World) (l0 l1 l2 l3 l4 : Nat) (ua : Option Addr) (gd : Nat) (xc ia : Option Addr) (ds : List Int) (bb : Rs) (gs : Gs) (W : World) : Prop :=
  Below w.heap.size w W ∧ OwnG W l0 l1 ua gs ∧ SlC W l1 l2 gd ds ∧ OwnR W l2 l3 xc bb ∧ OwnG W l3 l4 ia gs
theorem StG.keep {w : World} {l0 l1 l2 l3 l4 : Nat} {ua : Option Addr} {gd : Nat} {xc ia : Option Addr} {ds : List Int} {bb : Rs} {gs : Gs} {W W' : World} (h : StG w l0 l1 l2 l3 l4 ua gd xc ia ds bb gs W) (hb : Below W.heap.size W W') : StG w l0 l1 l2 l3 l4 ua gd xc ia ds bb gs W' :=
  ⟨below_step h.1 (Nat.le_refl _) hb, h.2.1.below hb, h.2.2.1.below hb, h.2.2.2.1.below hb, h.2.2.2.2.below hb⟩
abbrev EnG (w : World) (l0 h0 l3 h3 : Nat) (ua ia : Option Addr) (gs : Gs) (W : World) : Prop := Below w.heap.size w W ∧ OwnG W l0 h0 ua gs ∧ MkG W l3 h3 ia gs 1
theorem EnG.keep {w : World} {l0 h0 l3 h3 : Nat} {ua ia : Option Addr} {gs : Gs} {W W' : World} (h : EnG w l0 h0 l3 h3 ua ia gs W) (hb : Below W.heap.size W W') : EnG w l0 h0 l3 h3 ua ia gs W' :=
  ⟨below_step h.1 (Nat.le_refl _) hb, h.2.1.below hb, h.2.2.below hb⟩
set_option maxRecDepth 100000 in
set_option maxHeartbeats 8000000 in
theorem lawGroup (ad b : Option Addr) (cd cb : Nat) (ds : List Int) (bb : Rs) (w : World) (hd : InA w ad ds) (hb : RowR w b bb) (ld : ds.length ≤ maxLen) (lb : bb.length ≤ maxLen) :
    Calls Try.prog 8 #[.slice ad ds.length cd, .slice b bb.length cb] w fun r w' => r = .returned (.bool true) ∧ Below w.heap.size w w' := by
  by_cases hdl : 1048576 < ds.length
  · have hdI : (1048576 : Int) < (ds.length : Int) := by omega
    unfold maxLen at ld lb
    clear hd hb
    generalize ds.length = m at *
    generalize bb.length = l at *
    go_enter Try.func8, Try.ntmps8
    go_wp2
    go_ret
    exact ⟨rfl, Below.refl _ _⟩
  have hdI : ¬ (1048576 : Int) < (ds.length : Int) := by omega
  have HA : Hid (∀ W, Below w.heap.size w W → RowR W b bb ∧ InA W ad ds) := fun W hW => ⟨hb.below hW, hd.below hW⟩
  have HT : Hid (TextR bb) := hb.text
  have HDL : Hid (ds.length ≤ 1048576) := by show _ ≤ _; omega
  have Z2 := szR_any b cb bb 1048576 w hb lb (by omega) (by omega)
  unfold maxLen at ld
  clear hb lb hd
  go_enter Try.func8, Try.ntmps8
  go_wp2_with fail
  refine Z2.mono ?_
  rintro e w2 ⟨y, rfl, y0, y1, y2, B2⟩
  have HS : Hid (0 ≤ y → SmallR bb) := y2
  clear Z2 y2
  by_cases hy : y < 0
  · go_wp2
    go_ret
    exact ⟨rfl, B2⟩
  have SS : Hid (SmallR bb) := HS.out (by omega)
  clear HS
  have TB : Hid (∀ W, Below w.heap.size w W → Calls Try.prog 23 #[.slice b bb.length cb] W fun e w' => ∃ g, e = .returned (.slice (some ⟨g, 0, none⟩) bb.length bb.length) ∧ W.heap.size ≤ g ∧ SlabR w' g bb.length bb bb.length ∧ Below W.heap.size W w') := fun W hW => toR_any b cb bb W (HA.out W hW).1 SS.out
  have TD : Hid (∀ W, Below w.heap.size w W → Calls Try.prog 30 #[.slice ad ds.length cd] W fun e w' => ∃ g, e = .returned (.slice (some ⟨g, 0, none⟩) ds.length ds.length) ∧ W.heap.size ≤ g ∧ SlabC w' g ds.length ds ds.length ∧ Below W.heap.size W w') := fun W hW => toC_any ad cd ds W (HA.out W hW).2 HDL.out
  have IM : Hid (∀ W gd g', InA W (some ⟨gd, 0, none⟩) ds → RowA W (some ⟨g', 0, none⟩) bb ∧ g' < W.heap.size → Calls Try.prog 19 #[.slice (some ⟨gd, 0, none⟩) ds.length ds.length, .slice (some ⟨g', 0, none⟩) bb.length bb.length] W (RetQ ds bb W)) := fun W gd g' hd h' => implGroup_any _ _ _ _ ds bb W hd h'.1 h'.2 SS.out HDL.out HT.out
  have SP : Hid (∀ W gd g', InA W (some ⟨gd, 0, none⟩) ds → RowA W (some ⟨g', 0, none⟩) bb ∧ g' < W.heap.size → Calls Try.prog 20 #[.slice (some ⟨gd, 0, none⟩) ds.length ds.length, .slice (some ⟨g', 0, none⟩) bb.length bb.length] W (RetQ ds bb W)) := fun W gd g' hd h' => specGroup_any _ _ _ 0 _ ds bb W hd h'.1 h'.2 SS.out HDL.out HT.out
  have RT : Hid (FewG (grR ds bb)) := grR_few HT.out
  unfold RetQ at IM SP
  generalize grR ds bb = gs at *
  generalize grC ds bb = cod at *
  go_wp2_with fail
  refine (TD.out _ B2).mono ?_
  rintro e w3a ⟨gd, rfl, hgd, Sd, b3a⟩
  have B3a := below_step B2 (Nat.le_refl _) b3a
  have A1a : Hid (InA w3a (some ⟨gd, 0, none⟩) ds) := Sd.inA
  clear Sd b3a hgd B2
  go_wp2_with fail
  refine (TB.out _ B3a).mono ?_
  rintro e w4 ⟨g2, rfl, hg2, S2, b4⟩
  have B4 := below_step B3a (Nat.le_refl _) b4
  have A2 : Hid (InA w4 (some ⟨gd, 0, none⟩) ds ∧ RowA w4 (some ⟨g2, 0, none⟩) bb ∧ g2 < w4.heap.size) := ⟨A1a.out.below b4, S2.rowA HT.out SS.out, S2.lt⟩
  clear S2 b4 hg2 B3a A1a
  go_wp2_with fail
  refine (SP.out _ _ _ A2.out.1 A2.out.2).mono ?_
  rintro e w5 ⟨ua, uc, rfl, O5, b5⟩
  have B5 := below_step B4 (Nat.le_refl _) b5
  have O5' : Hid (OwnG w5 w4.heap.size w5.heap.size ua gs) := O5
  have L5 : w.heap.size ≤ w4.heap.size ∧ w4.heap.size ≤ w5.heap.size := ⟨B4.size, b5.size⟩
  clear A2 b5 O5 B4 SP
  go_wp2_with fail
  refine (TD.out _ B5).mono ?_
  rintro e w6 ⟨ge, rfl, hge, Se, b6⟩
  have B6 := below_step B5 (Nat.le_refl _) b6
  have L6 := b6.size
  have P6 : Hid (OwnG w6 w4.heap.size w5.heap.size ua gs ∧ SlC w6 w5.heap.size w6.heap.size ge ds ∧ InA w6 (some ⟨ge, 0, none⟩) ds) := ⟨O5'.out.below b6, ⟨hge, Se.lt, Se⟩, Se.inA⟩
  clear Se b6 hge B5 O5'
  go_wp2_with fail
  refine (TB.out _ B6).mono ?_
  rintro e w7 ⟨g4, rfl, hg4, S4, b7⟩
  have B7 := below_step B6 (Nat.le_refl _) b7
  have L7 := b7.size
  have P7 : Hid ((OwnG w7 w4.heap.size w5.heap.size ua gs ∧ SlC w7 w5.heap.size w6.heap.size ge ds ∧ OwnR w7 w6.heap.size w7.heap.size (some ⟨g4, 0, none⟩) bb) ∧ InA w7 (some ⟨ge, 0, none⟩) ds ∧ RowA w7 (some ⟨g4, 0, none⟩) bb ∧ g4 < w7.heap.size) := ⟨⟨P6.out.1.below b7, P6.out.2.1.below b7, S4.own hg4⟩, P6.out.2.2.below b7, S4.rowA HT.out SS.out, S4.lt⟩
  clear S4 b7 hg4 B6 P6
  go_wp2_with fail
  refine (IM.out _ _ _ P7.out.2.1 P7.out.2.2).mono ?_
  rintro e w8 ⟨ia, ic, rfl, Q8, b8⟩
  have L8 := b8.size
  have P8 : Hid (StG w w4.heap.size w5.heap.size w6.heap.size w7.heap.size w8.heap.size ua ge (some ⟨g4, 0, none⟩) ia ds bb gs w8) := ⟨below_step B7 (Nat.le_refl _) b8, P7.out.1.1.below b8, P7.out.1.2.1.below b8, P7.out.1.2.2.below b8, Q8⟩
  clear Q8 b8 B7 P7
  generalize w4.heap.size = l0 at *
  generalize w5.heap.size = l1 at *
  generalize w6.heap.size = l2 at *
  generalize w7.heap.size = l3 at *
  generalize w8.heap.size = l4 at *
  have EQ : Hid (∀ W a1 a2 c1 c2, OwnG W l3 l4 a1 gs → OwnG W l0 l1 a2 gs → Calls Try.prog 31 #[.slice a1 gs.length c1, .slice a2 gs.length c2] W fun e w' => e = .returned (.bool true) ∧ Below W.heap.size W w') := fun W a1 a2 c1 c2 h1 h2 => eqG_same a1 a2 c1 c2 gs W (h1.row RT.out) (h2.row RT.out) RT.out
  go_wp2_with fail
  refine (EQ.out _ _ _ _ _ P8.out.2.2.2.2 P8.out.2.1).mono ?_
  rintro e w9 ⟨rfl, b9⟩
  have P9 : Hid (StG w l0 l1 l2 l3 l4 ua ge (some ⟨g4, 0, none⟩) ia ds bb gs w9) := P8.out.keep b9
  clear P8 b9
  go_wp2_with fail
  refine (TD.out _ P9.out.1).mono ?_
  rintro e w11a ⟨gf, rfl, hgf, Sf, b11a⟩
  have P11a : Hid (StG w l0 l1 l2 l3 l4 ua ge (some ⟨g4, 0, none⟩) ia ds bb gs w11a) := P9.out.keep b11a
  have E11 := eqC_same _ _ ds.length ds.length ds w11a P11a.out.2.2.1.2.2.inA Sf.inA HDL.out
  clear P9 b11a Sf hgf
  go_wp2_with fail
  refine E11.mono ?_
  rintro e w11b ⟨rfl, b11b⟩
  have P11b : Hid (StG w l0 l1 l2 l3 l4 ua ge (some ⟨g4, 0, none⟩) ia ds bb gs w11b) := P11a.out.keep b11b
  clear P11a b11b E11
  go_wp2_with fail
  refine (TB.out _ P11b.out.1).mono ?_
  rintro e w12 ⟨g6, rfl, hg6, S6, b12⟩
  have P12 : Hid (StG w l0 l1 l2 l3 l4 ua ge (some ⟨g4, 0, none⟩) ia ds bb gs w12) := P11b.out.keep b12
  have E12 := eqR_same _ _ bb.length bb.length bb w12 (P12.out.2.2.2.1.row HT.out SS.out) (S6.row HT.out SS.out) SS.out
  clear P11b b12 S6 hg6
  go_wp2_with fail
  refine E12.mono ?_
  rintro e w14 ⟨rfl, b13⟩
  have P14 : Hid (StG w l0 l1 l2 l3 l4 ua ge (some ⟨g4, 0, none⟩) ia ds bb gs w14) := P12.out.keep b13
  clear P12 b13 E12
  have Md := markC_any ge ds.length ds.length ds 1 w14 P14.out.2.2.1.2.2 HDL.out (by omega) (by omega)
  have hdl1 := HDL.out
  go_wp2_with fail
  refine Md.mono ?_
  rintro e w14a ⟨rfl, K14a⟩
  have LW : w.heap.size ≤ w14.heap.size := P14.out.1.size
  have hge := P14.out.2.2.1
  have P14a : Hid (Below w.heap.size w w14a ∧ OwnG w14a l0 l1 ua gs ∧ OwnR w14a l2 l3 (some ⟨g4, 0, none⟩) bb ∧ OwnG w14a l3 l4 ia gs) := ⟨P14.out.1.trans (K14a.below LW (fun x hx => by subst hx; have := hge.1; omega)), P14.out.2.1.block (fun g h1 h2 h3 => K14a.block g h3 (fun e => by subst e; have := hge.1; omega)), P14.out.2.2.2.1.block (fun g h1 h2 h3 => K14a.block g h3 (fun e => by subst e; have := hge.2.1; omega)), P14.out.2.2.2.2.block (fun g h1 h2 h3 => K14a.block g h3 (fun e => by subst e; have := hge.2.1; omega))⟩
  clear Md K14a P14 LW hge
  obtain ⟨kd, hkd⟩ : ∃ kd, 1 + (ds.length : Int) = kd := ⟨_, rfl⟩
  rw [hkd]
  have M2 := markR_any l2 l3 (some ⟨g4, 0, none⟩) bb.length bb kd w14a P14a.out.2.2.1.shp SS.out (by omega) (by omega)
  go_wp2_with fail
  refine M2.mono ?_
  rintro e w15 ⟨rfl, _, K15⟩
  have LW : w.heap.size ≤ w14a.heap.size := P14a.out.1.size
  have P15 : Hid (Below w.heap.size w w15 ∧ OwnG w15 l0 l1 ua gs ∧ OwnG w15 l3 l4 ia gs) := ⟨P14a.out.1.trans (K15.below LW (fun x hx => by have := hx.1; omega)), P14a.out.2.1.block (K15.beyond (.inr (by omega))), P14a.out.2.2.2.block (K15.beyond (.inl (Nat.le_refl _)))⟩
  obtain ⟨kb1, kb2⟩ := kAt_bd (k := kd) SS.out bb.length (Nat.le_refl _)
  clear M2 K15 P14a LW
  generalize kAt kd bb bb.length = k2 at *
  have hk2 : ¬ k2 < 0 := by omega
  clear hkd
  go_wp2_with fail
  refine (EQ.out _ _ _ _ _ P15.out.2.2 P15.out.2.1).mono ?_
  rintro e w16 ⟨rfl, b16⟩
  have P16 : Hid (Below w.heap.size w w16 ∧ OwnG w16 l0 l1 ua gs ∧ OwnG w16 l3 l4 ia gs) := ⟨below_step P15.out.1 (Nat.le_refl _) b16, P15.out.2.1.below b16, P15.out.2.2.below b16⟩
  clear P15 b16
  have M3 := markG_any l3 l4 ia ic gs 1 w16 P16.out.2.2 RT.out (by omega) (by omega)
  go_wp2_with fail
  refine M3.mono ?_
  rintro e w17 ⟨rfl, Q17, K17⟩
  have LW : w.heap.size ≤ w16.heap.size := P16.out.1.size
  have P17 : Hid (EnG w l0 l1 l3 l4 ua ia gs w17) := ⟨P16.out.1.trans (K17.below LW (fun x hx => by have := hx.1; omega)), P16.out.2.1.block (K17.beyond (.inr (by omega))), Q17⟩
  obtain ⟨kc1, kc2⟩ := kG_bd (k := 1) RT.out gs.length (Nat.le_refl _)
  have glen := RT.out.1
  have HD : Hid (∀ W, EnG w l0 l1 l3 l4 ua ia gs W → Calls Try.prog 35 #[.slice ia gs.length ic, .int .i64 1] W fun r w' => r = .returned (.int .i64 (kG 1 gs gs.length)) ∧ Below W.heap.size W w') := fun W hW => heldG_any l3 l4 ia ic gs 1 W hW.2.2 RT.out (by omega) (by omega)
  clear M3 K17 P16 LW Q17
  generalize kG 1 gs gs.length = k3 at *
  have hk3 : ¬ k3 < 0 := by omega
  go_wp2_with fail
  refine (HD.out _ P17.out).mono ?_
  rintro e w18 ⟨rfl, b18⟩
  have P18 : Hid (EnG w l0 l1 l3 l4 ua ia gs w18) := P17.out.keep b18
  clear P17 b18
  go_wp2_with fail
  refine (TD.out _ P18.out.1).mono ?_
  rintro e w19a ⟨gh, rfl, hgh, Sh, b19a⟩
  have P19a : Hid (EnG w l0 l1 l3 l4 ua ia gs w19a) := P18.out.keep b19a
  have A19a : Hid (InA w19a (some ⟨gh, 0, none⟩) ds) := Sh.inA
  clear P18 b19a Sh hgh
  go_wp2_with fail
  refine (TB.out _ P19a.out.1).mono ?_
  rintro e w20 ⟨g8, rfl, hg8, S8, b20⟩
  have P20 : Hid (EnG w l0 l1 l3 l4 ua ia gs w20) := P19a.out.keep b20
  have A20 : Hid (InA w20 (some ⟨gh, 0, none⟩) ds ∧ RowA w20 (some ⟨g8, 0, none⟩) bb ∧ g8 < w20.heap.size) := ⟨A19a.out.below b20, S8.rowA HT.out SS.out, S8.lt⟩
  clear P19a b20 S8 hg8 A19a
  go_wp2_with fail
  refine (IM.out _ _ _ A20.out.1 A20.out.2).mono ?_
  rintro e w21 ⟨ha, hc, rfl, Q21, b21⟩
  have P21 : Hid (EnG w l0 l1 l3 l4 ua ia gs w21) := P20.out.keep b21
  have E21 := eqG_same ha ua hc uc gs w21 (Q21.row RT.out) (P21.out.2.1.row RT.out) RT.out
  clear P20 b21 Q21 A20
  go_wp2_with fail
  refine E21.mono ?_
  rintro e w22 ⟨rfl, b22⟩
  have P22 : Hid (EnG w l0 l1 l3 l4 ua ia gs w22) := P21.out.keep b22
  clear P21 b22 E21
  go_wp2_with fail
  refine (HD.out _ P22.out).mono ?_
  rintro e w23 ⟨rfl, b23⟩
  have hE := below_step P22.out.1 (Nat.le_refl _) b23
  go_wp2
  go_ret
  exact ⟨rfl, hE⟩
end Go.Proofs.Ytmcjgncpblbhpaa
