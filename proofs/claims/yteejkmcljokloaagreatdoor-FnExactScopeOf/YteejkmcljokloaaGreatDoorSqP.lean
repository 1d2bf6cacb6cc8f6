/- The specification's l10Shape (stage 11). -/
import Derived.Test.YteejkmcljokloaaGreatDoorSqH
import Derived.Test.YteejkmcljokloaaGreatDoorSqI
namespace Go.Proofs.YteejkmcljokloaaGreatDoor
open Go.RowKit

/-- The numbers 5 to 11 in a block. -/
abbrev ordC : Array Value := #[.int .i64 5, .int .i64 6, .int .i64 7, .int .i64 8, .int .i64 9, .int .i64 10, .int .i64 11]
/-- A tree in block b, the order of kinds behind it, the counts behind that; what lay in w lies there still. -/
def ShB (w : World) (b : Nat) (x : ND) (s : Value) (c : Nat → Nat) (W : World) : Prop :=
  BoxN b x s W ∧ W.heap[b + 1]? = some (.cells ordC 3 (0, 0)) ∧ CntB W (b + 1 + 1) 7 c ∧ Below w.heap.size w W
theorem l01In_is {n lo hi : Int} {r : Bool} (h : inB n lo hi = r) (w : World) : Calls Tryz.prog 60 #[.int .i64 n, .int .i64 lo, .int .i64 hi] w fun e w' => e = .returned (.bool r) ∧ w' = w := by rw [← h]; exact l01In_any n lo hi w
theorem ShB.keep {w : World} {b : Nat} {x : ND} {s : Value} {c : Nat → Nat} {W W' : World} (h : ShB w b x s c W) (hb : Below W.heap.size W W') : ShB w b x s c W' :=
  ⟨h.1.below hb, (hb.block _ (slab_lt h.2.1)).trans h.2.1, h.2.2.1.below hb, below_step h.2.2.2 (Nat.le_refl _) hb⟩
theorem ShB.drew {w : World} {b : Nat} {x : ND} {s : Value} {c : Nat → Nat} {W : World} (h : ShB w b x s c W) : ShB w b x s c W.drew := h.keep (Below.refl _ _).drew
theorem ShB.ord {w : World} {b p : Nat} {x : ND} {s : Value} {c : Nat → Nat} {W : World} (h : ShB w b x s c W) (hp : p < 7) : W.cell? ⟨b + 1, p, none⟩ = some (.int .i64 (nthO O7 p)) := by
  refine (slab_cell h.2.1).trans ?_
  match p, hp with
  | 0, _ => rfl
  | 1, _ => rfl
  | 2, _ => rfl
  | 3, _ => rfl
  | 4, _ => rfl
  | 5, _ => rfl
  | 6, _ => rfl
theorem ShB.set {w : World} {p : Nat} {x : ND} {s : Value} {c : Nat → Nat} {W : World} (h : ShB w w.heap.size x s c W) (hp : p < 7) : ShB w w.heap.size x s (upd c p) (W.setCell ⟨w.heap.size + 1 + 1, p, none⟩ (.int .i64 ((c p : Int) + 1))) := by
  have h1 : ∀ k, k ≠ w.heap.size + 1 + 1 → (W.setCell ⟨w.heap.size + 1 + 1, p, none⟩ (.int .i64 ((c p : Int) + 1))).heap[k]? = W.heap[k]? := fun k hk => Below.heap_setCell _ _ _ _ hk
  refine ⟨⟨h.1.1.same (h1 _ (by omega)), by have := h.1.2; simpa [World.setCell] using this⟩, (h1 _ (by omega)).trans h.2.1, h.2.2.1.set hp, h.2.2.2.setCell (p := ⟨w.heap.size + 1 + 1, p, none⟩) (by simp; omega) _⟩

set_option maxRecDepth 100000 in
set_option maxHeartbeats 4000000 in
theorem l10Shape_any (x : ND) (ks : Fo) (ka : Option Addr) (kc : Nat) (w : World) (hrow : RowT 0 w ka 0 ks) (hsz : ks.size ≤ 1048576) :
    Calls Tryz.prog 41 #[ValT x (.slice ka ks.len kc)] w fun e w' => e = .returned (.bool (selB ks)) ∧ Below w.heap.size w w' := by
  have HR : Hid (RowT 0 w ka 0 ks ∧ ks.size ≤ 1048576) := ⟨hrow, hsz⟩
  have hlen : ks.len ≤ 1048576 := by have := ks.len_le; omega
  clear hrow hsz
  obtain ⟨len, hL⟩ : ∃ m, ks.len = m := ⟨_, rfl⟩
  have HL : Hid (ks.len = len) := hL
  rw [hL] at hlen ⊢
  clear hL
  have X0 : Hid (BoxN w.heap.size x (.slice ka len kc) ((w.alloc (.cells #[.int .i64 x.k, .int .i64 x.n, .string x.nm, .string x.of, .int .i64 x.vk, .int .i64 x.vn, .string x.vt, .slice ka len kc] 38)).alloc (.cells ordC 3))) := (BoxN.new 38).below ((Below.refl _ _).alloc (Nat.le_refl _) _)
  have Z0 : Hid (((w.alloc (.cells #[.int .i64 x.k, .int .i64 x.n, .string x.nm, .string x.of, .int .i64 x.vk, .int .i64 x.vn, .string x.vt, .slice ka len kc] 38)).alloc (.cells ordC 3)).heap[w.heap.size + 1]? = some (.cells ordC 3 (0, 0))) := heap_new' _ _ _ (by simp)
  have B0 : Below w.heap.size w ((w.alloc (.cells #[.int .i64 x.k, .int .i64 x.n, .string x.nm, .string x.of, .int .i64 x.vk, .int .i64 x.vn, .string x.vt, .slice ka len kc] 38)).alloc (.cells ordC 3)) := ((Below.refl _ _).alloc (Nat.le_refl _) _).alloc (by simp) _
  obtain ⟨i0, hi, hz0, hz1, hz2⟩ := info_parts infoI
  go_enter Tryz.func41, Tryz.ntmps41
  go_wp2_with (at_make; refine wpList_make_full _ rfl _ _ 102 rfl (w.heap.size + 2) 3 i0 _ 1 Tryz.underlying102 hi hz0 hz1 .i64 .i64 _ _ 7 rfl rfl rfl rfl ?m1 ?m2 ?m3 ?_)
  case m1 => rw [hz2]; omega
  case m2 => unfold maxLen; omega
  case m3 => simp
  intro w1 hown hgr
  have b1 := (Below.refl _ _).grown hgr (Nat.le_refl _) (fun k hk => by cases hk)
  have hC : CntB w1 (w.heap.size + 1 + 1) 7 (fun _ => 0) := by
    rw [toList_madeCells_one] at hown
    rcases hown.2 with ⟨h, _⟩ | ⟨g, c, cur, h, _, hh, _, _, hcs, hcl⟩
    · cases h
    · cases h
      rw [Nat.mul_one] at hcs hcl
      refine ⟨cur, hh, hcs, fun j hj => ?_⟩
      have := congrArg (fun q => q[j]?) hcl
      rw [List.getElem?_take_of_lt hj, Array.getElem?_toList] at this
      rw [this, List.getElem?_replicate, if_pos hj]
      rfl
  have X1 : Hid (ShB w w.heap.size x (.slice ka len kc) (fun _ => 0) w1) := ⟨X0.out.below b1, (b1.block _ (slab_lt Z0.out)).trans Z0.out, hC, B0.trans (b1.mono B0.size)⟩
  have HJ : Hid (JP O7 (kindsF ks) (fun _ => 0) 0 0) := JP.start _ _
  clear hown hgr hi hz0 hz1 hz2 b1 hC X0 Z0 B0
  go_wp2
  go_loopw [5, 6] (fun t i wr => ∃ (p k : Nat) (c : Nat → Nat), t = .int .i64 p ∧ i = .int .i64 k ∧ p ≤ 7 ∧ k ≤ len ∧ Hid (∀ j, j < k → partB (ks.node j) (ks.kids j) = true) ∧ Hid (JP O7 (kindsF ks) c p k) ∧ Hid (ShB w w.heap.size x (.slice ka len kc) c wr)) (fun _ i _ => len - (intOf i).toNat)
  case atStart => exact ⟨0, 0, _, rfl, rfl, by omega, by omega, fun j hj => by omega, HJ, X1⟩
  case round =>
    clear X1 HJ
    obtain ⟨p, k, c, rfl, rfl, hp7, hk, HS, HJ, X⟩ := hrel
    obtain ⟨⟨⟨_, _, _, _, _, _, _, y7⟩, _⟩, _⟩ := X.out
    by_cases hlt : k < len
    · have hkf : k < ks.len := by rw [HL.out]; exact hlt
      have HK : Hid (∀ hi : k < (kindsF ks).length, (kindsF ks)[k] = (ks.node k).k) := fun hi => kindsF_get ks k hi
      have HI : Hid (k < (kindsF ks).length ∧ k < ks.len) := ⟨by rw [kindsF_len]; exact hkf, hkf⟩
      clear hkf
      go_wp2_with fail
      go_loopw [5] (fun t wi => ∃ (p : Nat), t = .int .i64 p ∧ p ≤ 7 ∧ Hid (JP O7 (kindsF ks) c p k) ∧ Hid (ShB w w.heap.size x (.slice ka len kc) c wi)) (fun t _ => 7 - (intOf t).toNat)
      case atStart => exact ⟨p, rfl, hp7, HJ, X⟩
      case round =>
        clear HJ X hp7 y7
        obtain ⟨p, rfl, hp7, HJ, X⟩ := hrel
        obtain ⟨⟨⟨_, _, _, _, _, _, _, y7⟩, _⟩, _⟩ := X.out
        obtain ⟨b, off, ca, cc, rfl, hlb, hcell, hkr, htx⟩ := el_cells (HR.out.1.below X.out.2.2.2) HL.out hlt
        by_cases hp : p < 7
        · have hpI : (p : Int) < 7 := by omega
          have hpE : ¬ ((p : Int) = 7) := by omega
          have hoc := X.out.ord hp
          obtain ⟨o, ho⟩ : ∃ o, nthO O7 p = o := ⟨_, rfl⟩
          have HO : Hid (O7[p]? = some o) := by
            show _ = _
            rw [← ho, nthO_get (show p < O7.length from hp), List.getElem?_eq_getElem (show p < O7.length from hp)]
          rw [ho] at hoc
          clear ho
          by_cases he : (ks.node k).k = o
          · have HJ' : Hid (JP O7 (kindsF ks) (upd c p) p (k + 1)) := by
              have hpl : p < O7.length := hp
              refine HJ.out.hit hpl HI.out.1 ?_
              rw [HK.out HI.out.1, he]
              have := HO.out
              rw [List.getElem?_eq_getElem hpl] at this
              exact (Option.some.inj this).symm
            have hc := fun nq => l10Part_any (ks.node k) (ks.kids k) ca cc (wr.drewN nq) (hkr.below (below_drewN (Below.refl _ _) nq)) (by have := ks.kids_lt k HI.out.2; have := (ks.kids k).len_le; have := HR.out.2; omega) htx
            have HP : Hid (partB (ks.node k) (ks.kids k) = false → selB ks = false) := fun h => by unfold selB; rw [allP_false k HI.out.2 h, Bool.and_false]
            have HS0 : Hid (partB (ks.node k) (ks.kids k) = true → ∀ j, j < k + 1 → partB (ks.node j) (ks.kids j) = true) := fun h j hj => by
              by_cases e : j = k
              · rw [e]; exact h
              · exact HS.out j (by omega)
            have XD : Hid (∀ nq, ShB w w.heap.size x (.slice (some ⟨b, off, none⟩) len kc) c (wr.drewN nq)) := fun nq => X.out.keep (below_drewN (Below.refl _ _) nq)
            have hCD : Hid (∀ nq, CellT (wr.drewN nq) b (off + k * 8) (ks.node k) (.slice ca (ks.kids k).len cc)) := fun _ => hcell
            obtain ⟨c0, _⟩ := hcell
            rw [he] at c0
            have hoo : (o != o) = false := by simp
            clear hkr htx HJ HS X he
            go_wp2_with fail
            go_quiet (fail)
            clear c0 hoc y7
            obtain ⟨c0, c1, c2, c3, c4, c5, c6, c7⟩ := hCD.out nq
            obtain ⟨⟨⟨_, _, _, _, _, _, _, y7⟩, _⟩, _⟩ := XD.out nq
            have hcq := hc nq
            have XQ : Hid (ShB w w.heap.size x (.slice (some ⟨b, off, none⟩) len kc) c (wr.drewN nq)) := XD.out nq
            clear hc XD hCD
            generalize wr.drewN nq = wq at *
            go_wp2_with fail
            refine hcq.mono ?_
            rintro e w2 ⟨rfl, b2⟩
            have X2 : Hid (ShB w w.heap.size x (.slice (some ⟨b, off, none⟩) len kc) c w2) := XQ.out.keep b2
            clear c0 c1 c2 c3 c4 c5 c6 c7 y7 b2 hcq XQ
            cases hx : partB (ks.node k) (ks.kids k) with
            | false =>
              have HF : Hid (selB ks = false) := HP.out hx
              clear hx HP HS0
              go_wp2
              go_ret
              exact ⟨ret_bool' HF.out.symm, X2.out.2.2.2⟩
            | true =>
              have HS2 : Hid (∀ j, j < k + 1 → partB (ks.node j) (ks.kids j) = true) := HS0.out hx
              have m0 := X2.out.2.2.1.cell (j := p) hp
              have m1 : ∀ j, w2.frozen? ⟨w.heap.size + 1 + 1, j, none⟩ = false := fun j => X2.out.2.2.1.free
              have hcp : c p ≤ 1048577 := by
                have h1 := HJ'.out.le p
                have e : upd c p p = c p + 1 := by simp [upd]
                omega
              have X3 : Hid (ShB w w.heap.size x (.slice (some ⟨b, off, none⟩) len kc) (upd c p) (w2.setCell ⟨w.heap.size + 1 + 1, p, none⟩ (.int .i64 ((c p : Int) + 1)))) := X2.out.set hp
              clear hx HP HS0 X2
              go_wp2
              exact ⟨⟨p, k + 1, upd c p, rfl, by go_num, by omega, by omega, HS2, HJ', X3⟩, by simp [intOf]; omega⟩
          · have HM : Hid (JP O7 (kindsF ks) c (p + 1) k) := by
              have hpl : p < O7.length := hp
              refine HJ.out.move hpl fun hi => ?_
              rw [HK.out hi]
              have := HO.out
              rw [List.getElem?_eq_getElem hpl] at this
              rw [Option.some.inj this]
              exact he
            have XD : Hid (∀ nq, ShB w w.heap.size x (.slice (some ⟨b, off, none⟩) len kc) c (wr.drewN nq)) := fun nq => X.out.keep (below_drewN (Below.refl _ _) nq)
            obtain ⟨c0, _⟩ := hcell
            obtain ⟨q, hq⟩ : ∃ q, (ks.node k).k = q := ⟨_, rfl⟩
            rw [hq] at c0 he
            have hoo : (o != q) = true := by simpa using fun e => he e.symm
            clear hkr htx HJ X hq
            go_wp2_with fail
            go_quiet (fail)
            have XQ : Hid (ShB w w.heap.size x (.slice (some ⟨b, off, none⟩) len kc) c (wr.drewN nq)) := XD.out nq
            clear c0 hoc y7 XD
            go_wp2
            exact ⟨⟨p + 1, by go_num, by omega, HM, XQ⟩, by simp [intOf]; omega⟩
        · obtain rfl : p = 7 := by omega
          have HF : Hid (selB ks = false) := by
            show _ = _
            have hl : rn O7 (kindsF ks) = if k = (kindsF ks).length then some ((List.range 7).map c) else none := JP.last (O := O7) HJ.out (Nat.le_of_lt HI.out.1)
            unfold selB
            rw [hl, if_neg (Nat.ne_of_lt HI.out.1)]
            rfl
          have XD : Hid (∀ nq, Below w.heap.size w (wr.drewN nq)) := fun nq => below_drewN X.out.2.2.2 nq
          clear hkr htx HJ X hcell
          go_wp2_with fail
          go_quiet (fail)
          have XQ : Hid (Below w.heap.size w (wr.drewN nq)) := XD.out nq
          clear XD y7
          go_wp2
          go_ret
          exact ⟨ret_bool' HF.out.symm, XQ.out⟩
    · obtain rfl : k = len := by omega
      have HA : Hid (allP ks = true) := allP_true (by rw [HL.out]; exact HS.out)
      have HE : Hid (selB ks = condS c) := by
        show _ = _
        have hkl : (kindsF ks).length = k := by rw [kindsF_len]; exact HL.out
        have h7 := JP.skip (by omega) (7 - p) p HJ.out (by show p + (7 - p) = 7; omega)
        have hl : rn O7 (kindsF ks) = if k = (kindsF ks).length then some ((List.range 7).map c) else none := JP.last (O := O7) h7 (by omega)
        unfold selB
        rw [hl, if_pos hkl.symm, HA.out, Bool.and_true]
        rfl
      have HD : Hid (condS c = decide (0 < c 0 ∧ ((c 1 = 2 ∧ c 2 = 1) ∨ (c 1 = 1 ∧ c 2 = 0)) ∧ c 3 ≤ 1 ∧ c 4 ≤ 1 ∧ c 6 ≤ 1)) := by
        show _ = _
        rw [Bool.eq_iff_iff]
        simp [condS]
        omega
      have m0 := X.out.2.2.1.cell (j := 0) (by decide)
      have m1 := X.out.2.2.1.cell (j := 1) (by decide)
      have m2 := X.out.2.2.1.cell (j := 2) (by decide)
      have m3 := X.out.2.2.1.cell (j := 3) (by decide)
      have m4 := X.out.2.2.1.cell (j := 4) (by decide)
      have m6 := X.out.2.2.1.cell (j := 6) (by decide)
      have hle : c 0 ≤ 1048576 ∧ c 1 ≤ 1048576 ∧ c 2 ≤ 1048576 := ⟨by have := HJ.out.le 0; omega, by have := HJ.out.le 1; omega, by have := HJ.out.le 2; omega⟩
      have XB : Hid (∀ nq, Below w.heap.size w (wr.drewN nq)) := fun nq => below_drewN X.out.2.2.2 nq
      clear HJ HS HA X
      generalize c 0 = z0 at *
      generalize c 1 = z1 at *
      generalize c 2 = z2 at *
      generalize c 3 = z3 at *
      generalize c 4 = z4 at *
      generalize c 6 = z6 at *
      by_cases e0 : 0 < z0
      · have f0 : (0 : Int) < (z0 : Int) := by omega
        have g0 : decide ((0 : Int) < (z0 : Int)) = true := decide_eq_true f0
        by_cases e1 : 1 ≤ z1 ∧ z1 ≤ 2
        · have f1 : inB (z1 : Int) 1 2 = true := decide_eq_true (by omega)
          by_cases e2 : z2 + 1 = z1
          · have g2 : ((z2 : Int) == (z1 : Int) - 1) = true := by simp; omega
            have q2 : (z2 : Int) = (z1 : Int) - 1 := by omega
            by_cases e3 : z3 ≤ 1
            · have f3 : (z3 : Int) ≤ 1 := by omega
              have g3 : decide ((z3 : Int) ≤ 1) = true := decide_eq_true f3
              by_cases e4 : z4 ≤ 1
              · have f4 : (z4 : Int) ≤ 1 := by omega
                have g4 : decide ((z4 : Int) ≤ 1) = true := decide_eq_true f4
                by_cases e5 : z6 ≤ 1
                · have f5 : (z6 : Int) ≤ 1 := by omega
                  have g5 : decide ((z6 : Int) ≤ 1) = true := decide_eq_true f5
                  have HF : Hid (selB ks = true) := by show _ = _; rw [HE.out, HD.out]; exact decide_eq_true (by omega)
                  go_wp2_with fail
                  go_quiet ((go_at_call 60; exact Calls.quiet_of_same (l01In_is f1 _)))
                  go_wp2
                  go_ret
                  exact ⟨ret_bool' HF.out.symm, XB.out _⟩
                · have f5 : ¬ ((z6 : Int) ≤ 1) := by omega
                  have g5 : decide ((z6 : Int) ≤ 1) = false := decide_eq_false f5
                  have HF : Hid (selB ks = false) := by show _ = _; rw [HE.out, HD.out]; exact decide_eq_false (by omega)
                  go_wp2_with fail
                  go_quiet ((go_at_call 60; exact Calls.quiet_of_same (l01In_is f1 _)))
                  go_wp2
                  go_ret
                  exact ⟨ret_bool' HF.out.symm, XB.out _⟩
              · have f4 : ¬ ((z4 : Int) ≤ 1) := by omega
                have g4 : decide ((z4 : Int) ≤ 1) = false := decide_eq_false f4
                have HF : Hid (selB ks = false) := by show _ = _; rw [HE.out, HD.out]; exact decide_eq_false (by omega)
                go_wp2_with fail
                go_quiet ((go_at_call 60; exact Calls.quiet_of_same (l01In_is f1 _)))
                go_wp2
                go_ret
                exact ⟨ret_bool' HF.out.symm, XB.out _⟩
            · have f3 : ¬ ((z3 : Int) ≤ 1) := by omega
              have g3 : decide ((z3 : Int) ≤ 1) = false := decide_eq_false f3
              have HF : Hid (selB ks = false) := by show _ = _; rw [HE.out, HD.out]; exact decide_eq_false (by omega)
              go_wp2_with fail
              go_quiet ((go_at_call 60; exact Calls.quiet_of_same (l01In_is f1 _)))
              go_wp2
              go_ret
              exact ⟨ret_bool' HF.out.symm, XB.out _⟩
          · have g2 : ((z2 : Int) == (z1 : Int) - 1) = false := by simp; omega
            have q2 : ¬ ((z2 : Int) = (z1 : Int) - 1) := by omega
            have HF : Hid (selB ks = false) := by show _ = _; rw [HE.out, HD.out]; exact decide_eq_false (by omega)
            go_wp2_with fail
            go_quiet ((go_at_call 60; exact Calls.quiet_of_same (l01In_is f1 _)))
            go_wp2
            go_ret
            exact ⟨ret_bool' HF.out.symm, XB.out _⟩
        · have f1 : inB (z1 : Int) 1 2 = false := decide_eq_false (by omega)
          have HF : Hid (selB ks = false) := by show _ = _; rw [HE.out, HD.out]; exact decide_eq_false (by omega)
          go_wp2_with fail
          go_quiet ((go_at_call 60; exact Calls.quiet_of_same (l01In_is f1 _)))
          go_wp2
          go_ret
          exact ⟨ret_bool' HF.out.symm, XB.out _⟩
      · have f0 : ¬ ((0 : Int) < (z0 : Int)) := by omega
        have g0 : decide ((0 : Int) < (z0 : Int)) = false := decide_eq_false f0
        have HF : Hid (selB ks = false) := by show _ = _; rw [HE.out, HD.out]; exact decide_eq_false (by omega)
        go_wp2_with fail
        go_quiet (fail)
        go_wp2
        go_ret
        exact ⟨ret_bool' HF.out.symm, XB.out _⟩
end Go.Proofs.YteejkmcljokloaaGreatDoor
