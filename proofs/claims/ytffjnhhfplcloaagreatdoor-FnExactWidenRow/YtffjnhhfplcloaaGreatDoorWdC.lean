/- impl's WidenRow (stage 11). -/
import Derived.Test.YtffjnhhfplcloaaGreatDoorWdB
import Derived.Test.YtffjnhhfplcloaaGreatDoorCrD
namespace Go.Proofs.YtffjnhhfplcloaaGreatDoor
open Go.RowKit

/-- The code of WidenRow. -/
def wCode (tb : Bool) (cs : List TC) (vs : List V3) (v : V3) : Int := if (crow tb cs vs).1 ≠ 0 then (crow tb cs vs).1 else if vs.length = 8 then 7 else if okV3 v = true then 0 else 1
/-- The row that it answers. -/
def wRow (tb : Bool) (cs : List TC) (vs : List V3) (v : V3) : List V3 := if wCode tb cs vs v = 0 then vs ++ [v] else []
theorem crow_zero {tb : Bool} {cs : List TC} {vs : List V3} (h : (crow tb cs vs).1 = 0) : tb = true ∧ okRow vs = true ∧ vs.length = cs.length := by
  unfold crow at h
  by_cases h1 : 4096 < vs.length
  · rw [if_pos h1] at h; cases h
  rw [if_neg h1] at h
  by_cases h2 : (tb && okRow vs) = true
  · rw [if_pos h2] at h
    rw [Bool.and_eq_true] at h2
    refine ⟨h2.1, h2.2, ?_⟩
    unfold rowR at h
    by_cases h3 : vs.length ≠ cs.length
    · rw [if_pos h3] at h; cases h
    · omega
  · rw [if_neg h2] at h; cases h
theorem okRow_len {vs : List V3} (h : okRow vs = true) : vs.length ≤ 8 := by
  rcases Nat.lt_or_ge 8 vs.length with h1 | h1
  · rw [okRow_long h1] at h; cases h
  · exact h1
/-- What WidenRow answers: a row of its own, and a code. -/
def RetW (tb : Bool) (cs : List TC) (vs : List V3) (v : V3) (w : World) (r : Ending) (w' : World) : Prop := ∃ u, r = .returned (.tuple #[u, .int .i64 (wCode tb cs vs v)]) ∧ OwnV w' w.heap.size u (wRow tb cs vs v) ∧ Below w.heap.size w w'
theorem RetW.bad {tb : Bool} {cs : List TC} {vs : List V3} {v : V3} {w w' : World} {c : Int} (hc : wCode tb cs vs v = c) (h : c ≠ 0) (hb : Below w.heap.size w w') : RetW tb cs vs v w (.returned (.tuple #[.slice none 0 0, .int .i64 c])) w' := by
  refine ⟨_, by rw [hc], ?_, hb⟩
  have : wRow tb cs vs v = [] := if_neg (by rw [hc]; exact h)
  rw [this]
  exact OwnV.nil _ _
set_option maxRecDepth 100000 in
set_option maxHeartbeats 4000000 in
theorem implWiden_any (nm : ByteArray) (ca : Option Addr) (cc : Nat) (cs : List TC) (key : Int) (xv : Value) (g : Nat) (vs : List V3) (k n : Int) (t : ByteArray) (tb : Bool) (w : World) (hC : RowC w ca cs) (hV : RowV w (some ⟨g, 0, none⟩) vs) (lc : cs.length ≤ 1048576) (lv : vs.length ≤ 1048576) (hT : TabAns 19 w (TbA4 nm (.slice ca cs.length cc) key xv) tb) (htb : tb = true → 0 < cs.length) (ht : t.size ≤ maxLen) (hg : ErrT w) :
    Calls Tryz.prog 26 #[TbA4 nm (.slice ca cs.length cc) key xv, .slice (some ⟨g, 0, none⟩) vs.length vs.length, VV k n t] w (RetW tb cs vs (k, n, t) w) := by
  obtain ⟨W0, hW0⟩ : ∃ W0, (w.alloc (.cells #[.string nm, .slice ca cs.length cc, .int .i64 key, xv] 26)).alloc (.cells #[.int .i64 k, .int .i64 n, .string t] 46) = W0 := ⟨_, rfl⟩
  have B0 : Below w.heap.size w W0 := hW0 ▸ ((Below.refl _ _).alloc (Nat.le_refl _) _).alloc (Nat.le_of_lt (by simp)) _
  have XB : Hid (W0.heap[w.heap.size]? = some (.cells #[.string nm, .slice ca cs.length cc, .int .i64 key, xv] 26 (0, 0)) ∧ W0.heap[w.heap.size + 1]? = some (.cells #[.int .i64 k, .int .i64 n, .string t] 46 (0, 0))) := ⟨(hW0 ▸ (heap_old _ _ _ (by simp)).trans (heap_new' _ _ _ rfl) : W0.heap[w.heap.size]? = _), (hW0 ▸ heap_new' _ _ _ (by simp) : W0.heap[w.heap.size + 1]? = _)⟩
  have q0 : W0.cell? ⟨w.heap.size, 0, none⟩ = some (.string nm) := slab_cell XB.out.1
  have q1 : W0.cell? ⟨w.heap.size, 1, none⟩ = some (.slice ca cs.length cc) := slab_cell XB.out.1
  have q2 : W0.cell? ⟨w.heap.size, 2, none⟩ = some (.int .i64 key) := slab_cell XB.out.1
  have q3 : W0.cell? ⟨w.heap.size, 3, none⟩ = some xv := slab_cell XB.out.1
  have HC := checkRow_any nm ca cc cs key xv (some ⟨g, 0, none⟩) vs.length vs tb W0 (hC.below B0) (hV.below B0) lc lv (fun w1 b => hT w1 (B0.trans (b.mono B0.size)))
  have HG : Hid (∀ w1, Below w.heap.size w w1 → ErrT w1) := fun w1 b => hg.below b hg.2
  have HV : Hid (∀ w1, Below w.heap.size w w1 → RowV w1 (some ⟨g, 0, none⟩) vs) := fun w1 b => hV.below b
  have HE : Hid ((codeE (crowE tb cs vs)).getD 0 = (crow tb cs vs).1) := (crowE_code tb cs vs).1
  have HZ : Hid ((crow tb cs vs).1 = 0 → 0 < vs.length ∧ vs.length ≤ 8) := fun h => by
    obtain ⟨h1, h2, h3⟩ := crow_zero h
    have := htb h1
    exact ⟨by omega, okRow_len h2⟩
  have HW : Hid (wCode tb cs vs (k, n, t) = if (crow tb cs vs).1 ≠ 0 then (crow tb cs vs).1 else if vs.length = 8 then 7 else if okV k n t = true then 0 else 1) := rfl
  have HT2 : Hid (t.size ≤ maxLen) := ht
  have HD : Hid (wCode tb cs vs (k, n, t) = 0 → wRow tb cs vs (k, n, t) = vs ++ [(k, n, t)]) := fun h => if_pos h
  clear hC hV hT hg htb ht
  go_enter Tryz.func26, Tryz.ntmps26
  go_wp2_with fail
  refine HC.mono ?_
  rintro e w1 ⟨rfl, b1⟩
  have B1 := B0.trans (b1.mono B0.size)
  clear HC q0 q1 q2 q3
  go_wp2_with fail
  refine (codeIn_any _ w1 (HG.out _ B1)).mono ?_
  rintro e w2 ⟨rfl, b2⟩
  have B2 := B1.trans (b2.mono B1.size)
  rw [HE.out]
  by_cases hq : (crow tb cs vs).1 = 0
  · rw [hq]
    obtain ⟨m0, m8⟩ := HZ.out hq
    have HW2 : Hid (wCode tb cs vs (k, n, t) = if vs.length = 8 then 7 else if okV k n t = true then 0 else 1) := by show _ = _; rw [HW.out, if_neg (by rw [hq]; simp)]
    clear HW HE HZ
    obtain ⟨m, hm⟩ : ∃ m, vs.length = m := ⟨_, rfl⟩
    have HM : Hid (vs.length = m) := hm
    rw [hm] at m0 m8 HW2 ⊢
    have bb := b1.trans (b2.mono b1.size)
    have xb : w2.heap[w.heap.size + 1]? = some (.cells #[.int .i64 k, .int .i64 n, .string t] 46 (0, 0)) := (bb.block _ (slab_lt XB.out.2)).trans XB.out.2
    have y0 : w2.cell? ⟨w.heap.size + 1, 0, none⟩ = some (.int .i64 k) := slab_cell xb
    have y1 : w2.cell? ⟨w.heap.size + 1, 1, none⟩ = some (.int .i64 n) := slab_cell xb
    have y2 : w2.cell? ⟨w.heap.size + 1, 2, none⟩ = some (.string t) := slab_cell xb
    have HX : Hid (w2.heap[w.heap.size + 1]? = some (.cells #[.int .i64 k, .int .i64 n, .string t] 46 (0, 0))) := xb
    clear xb bb b1 b2 B1 B0 XB hW0 hq hm
    by_cases h8 : m = 8
    · subst h8
      have HQ : Hid (wCode tb cs vs (k, n, t) = 7) := HW2.out
      go_wp2
      go_ret2
      exact RetW.bad HQ.out (by decide) B2
    have HW3 : Hid (wCode tb cs vs (k, n, t) = if okV k n t = true then 0 else 1) := by show _ = _; rw [HW2.out, if_neg h8]
    have h8I : ¬ (m : Int) = 8 := by omega
    clear HW2
    go_wp2_with fail
    refine (implValueOK_any k n t w2).mono ?_
    rintro e w3 ⟨rfl, b3⟩
    have B3 := B2.trans (b3.mono B2.size)
    have xb : w3.heap[w.heap.size + 1]? = some (.cells #[.int .i64 k, .int .i64 n, .string t] 46 (0, 0)) := (b3.block _ (slab_lt HX.out)).trans HX.out
    clear y0 y1 y2
    have y0 : w3.cell? ⟨w.heap.size + 1, 0, none⟩ = some (.int .i64 k) := slab_cell xb
    have y1 : w3.cell? ⟨w.heap.size + 1, 1, none⟩ = some (.int .i64 n) := slab_cell xb
    have y2 : w3.cell? ⟨w.heap.size + 1, 2, none⟩ = some (.string t) := slab_cell xb
    clear xb HX b3 B2
    generalize hok : okV k n t = ov at *
    cases ov with
    | false =>
      have HQ : Hid (wCode tb cs vs (k, n, t) = 1) := HW3.out
      go_wp2
      go_ret2
      exact RetW.bad HQ.out (by decide) B3
    | true =>
      have HQ : Hid (wCode tb cs vs (k, n, t) = 0) := HW3.out
      have B4 : Below w.heap.size w (w3.alloc (.cells #[.int .i64 k, .int .i64 n, .string t] 46)) := B3.alloc B3.size _
      have hO : RowV (w3.alloc (.cells #[.int .i64 k, .int .i64 n, .string t] 46)) (some ⟨w3.heap.size, 0, none⟩) [(k, n, t)] := fun i hi => by
        obtain rfl : i = 0 := by simpa using hi
        have e := heap_new' w3 (.cells #[.int .i64 k, .int .i64 n, .string t] 46) _ rfl
        exact ⟨w3.heap.size, 0, rfl, by simp, ⟨slab_cell e, slab_cell e, slab_cell e⟩, HT2.out⟩
      have HCW := copyWith_any g w3.heap.size m vs (k, n, t) _ (HV.out _ B4) HM.out m0 m8 hO
      clear hO HW3 hok
      go_wp2_with fail
      refine HCW.mono ?_
      rintro r w5 ⟨u, rfl, O5, b5⟩
      have B5 := B4.trans (b5.mono B4.size)
      have HO : Hid (OwnV w5 w.heap.size u (vs ++ [(k, n, t)])) := own_mono O5 B4.size
      clear O5 b5 HCW B4
      go_wp2
      go_ret2
      exact ⟨u, by rw [HQ.out]; rfl, by rw [HD.out HQ.out]; exact HO.out, B5⟩
  · have HQ : Hid (wCode tb cs vs (k, n, t) = (crow tb cs vs).1) := by show _ = _; rw [HW.out, if_pos hq]
    clear HW HE HZ
    generalize (crow tb cs vs).1 = q at *
    have HN : Hid (¬ q = 0) := hq
    go_wp2
    go_ret2
    exact RetW.bad HQ.out HN.out B2
end Go.Proofs.YtffjnhhfplcloaaGreatDoor
