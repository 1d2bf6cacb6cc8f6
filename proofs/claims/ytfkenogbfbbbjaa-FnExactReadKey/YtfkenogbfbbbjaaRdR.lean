/- How impl.readRow walks, and what impl.ReadRow answers. -/
import Derived.Test.YtfkenogbfbbbjaaRdD
namespace Go.Proofs.Ytfkenogbfbbbjaa
open Go.RowKit

set_option maxRecDepth 100000 in
set_option maxHeartbeats 2000000 in
theorem readCell_zero (a : Option Addr) (c : Nat) (w : World) :
    Calls Try.prog 59 #[.slice a 0 c, .func (Fn.func 97) #[] #[]] w (RetC w ((0, 0, ⟨#[]⟩), 0)) := by
  go_enter Try.func59, Try.ntmps59
  go_wp2
  exact ⟨rfl, .tuple #[VV 0 0 ⟨#[]⟩, .int .i64 0], by simp [results, Try.f59, go_sem], rfl, (Below.refl _ _).alloc (Nat.le_refl _) _⟩

/-- impl's row and its size; no row, and 0, where none begins. -/
def RetN (w : World) (p : Option (List V3 × Nat)) (e : Ending) (w' : World) : Prop :=
  (∃ v, e = .returned (.tuple #[v, .int .i64 ((p.map (·.2)).getD 0 : Nat)]) ∧ w'.ownsRow w.heap.size 24 3 v ((p.map (·.1)).getD []).length (cells3 ((p.map (·.1)).getD []))) ∧ Below w.heap.size w w'
theorem RetN.none {w w' : World} {e : Ending} (he : e = .returned (.tuple #[.slice none 0 0, .int .i64 0])) (hb : Below w.heap.size w w') : RetN w none e w' :=
  ⟨⟨_, he, World.ownsRow_nil _ _ _ _⟩, hb⟩
theorem ret_none {w w' : World} {p : Option (List V3 × Nat)} (hp : p = none) (hb : Below w.heap.size w w') : RetN w p (.returned (.tuple #[.slice none 0 0, .int .i64 0])) w' := by
  subst hp
  exact RetN.none rfl hb
theorem ret_some {w w' : World} {p : Option (List V3 × Nat)} {vs : List V3} {z : Nat} {v : Value} (hp : p = some (vs, z)) (ho : w'.ownsRow w.heap.size 24 3 v vs.length (cells3 vs)) (hb : Below w.heap.size w w') : RetN w p (.returned (.tuple #[v, .int .i64 z])) w' := by
  subst hp
  exact ⟨⟨_, rfl, ho⟩, hb⟩

set_option maxRecDepth 100000 in
set_option maxHeartbeats 4000000 in
theorem readRow_any (a : Option Addr) (c n : Nat) (f : Nat → Int) (w : World) (h : ReadB w a n f) (hf : Bys f n) (hc : n ≤ c) (hn : n ≤ 65536) :
    Calls Try.prog 75 #[.slice a n c] w (RetN w (rowRd f n)) := by
  by_cases h0 : n = 0
  · subst h0
    have E : Hid (rowRd f 0 = none) := if_pos (.inl rfl)
    clear h hf
    go_enter Try.func75, Try.ntmps75
    go_wp2
    go_ret2
    exact ret_none E.out (Below.refl _ _)
  have hnz : ((n : Int) == 0) = false := beq_eq_false_iff_ne.mpr (by omega)
  have H : Hid (ReadB w a n f) := h
  have HF : Hid (Bys f n) := hf
  obtain ⟨b, off, rfl, hlt, hc0⟩ := h 0 (by omega)
  have HLT : Hid (b < w.heap.size) := hlt
  simp only [Nat.add_zero] at hc0
  obtain ⟨v0, v1⟩ := hf 0 (by omega)
  by_cases h8 : 8 < f 0
  · have E : Hid (rowRd f n = none) := if_pos (.inr h8)
    generalize f 0 = v at *
    clear h hf
    go_enter Try.func75, Try.ntmps75
    go_wp2
    go_ret2
    exact ret_none E.out (Below.refl _ _)
  obtain ⟨F, hF⟩ : ∃ F : Nat, f 0 = (F : Int) := ⟨(f 0).toNat, by omega⟩
  have hF8 : F ≤ 8 := by omega
  have E : Hid (rowRd f n = (cntRd rowTx F (shB f 1) (n - 1)).map fun p => (p.1, 1 + p.2)) := by
    show _ = _
    unfold rowRd
    rw [if_neg (by omega), hF, Int.toNat_natCast]
  rw [hF] at hc0 h8
  obtain ⟨i0, hi, hzz⟩ := Option.map_eq_some_iff.1 info24
  simp only [Prod.mk.injEq] at hzz
  obtain ⟨hz0', hz1, hz2⟩ := hzz
  clear h hf hlt v0 v1 hF
  go_enter Try.func75, Try.ntmps75
  go_wp2
  go_loopw [4, 5, 20] (fun r al i wr => ∃ (k o : Nat) (vs : List V3), k ≤ F ∧ i = .int .u8 k ∧ al = .int .i64 o ∧ 1 ≤ o ∧ o ≤ n ∧ vs.length = k ∧ wr.ownsRow w.heap.size 24 3 r vs.length (cells3 vs) ∧ Hid (cntRd rowTx F (shB f 1) (n - 1) = (cntRd rowTx (F - k) (shB f o) (n - o)).map fun p => (vs ++ p.1, (o - 1) + p.2)) ∧ Below w.heap.size w wr) (fun _ _ i _ => F - (intOf i).toNat)
  case atStart =>
    refine ⟨0, 1, [], by omega, rfl, rfl, by omega, by omega, rfl, World.ownsRow_nil _ _ _ _, ?_, Below.refl _ _⟩
    show _ = _
    simp
  case round =>
    obtain ⟨k, o, vs, hk, rfl, rfl, ho1, hon, hvk, hown, HE, hbl⟩ := hrel
    have HO : Hid (wr.ownsRow w.heap.size 24 3 u4 vs.length (cells3 vs)) := hown
    have HVK : Hid (vs.length = k) := hvk
    clear hown hvk
    by_cases hkF : k < F
    · have hkI : (k : Int) < (F : Int) := by omega
      obtain ⟨j, hj⟩ : ∃ j, F - k = j + 1 := ⟨F - k - 1, by omega⟩
      have ho1I : (o : Int) ≤ (n : Int) := by omega
      have ho2I : (o : Int) ≤ (c : Int) := by omega
      obtain ⟨p, hp⟩ : ∃ p : Option Addr, (if c = o then some (⟨b, off, none⟩ : Addr) else some ⟨b, off + o, none⟩) = p := ⟨_, rfl⟩
      by_cases hm : n - o = 0
      · have HN : Hid (rowRd f n = none) := by
          show _ = _
          rw [E.out, HE.out, hj, cntRd_stop j (.inl hm)]
          rfl
        by_cases hco : c = o
        · subst hco
          go_wp2_with fail
          refine (readCell_zero _ _ wr).mono ?_
          rintro e w1 ⟨rfl, hb1⟩
          have hB1 := below_step hbl (Nat.le_refl _) hb1
          have hB2 : Below w.heap.size w (w1.alloc (.cells #[.int .i64 0, .int .i64 0, .string ⟨#[]⟩] 24)) := hB1.alloc hB1.size _
          clear hb1 hB1 hbl
          go_wp2
          go_ret2
          exact ret_none HN.out hB2
        · go_wp2_with fail
          refine (readCell_zero _ _ wr).mono ?_
          rintro e w1 ⟨rfl, hb1⟩
          have hB1 := below_step hbl (Nat.le_refl _) hb1
          have hB2 : Below w.heap.size w (w1.alloc (.cells #[.int .i64 0, .int .i64 0, .string ⟨#[]⟩] 24)) := hB1.alloc hB1.size _
          clear hb1 hB1 hbl
          go_wp2
          go_ret2
          exact ret_none HN.out hB2
      · have hco : ¬ c = o := by omega
        have HR : Hid (ReadB wr (some ⟨b, off + o, none⟩) (n - o) (shB f o)) := (H.out.below hbl).cut (k := o) rfl
        have HG : Hid (Bys (shB f o) (n - o)) := HF.out.sh o
        have HP : Hid (0 ≤ (cellRd rowTx (shB f o) (n - o)).2 ∧ (cellRd rowTx (shB f o) (n - o)).2 ≤ (n - o : Nat)) := cellRd_ok rowTx_ok HG.out (by omega)
        have HX : Hid ((cellRd rowTx (shB f o) (n - o)).2 = 0 → rowRd f n = none) := fun h0 => by
          rw [E.out, HE.out, hj, cntRd_stop j (.inr h0)]
          rfl
        have HXn : Hid ((cellRd rowTx (shB f o) (n - o)).2 ≠ 0 → cntRd rowTx F (shB f 1) (n - 1) = (cntRd rowTx (F - (k + 1)) (shB f (o + (cellRd rowTx (shB f o) (n - o)).2.toNat)) (n - (o + (cellRd rowTx (shB f o) (n - o)).2.toNat))).map fun p => ((vs ++ [(cellRd rowTx (shB f o) (n - o)).1]) ++ p.1, (o + (cellRd rowTx (shB f o) (n - o)).2.toNat - 1) + p.2)) := fun h0 => by
          rw [HE.out, hj, cntRd_next j (by rintro (h | h); exact hm h; exact h0 h), shB_shB, show F - (k + 1) = j by omega, Nat.sub_add_eq n o]
          cases cntRd rowTx j (shB f (o + (cellRd rowTx (shB f o) (n - o)).2.toNat)) (n - o - (cellRd rowTx (shB f o) (n - o)).2.toNat) with
          | none => rfl
          | some q =>
            simp
            omega
        have HL : Hid (n - o ≤ 65536 ∧ 1 ≤ n - o ∧ n - o ≤ c - o) := ⟨by omega, by omega, by omega⟩
        generalize hmm : n - o = m at *
        have HM : Hid (n - o = m) := hmm
        go_wp2_with fail
        refine (readCell_any _ _ m (shB f o) wr HR.out HG.out HL.out.2.1 HL.out.2.2 HL.out.1).mono ?_
        rintro e w1 ⟨rfl, hb1⟩
        generalize cellRd rowTx (shB f o) m = p at *
        obtain ⟨⟨k0, n0, t0⟩, z⟩ := p
        have hz := HP.out
        simp only at hz
        have hB1 : Below w.heap.size w (w1.alloc (.cells #[.int .i64 k0, .int .i64 n0, .string t0] 24)) := (below_step hbl (Nat.le_refl _) hb1).alloc (by have := hb1.size; have := hbl.size; omega) _
        have HO1 : Hid ((w1.alloc (.cells #[.int .i64 k0, .int .i64 n0, .string t0] 24)).ownsRow w.heap.size 24 3 u4 vs.length (cells3 vs)) := own_belowN (own_belowN HO.out hb1) ((Below.refl _ _).alloc (Nat.le_refl _) _)
        obtain ⟨ra, rc, rfl⟩ := own_shape HO1.out
        by_cases hz0 : z = 0
        · subst hz0
          have HN : Hid (rowRd f n = none) := HX.out rfl
          go_wp2
          go_ret2
          exact ret_none HN.out hB1
        · have hz1' : (z == 0) = false := by simp; exact hz0
          have HN := HXn.out (by simpa using hz0)
          obtain ⟨q, rfl⟩ := Int.eq_ofNat_of_zero_le hz.1
          have hB2 : Below w.heap.size w ((w1.alloc (.cells #[.int .i64 k0, .int .i64 n0, .string t0] 24)).alloc (.cells #[.int .i64 k0, .int .i64 n0, .string t0] 24)) := hB1.alloc hB1.size _
          have hA2 : Below (w1.alloc (.cells #[.int .i64 k0, .int .i64 n0, .string t0] 24)).heap.size (w1.alloc (.cells #[.int .i64 k0, .int .i64 n0, .string t0] 24)) ((w1.alloc (.cells #[.int .i64 k0, .int .i64 n0, .string t0] 24)).alloc (.cells #[.int .i64 k0, .int .i64 n0, .string t0] 24)) := (Below.refl _ _).alloc (Nat.le_refl _) _
          have hown2 := own_belowN HO1.out hA2
          have hvl : vs.length ≤ 8 := by have := HVK.out; omega
          clear hbl hb1 HO HX HXn HE hmm
          go_wp2_with (at_builtin; refine wpList_append_own _ rfl (.tmp 31) (.tmp 33) 29 rfl w.heap.size 24 i0 (.agg #[.int .i64 0, .int .i64 0, .string ⟨#[]⟩]) 3 32 Try.underlying29 hi hz0' hz1 hz2 rfl (by decide) _ vs.length (cells3 vs) rfl hown2 ⟨w1.heap.size + 1, 0, none⟩ 1 1 [.int .i64 k0, .int .i64 n0, .string t0] rfl rfl ?c1 ?c2 ?c3 ?c4 ?c5 ?_)
          case c1 => exact news3 (by simp) _ _ _
          case c2 => intro u' hu'; simp at hu'; rcases hu' with rfl | rfl | rfl <;> rfl
          case c3 => unfold maxLen; omega
          case c4 => omega
          case c5 => exact hB2.size
          intro v' w3 hown3 hgr _
          have hB3 := grown_belowN hB2 hB2.size hown2 hgr
          have HO3 : Hid (w3.ownsRow w.heap.size 24 3 v' (vs ++ [(k0, n0, t0)]).length (cells3 (vs ++ [(k0, n0, t0)]))) := by
            show World.ownsRow _ _ _ _ _ _ _
            rw [cells3_snoc]
            simpa using hown3
          have HNN : Hid (cntRd rowTx F (shB f 1) (n - 1) = (cntRd rowTx (F - (k + 1)) (shB f (o + q)) (n - (o + q))).map fun p => ((vs ++ [(k0, n0, t0)]) ++ p.1, (o + q - 1) + p.2) ) := HN
          have hq : q ≤ m := by omega
          have hoq1 : (o : Int) + (q : Int) ≤ 65536 := by have := HM.out; omega
          have hoq2 : ((o : Int) + (q : Int)).toNat = o + q := by omega
          clear hown3 hgr hown2 hB2 hA2 HO1 hB1 HN
          go_wp2
          go_roundw
          case rel => exact ⟨k + 1, o + q, vs ++ [(k0, n0, t0)], by omega, by go_num, by have := HM.out; go_num, by omega, by have := HM.out; omega, by have := HVK.out; simp; omega, HO3.out, HNN, hB3⟩
          case measure => simp [intOf]; omega
    · obtain rfl : k = F := by omega
      have HN : Hid (rowRd f n = some (vs, o)) := by
        show _ = _
        rw [E.out, HE.out, Nat.sub_self]
        simp [cntRd]
        omega
      have hkI : ¬ (k : Int) < (k : Int) := by omega
      go_wp2
      go_ret2
      exact ret_some HN.out HO.out hbl

set_option maxRecDepth 100000 in
set_option maxHeartbeats 4000000 in
theorem implReadRow_any (a : Option Addr) (c n : Nat) (f : Nat → Int) (w : World) (h : ReadB w a n f) (hf : Bys f n) (hc : n ≤ c) (hn : n ≤ 1048576) :
    Calls Try.prog 44 #[.slice a n c] w (RetW w (rowR f n)) := by
  by_cases h1 : 65536 < n
  · have E : Hid (rowR f n = (2, [])) := by show _ = _; unfold rowR; rw [if_pos h1]
    clear h hf
    go_enter Try.func44, Try.ntmps44
    go_wp2
    go_ret2
    rw [E.out]
    exact ⟨_, rfl, World.ownsRow_nil _ _ _ _, Below.refl _ _⟩
  have h1I : ¬ (65536 : Int) < (n : Int) := by omega
  have HE := rowR_of hf (by omega : n ≤ 65536)
  have G := readRow_any a c n f w h hf hc (by omega)
  unfold RetN at G
  cases hp : rowRd f n with
  | none =>
    rw [hp] at G HE
    have E : Hid (rowR f n = (3, [])) := HE
    clear h hf HE hp
    go_enter Try.func44, Try.ntmps44
    go_wp2_with fail
    refine G.mono ?_
    rintro e w1 ⟨⟨v, rfl, ho⟩, hb⟩
    clear G ho
    have hb' : Hid (Below w.heap.size w w1) := hb
    go_wp2
    go_ret2
    rw [E.out]
    exact ⟨_, rfl, World.ownsRow_nil _ _ _ _, hb'.out⟩
  | some p =>
    obtain ⟨vs, z⟩ := p
    rw [hp] at G HE
    simp only [Option.map_some, Option.getD_some] at G HE
    by_cases hz : z = n
    · rw [if_pos hz] at HE
      subst hz
      have hz0 : ((z : Int) == 0) = false := by
        have : z ≠ 0 := fun e => by
          subst e
          unfold rowRd at hp
          rw [if_pos (.inl rfl)] at hp
          cases hp
        exact beq_eq_false_iff_ne.mpr (by omega)
      have E : Hid (rowR f z = (0, vs)) := HE
      clear h hf HE hp
      go_enter Try.func44, Try.ntmps44
      go_wp2_with fail
      refine G.mono ?_
      rintro e w1 ⟨⟨v, rfl, ho⟩, hb⟩
      have HO : Hid (w1.ownsRow w.heap.size 24 3 v vs.length (cells3 vs)) := ho
      have hb' : Hid (Below w.heap.size w w1) := hb
      clear G ho
      go_wp2
      go_ret2
      rw [E.out]
      exact ⟨v, by simp, HO.out, hb'.out⟩
    · rw [if_neg hz] at HE
      have E : Hid (rowR f n = (3, [])) := HE
      have hzI : ¬ (z : Int) = (n : Int) := by omega
      clear h hf HE hp
      go_enter Try.func44, Try.ntmps44
      go_wp2_with fail
      refine G.mono ?_
      rintro e w1 ⟨⟨v, rfl, ho⟩, hb⟩
      obtain ⟨ra, rc, rfl⟩ := own_shape ho
      have hb' : Hid (Below w.heap.size w w1) := hb
      clear G ho
      by_cases hz0 : z = 0
      · subst hz0
        go_wp2
        go_ret2
        rw [E.out]
        exact ⟨_, rfl, World.ownsRow_nil _ _ _ _, hb'.out⟩
      · have hz0' : ((z : Int) == 0) = false := beq_eq_false_iff_ne.mpr (by omega)
        go_wp2
        go_ret2
        rw [E.out]
        exact ⟨_, rfl, World.ownsRow_nil _ _ _ _, hb'.out⟩
end Go.Proofs.Ytfkenogbfbbbjaa
