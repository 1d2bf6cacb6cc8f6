/- How impl reads the cells of a key, and what impl.ReadKey answers. -/
import Derived.Test.YtfkenogbfbbbjaaRkB
import Derived.Test.YtfkenogbfbbbjaaRdD
namespace Go.Proofs.Ytfkenogbfbbbjaa
open Go.RowKit

/-- What ReadKey's loop answers. -/
def RetK (w : World) (p : Option (List V3)) (e : Ending) (w' : World) : Prop :=
  (∃ vs v, p = some vs ∧ e = .returned (.tuple #[v, .int .i64 0]) ∧ vs.length ≤ 8 ∧ w'.ownsRow w.heap.size 24 3 v vs.length (cells3 vs) ∨ p = none ∧ e = .returned (.tuple #[.slice none 0 0, .int .i64 3])) ∧ Below w.heap.size w w'

set_option maxRecDepth 100000 in
set_option maxHeartbeats 4000000 in
theorem keyRun_any (a : Option Addr) (c n : Nat) (f : Nat → Int) (w : World) (h : ReadB w a n f) (hf : Bys f n) (hc : n ≤ c) (hn : n ≤ 65536) :
    Calls Try.prog 21 #[.slice a n c] w (RetK w (cellsRd keyTx 8 f n)) := by
  have H : Hid (ReadB w a n f) := h
  have HF : Hid (Bys f n) := hf
  obtain ⟨i0, hi, hzz⟩ := Option.map_eq_some_iff.1 info24
  simp only [Prod.mk.injEq] at hzz
  obtain ⟨hz0', hz1, hz2⟩ := hzz
  have h1I : ¬ (65536 : Int) < (n : Int) := by omega
  clear h hf
  go_enter Try.func21, Try.ntmps21
  go_wp2
  go_loopw [0, 4] (fun s r wr => ∃ (o : Nat) (a' : Option Addr) (c' : Nat) (vs : List V3), o ≤ n ∧ s = .slice a' (n - o) c' ∧ n - o ≤ c' ∧ Hid (ReadB w a' (n - o) (shB f o)) ∧ vs.length ≤ 8 ∧ wr.ownsRow w.heap.size 24 3 r vs.length (cells3 vs) ∧ Hid (cellsRd keyTx 8 f n = (cellsRd keyTx (8 - vs.length) (shB f o) (n - o)).map (vs ++ ·)) ∧ Below w.heap.size w wr) (fun s _ _ => match s with | .slice _ l _ => l | _ => 0)
  case atStart =>
    refine ⟨0, a, c, [], by omega, rfl, hc, ?_, by simp, World.ownsRow_nil _ _ _ _, ?_, Below.refl _ _⟩
    · have : shB f 0 = f := by funext i; simp [shB]
      rw [this]; exact H.out
    · have : shB f 0 = f := by funext i; simp [shB]
      show _ = _
      rw [this]
      simp
  case round =>
    obtain ⟨o, a', c', vs, ho, rfl, hc', HR, hvs, hown, HE, hbl⟩ := hrel
    by_cases hm : n - o = 0
    · have HN : Hid (cellsRd keyTx 8 f n = some vs) := by
        show _ = _
        rw [HE.out, hm, cellsRd_zero]
        simp
      have HO : Hid (wr.ownsRow w.heap.size 24 3 u4 vs.length (cells3 vs)) := hown
      rw [hm]
      clear hown
      go_wp2
      go_ret2
      exact ⟨⟨vs, _, .inl ⟨HN.out, rfl, hvs, HO.out⟩⟩, hbl⟩
    · have HP : Hid (0 ≤ (cellRd keyTx (shB f o) (n - o)).2 ∧ (cellRd keyTx (shB f o) (n - o)).2 ≤ (n - o : Nat)) := cellRd_ok keyTx_ok (HF.out.sh o) (by omega)
      have HG : Hid (Bys (shB f o) (n - o)) := HF.out.sh o
      have HO : Hid (wr.ownsRow w.heap.size 24 3 u4 vs.length (cells3 vs)) := hown
      have HX : Hid ((cellRd keyTx (shB f o) (n - o)).2 = 0 → cellsRd keyTx 8 f n = none) := fun h0 => by rw [HE.out, cellsRd_bad _ (by omega) h0]; rfl
      have HX8 : Hid (vs.length = 8 → cellsRd keyTx 8 f n = none) := fun h0 => by rw [HE.out, h0, cellsRd_full (by omega)]; rfl
      have HXn : Hid (vs.length < 8 → (cellRd keyTx (shB f o) (n - o)).2 ≠ 0 → cellsRd keyTx 8 f n = (cellsRd keyTx (8 - (vs ++ [(cellRd keyTx (shB f o) (n - o)).1]).length) (shB f (o + (cellRd keyTx (shB f o) (n - o)).2.toNat)) (n - (o + (cellRd keyTx (shB f o) (n - o)).2.toNat))).map ((vs ++ [(cellRd keyTx (shB f o) (n - o)).1]) ++ ·)) := fun h8 h0 => by
        rw [HE.out]
        obtain ⟨j, hj⟩ : ∃ j, 8 - vs.length = j + 1 := ⟨7 - vs.length, by omega⟩
        have hj2 : 8 - (vs ++ [(cellRd keyTx (shB f o) (n - o)).1]).length = j := by simp; omega
        rw [hj, hj2, cellsRd_next j (by omega) h0, shB_shB, Nat.sub_add_eq]
        cases cellsRd keyTx j (shB f (o + (cellRd keyTx (shB f o) (n - o)).2.toNat)) (n - o - (cellRd keyTx (shB f o) (n - o)).2.toNat) <;> simp
      obtain ⟨b, off, rfl, hlb, _⟩ := HR.out 0 (by omega)
      have hmI : (0 : Int) < ((n - o : Nat) : Int) := by omega
      have HL : Hid (n - o ≤ 65536) := by show _ ≤ _; omega
      generalize hmm : n - o = m at *
      clear hown
      go_wp2_with fail
      refine (keyCell_any _ _ m (shB f o) wr (HR.out.below hbl) HG.out (by omega) (by omega) HL.out).mono ?_
      rintro e w1 ⟨rfl, hb1⟩
      generalize cellRd keyTx (shB f o) m = p at *
      obtain ⟨⟨k0, n0, t0⟩, z⟩ := p
      have hz := HP.out
      simp only at hz
      have hB1 : Below w.heap.size w (w1.alloc (.cells #[.int .i64 k0, .int .i64 n0, .string t0] 24)) := (below_step hbl (Nat.le_refl _) hb1).alloc (by have := hb1.size; have := hbl.size; omega) _
      have HO1 : Hid ((w1.alloc (.cells #[.int .i64 k0, .int .i64 n0, .string t0] 24)).ownsRow w.heap.size 24 3 u4 vs.length (cells3 vs)) := own_belowN (own_belowN HO.out hb1) ((Below.refl _ _).alloc (Nat.le_refl _) _)
      obtain ⟨ra, rc, rfl⟩ := own_shape HO1.out
      have hb3 := hB1.size
      by_cases hz0 : z = 0
      · subst hz0
        have HN : Hid (cellsRd keyTx 8 f n = none) := HX.out rfl
        go_wp2
        go_ret2
        exact ⟨⟨vs, .slice ra vs.length rc, .inr ⟨HN.out, rfl⟩⟩, hB1⟩
      · have hz1' : (z == 0) = false := by simp; exact hz0
        by_cases h8 : vs.length = 8
        · have HN : Hid (cellsRd keyTx 8 f n = none) := HX8.out h8
          rw [h8]
          go_wp2
          go_ret2
          exact ⟨⟨vs, .slice ra vs.length rc, .inr ⟨HN.out, rfl⟩⟩, hB1⟩
        · have HN : Hid (_ = _) := HXn.out (by omega) (by simpa using hz0)
          have h8b : ((vs.length : Int) == 8) = false := by simp; omega
          obtain ⟨q, rfl⟩ := Int.eq_ofNat_of_zero_le hz.1
          have hB2 : Below w.heap.size w ((w1.alloc (.cells #[.int .i64 k0, .int .i64 n0, .string t0] 24)).alloc (.cells #[.int .i64 k0, .int .i64 n0, .string t0] 24)) := hB1.alloc hB1.size _
          have hA2 : Below (w1.alloc (.cells #[.int .i64 k0, .int .i64 n0, .string t0] 24)).heap.size (w1.alloc (.cells #[.int .i64 k0, .int .i64 n0, .string t0] 24)) ((w1.alloc (.cells #[.int .i64 k0, .int .i64 n0, .string t0] 24)).alloc (.cells #[.int .i64 k0, .int .i64 n0, .string t0] 24)) := (Below.refl _ _).alloc (Nat.le_refl _) _
          have hown2 := own_belowN HO1.out hA2
          clear hbl hb1 HO HX HX8 HXn HE
          go_wp2_with (at_builtin; refine wpList_append_own _ rfl (.tmp 25) (.tmp 27) 29 rfl w.heap.size 24 i0 (.agg #[.int .i64 0, .int .i64 0, .string ⟨#[]⟩]) 3 32 Try.underlying29 hi hz0' hz1 hz2 rfl (by decide) _ vs.length (cells3 vs) rfl hown2 ⟨w1.heap.size + 1, 0, none⟩ 1 1 [.int .i64 k0, .int .i64 n0, .string t0] rfl rfl ?c1 ?c2 ?c3 ?c4 ?c5 ?_)
          case c1 => exact news3 (by simp) _ _ _
          case c2 => intro u' hu'; simp at hu'; rcases hu' with rfl | rfl | rfl <;> rfl
          case c3 => unfold maxLen; omega
          case c4 => omega
          case c5 => exact hB2.size
          intro v' w3 hown3 hgr _
          have hB3 := grown_belowN hB2 hB2.size hown2 hgr
          have HO3 : Hid (w3.ownsRow w.heap.size 24 3 v' (vs ++ [(k0, n0, t0)]).length (cells3 (vs ++ [(k0, n0, t0)]))) := by
            show World.ownsRow _ _ _ _ _ _ _
            rw [cells3_snoc]
            simpa using hown3
          have hq : q ≤ m := by omega
          have hq1 : 1 ≤ q := by omega
          have hl8 : (vs ++ [(k0, n0, t0)]).length ≤ 8 := by simp; omega
          have HD : Hid (n - (o + q) = m - q) := by show _ = _; omega
          have HNN : Hid (cellsRd keyTx 8 f n = (cellsRd keyTx (8 - (vs ++ [(k0, n0, t0)]).length) (shB f (o + q)) (n - (o + q))).map ((vs ++ [(k0, n0, t0)]) ++ ·)) := HN.out
          by_cases hcq : c' = q
          · have hmq : m - q = 0 := by omega
            clear hown3 hgr hown2 hB2 hA2 HO1 hB1 HN
            subst hcq
            go_wp2
            refine ⟨⟨o + c', some ⟨b, off, none⟩, 0, vs ++ [(k0, n0, t0)], by omega, by rw [HD.out, hmq], by omega, ?_, hl8, HO3.out, HNN, hB3⟩, ?_⟩
            · intro i hi
              omega
            · show 0 < m
              omega
          · have HRn : Hid (ReadB w (some ⟨b, off + q, none⟩) (m - q) (shB f (o + q))) := by
              have := HR.out.cut (k := q) rfl
              show ReadB _ _ _ _
              have e : (fun i => shB f o (q + i)) = shB f (o + q) := shB_shB f o q
              rwa [e] at this
            clear hown3 hgr hown2 hB2 hA2 HO1 hB1 HN
            go_wp2
            refine ⟨⟨o + q, some ⟨b, off + q, none⟩, c' - q, vs ++ [(k0, n0, t0)], by omega, by rw [HD.out], by omega, ?_, hl8, HO3.out, HNN, hB3⟩, ?_⟩
            · rw [HD.out]; exact HRn
            · show m - q < m
              omega

/-- The code and the values that n bytes are as a key. -/
def keyR (f : Nat → Int) (n : Nat) : Int × List V3 :=
  if 65536 < n then (2, []) else
    match cellsRd keyTx 8 f n with
    | none => (3, [])
    | some vs => (0, vs)

set_option maxRecDepth 100000 in
set_option maxHeartbeats 4000000 in
theorem implReadKey_any (a : Option Addr) (c n : Nat) (f : Nat → Int) (w : World) (h : ReadB w a n f) (hf : Bys f n) (hc : n ≤ c) (hn : n ≤ 1048576) :
    Calls Try.prog 21 #[.slice a n c] w (RetW w (keyR f n)) := by
  by_cases h1 : 65536 < n
  · have E : Hid (keyR f n = (2, [])) := by show _ = _; unfold keyR; rw [if_pos h1]
    have h1I : (65536 : Int) < (n : Int) := by omega
    clear h hf
    go_enter Try.func21, Try.ntmps21
    go_wp2
    go_ret2
    rw [E.out]
    exact ⟨_, rfl, World.ownsRow_nil _ _ _ _, Below.refl _ _⟩
  have HR : Hid (ReadB w a n f) := h
  have HF : Hid (Bys f n) := hf
  have HE : Hid (keyR f n = match cellsRd keyTx 8 f n with | none => (3, []) | some vs => (0, vs)) := by show _ = _; unfold keyR; rw [if_neg h1]
  refine (keyRun_any a c n f w HR.out HF.out hc (by omega)).mono ?_
  rintro e w1 ⟨⟨vs, r, (⟨hp1, rfl, hl, ho⟩ | ⟨hp1, rfl⟩)⟩, hb⟩
  · have E : keyR f n = (0, vs) := by rw [HE.out, hp1]
    rw [E]
    exact ⟨r, rfl, ho, hb⟩
  · have E : keyR f n = (3, []) := by rw [HE.out, hp1]
    rw [E]
    exact ⟨_, rfl, World.ownsRow_nil _ _ _ _, hb⟩
end Go.Proofs.Ytfkenogbfbbbjaa
