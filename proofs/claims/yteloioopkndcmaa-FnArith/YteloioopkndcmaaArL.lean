/- The law FnArith (stage 12). -/
import Derived.Test.YteloioopkndcmaaArB
import Derived.Test.YteloioopkndcmaaBytes
namespace Go.Proofs.Yteloioopkndcmaa
open Go.RowKit

theorem arith_add {a b : Int} (ha : In64 a) : (addC a b = 0 ∧ IntKind.i64.wrap (addR a b - b) = a) ∨ addC a b = 4 := by
  by_cases h : In64 (a + b)
  · refine .inl ⟨if_pos h, ?_⟩
    unfold addR
    rw [if_pos h, wrap64]
    unfold In64 at ha
    omega
  · exact .inr (if_neg h)
theorem arith_mul {a b : Int} (ha : In64 a) (hb : b ≠ 0) : (mulC a b = 0 ∧ RowKit.wrap64 ((mulR a b).tdiv b) = a) ∨ mulC a b = 4 := by
  by_cases h : mulX a b
  · refine .inl ⟨if_pos h, ?_⟩
    unfold mulR
    rw [if_pos h]
    rcases h with h | ⟨h, _⟩
    · exact absurd h hb
    · rw [h, wrap_in ha]
  · exact .inr (if_neg h)
theorem arith_div {a b : Int} (ha : In64 a) (hb : b ≠ 0) : (divC a b = 4 ∧ b = -1) ∨ (divC a b = 0 ∧ IntKind.i64.wrap (IntKind.i64.wrap (divQ a b * b) + divM a b) = a ∧ In64 (divM a b) ∧ (divM a b).natAbs < b.natAbs ∧ (divM a b ≠ 0 → (divM a b < 0 ↔ a < 0))) := by
  by_cases h : divX a b
  · have h1 : b = -1 := by rcases h with h | h; exact absurd h hb; exact h.2
    exact .inl ⟨by unfold divC; rw [if_neg hb, if_pos h], h1⟩
  · refine .inr ⟨by unfold divC; rw [if_neg hb, if_neg h], ?_⟩
    unfold divQ divM
    rw [if_neg h, if_neg h]
    have h1 := Int.tmod_add_mul_tdiv a b
    have h2 := tmod_le a b
    have h3 : (a.tmod b).natAbs < b.natAbs := by
      rw [Int.natAbs_tmod]
      exact Nat.mod_lt _ (by omega)
    rw [Int.mul_comm] at h1
    generalize a.tdiv b * b = y at *
    generalize a.tmod b = r at *
    unfold In64 at *
    refine ⟨?_, ?_, h3, fun hr => ?_⟩
    · rw [wrap64, wrap64]
      omega
    · rcases Int.lt_or_le a 0 with h | h
      · have := h2.2 h; omega
      · have := h2.1 h; omega
    · rcases Int.lt_or_le a 0 with h | h
      · have := h2.2 h; omega
      · have := h2.1 h; omega
set_option maxRecDepth 100000 in
set_option maxHeartbeats 4000000 in
theorem lawArith_small (a0 : Option Addr) (len0 cap0 : Nat) (z0 : List Int) (a1 : Option Addr) (len1 cap1 : Nat) (z1 : List Int) (w : World) (w0 : IsRow w a0 len0 cap0 z0) (w1 : IsRow w a1 len1 cap1 z1) (hl0 : len0 ≤ 1048576) (hl1 : len1 ≤ 1048576) :
    Calls Try.prog 3 #[.slice a0 len0 cap0, .slice a1 len1 cap1] w fun e w' => e = .returned (.bool true) ∧ Below w.heap.size w w' := by
  have H0 : Hid (Code w a0 len0) := w0.code
  have H1 : Hid (Code w a1 len1) := w1.code
  clear w0 w1
  go_enter Try.func3, Try.ntmps3
  go_wp2_with fail
  refine (valueOf_any H0.out (by omega)).mono ?_
  rintro e u1 ⟨k, a, t, rfl, _, ha, _, b1⟩
  have HA : Hid (In64 a) := ha
  clear ha
  have HF : ∀ (k n : Int) (t : ByteArray) (w : World), (Instr.field 24 (VV k n t) 1).run Try.prog w = .ok (.int .i64 n) w := fun _ _ _ _ => by kernel_rfl
  have c1 : Code u1 a1 len1 := H1.out.below b1 (fun x e hl => H1.out.lt hl x e)
  go_wp2_with fail
  refine (valueOf_any c1 (by omega)).mono ?_
  rintro e u2 ⟨k2, b, t2, rfl, _, hb, _, b2⟩
  have B2 := b1.trans (b2.mono b1.size)
  have HB : Hid (In64 b) := hb
  clear hb b1 b2 c1 H0 H1
  go_wp2_with fail
  refine (implAdd_any a b _ HA.out HB.out).mono ?_
  rintro e u3 ⟨rfl, hq⟩
  obtain rfl := hq.symm
  go_wp2_with fail
  refine (specAdd_any a b _ HA.out HB.out).mono ?_
  rintro e u3 ⟨rfl, hq⟩
  obtain rfl := hq.symm
  go_wp2_with fail
  refine (implMul_any a b _ HA.out HB.out).mono ?_
  rintro e u4 ⟨rfl, b4⟩
  have B4 := below_step B2 (Nat.le_refl _) b4
  clear b4 B2
  go_wp2_with fail
  refine (specMul_any a b _ HA.out).mono ?_
  rintro e u5 ⟨rfl, b5⟩
  have B5 := below_step B4 (Nat.le_refl _) b5
  clear b5 B4
  go_wp2_with fail
  refine (implDiv_any a b _ HA.out).mono ?_
  rintro e u6 ⟨rfl, b6⟩
  have B6 := below_step B5 (Nat.le_refl _) b6
  clear b6 B5
  have HX : Hid ((addC a b = 0 ∧ IntKind.i64.wrap (addR a b - b) = a) ∨ addC a b = 4) := arith_add HA.out
  have HY : Hid (b ≠ 0 → (mulC a b = 0 ∧ RowKit.wrap64 ((mulR a b).tdiv b) = a) ∨ mulC a b = 4) := arith_mul HA.out
  have HZ : Hid (b ≠ 0 → (divC a b = 4 ∧ b = -1) ∨ (divC a b = 0 ∧ IntKind.i64.wrap (IntKind.i64.wrap (divQ a b * b) + divM a b) = a ∧ In64 (divM a b) ∧ (divM a b).natAbs < b.natAbs ∧ (divM a b ≠ 0 → (divM a b < 0 ↔ a < 0)))) := arith_div HA.out
  have H00 : Hid (b = 0 → divC a b = 13) := fun h => if_pos h
  generalize addR a b = s at *
  generalize addC a b = c at *
  generalize mulR a b = p at *
  generalize mulC a b = d at *
  generalize divQ a b = q at *
  generalize divM a b = r at *
  generalize divC a b = x at *
  by_cases hb0 : b = 0
  · have hx := H00.out hb0
    subst hx hb0
    clear HY HZ H00
    rcases HX.out with ⟨h1, h2⟩ | h1
    · subst h1
      have h2' : RowKit.wrap64 s = a := by rw [Int.sub_zero, wrap64] at h2; unfold RowKit.wrap64; exact h2
      clear h2 HX
      cases hd : (d == 0) <;>
      · go_wp2
        go_ret
        exact ⟨rfl, B6⟩
    · subst h1
      clear HX
      cases hd : (d == 0) <;>
      · go_wp2
        go_ret
        exact ⟨rfl, B6⟩
  · have hb1 : (b == 0) = false := beq_eq_false_iff_ne.2 hb0
    have hb2 : (b != 0) = true := by simpa using hb0
    have hy := HY.out hb0
    have hz := HZ.out hb0
    clear HY HZ H00
    have HY : Hid ((d = 0 ∧ RowKit.wrap64 (p.tdiv b) = a) ∨ d = 4) := hy
    have HZ : Hid ((x = 4 ∧ b = -1) ∨ (x = 0 ∧ IntKind.i64.wrap (IntKind.i64.wrap (q * b) + r) = a ∧ In64 r ∧ r.natAbs < b.natAbs ∧ (r ≠ 0 → (r < 0 ↔ a < 0)))) := hz
    clear hy hz
    have tail : ∀ (vs : Int) (vp : Int), RowKit.wrap64 (s - b) = vs → RowKit.wrap64 (p.tdiv b) = vp → True := fun _ _ _ _ => trivial
    clear tail
    rcases HZ.out with ⟨h1, h2⟩ | ⟨h1, h2, h3, h4, h5⟩
    · subst h1
      have h2' : (b == -1) = true := by rw [h2]; rfl
      clear h2 HZ
      rcases HX.out with ⟨e1, e2⟩ | e1 <;> rcases HY.out with ⟨e3, e4⟩ | e3
      all_goals
        subst e1 e3
        clear HX HY
        go_wp2
        go_ret
        exact ⟨rfl, B6⟩
    · subst h1
      clear HZ
      obtain ⟨y, hy⟩ : ∃ y, IntKind.i64.wrap (q * b) = y := ⟨_, rfl⟩
      rw [hy] at h2
      have hsg : (r == 0) = true ∨ ((r == 0) = false ∧ (r < 0 ↔ a < 0)) := by
        by_cases hr : r = 0
        · exact .inl (by rw [hr]; rfl)
        · exact .inr ⟨beq_eq_false_iff_ne.2 hr, h5 hr⟩
      have HR : Hid (In64 r ∧ r.natAbs < b.natAbs ∧ In64 b) := ⟨h3, h4, HB.out⟩
      have h2' : RowKit.wrap64 (y + r) = a := by rw [wrap64] at h2; unfold RowKit.wrap64; exact h2
      clear h3 h4 h5 h2
      obtain ⟨nr, hnr, hnr2⟩ : ∃ nr, RowKit.wrap64 (-r) = nr ∧ nr = -r := ⟨_, wrap_in (by have := HR.out; unfold In64 at *; omega), rfl⟩
      obtain ⟨nb, hnb, hcase⟩ : ∃ nb, RowKit.wrap64 (-b) = nb ∧ ((nb = b ∧ ¬ nr < b ∧ ¬ r < b ∧ (b == -9223372036854775808) = true) ∨ (b < nb ∧ nr < nb ∧ r < nb) ∨ (¬ b < nb ∧ nr < b ∧ r < b)) := by
        have := HR.out
        by_cases hm : b = -9223372036854775808
        · refine ⟨b, ?_, .inl ⟨rfl, ?_, ?_, beq_iff_eq.2 hm⟩⟩
          · rw [hm]; unfold RowKit.wrap64; decide
          · unfold In64 at this; omega
          · unfold In64 at this; omega
        · refine ⟨-b, wrap_in (by unfold In64 at *; omega), ?_⟩
          by_cases hb3 : b < -b
          · exact .inr (.inl ⟨hb3, by unfold In64 at this; omega, by unfold In64 at this; omega⟩)
          · exact .inr (.inr ⟨hb3, by unfold In64 at this; omega, by unfold In64 at this; omega⟩)
      clear hnr2
      have HXY : Hid (((c = 0 ∧ IntKind.i64.wrap (s - b) = a) ∨ c = 4) ∧ ((d = 0 ∧ RowKit.wrap64 (p.tdiv b) = a) ∨ d = 4)) := ⟨HX.out, HY.out⟩
      clear HX HY
      rcases hcase with ⟨e1, e2, e3, e4⟩ | ⟨e1, e2, e3⟩ | ⟨e1, e2, e3⟩
      · subst e1
        rcases hsg with hr | ⟨hr, hs⟩ <;> by_cases hrn : r < nr <;> rcases HXY.out with ⟨⟨f1, f2⟩ | f1, ⟨f3, f4⟩ | f3⟩
        all_goals
          subst f1 f3
          clear HXY
          go_wp2
          go_ret
          exact ⟨rfl, B6⟩
      · rcases hsg with hr | ⟨hr, hs⟩ <;> by_cases hrn : r < nr <;> rcases HXY.out with ⟨⟨f1, f2⟩ | f1, ⟨f3, f4⟩ | f3⟩
        all_goals
          subst f1 f3
          clear HXY
          go_wp2
          go_ret
          exact ⟨rfl, B6⟩
      · rcases hsg with hr | ⟨hr, hs⟩ <;> by_cases hrn : r < nr <;> rcases HXY.out with ⟨⟨f1, f2⟩ | f1, ⟨f3, f4⟩ | f3⟩
        all_goals
          subst f1 f3
          clear HXY
          go_wp2
          go_ret
          exact ⟨rfl, B6⟩
end Go.Proofs.Yteloioopkndcmaa
