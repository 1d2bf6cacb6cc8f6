/- Rows that are drawn are right ones. -/
import Derived.Test.YtfkenogbfbbbjaaFkC
import Derived.Test.YtfkenogbfbbbjaaDraw
import Derived.Test.YtfkenogbfbbbjaaRdJ
namespace Go.Proofs.Ytfkenogbfbbbjaa
open Go.RowKit

theorem int_in {b : Nat} {w w1 : World} {C : Array Value} {ty : TypeId} {i : Nat} (hB : But b (w.alloc (.cells C ty)) w1) (hb : b < w.heap.size) (hC : ∀ x ∈ C, ∃ v : Int, x = .int .i64 v ∧ In64 v) (hi : i < C.size) :
    ∃ v : Int, w1.cell? ⟨w.heap.size, i, none⟩ = some (.int .i64 v) ∧ In64 v := by
  obtain ⟨v, hv, h64⟩ := hC C[i] (Array.getElem_mem hi)
  refine ⟨v, ?_, h64⟩
  rw [hB.cell (p := ⟨w.heap.size, i, none⟩) (by simp) (by simp; omega), World.cell?_alloc_at _ _ _ _ rfl, Array.getElem?_eq_getElem hi, hv]

theorem odd_in {w : World} {b : Nat} {a : Option Addr} {len cap m : Nat} (h : Src w b a len cap m) (hm : m ≤ 100000) :
    Calls Try.prog 79 #[.pointer (some ⟨b, 0, none⟩)] w fun e w' => ∃ r : Int, e = .returned (.int .i64 r) ∧ In64 r ∧ Src w' b a len cap (m + 1) ∧ But b w w' := by
  have hl := h.lt
  go_enter Try.func79, Try.ntmps79
  go_wp2_with fail
  refine (next_any 12 (h.below ((Below.refl _ _).alloc (Nat.le_refl _) _)) hm (by omega) (by omega)).mono ?_
  rintro e w1 ⟨r, rfl, r0, r1, hs, hb⟩
  obtain ⟨k, rfl⟩ := Int.eq_ofNat_of_zero_le r0
  obtain ⟨v, hv, hi64⟩ := int_in (i := k) hb hl (by intro x hx; simp at hx; rcases hx with rfl | rfl | rfl | rfl | rfl | rfl | rfl | rfl | rfl | rfl | rfl | rfl <;> exact ⟨_, rfl, by unfold In64; omega⟩) (by simp; omega)
  have hB := (But.of_below (b := b) ((Below.refl w.heap.size w).alloc (Nat.le_refl _) _)).trans hb
  clear h
  go_wp2
  go_ret
  exact ⟨v, rfl, hi64, hs, hB⟩

set_option maxHeartbeats 1000000 in
theorem value_in {w : World} {b : Nat} {a : Option Addr} {len cap m : Nat} (h : Src w b a len cap m) (hm : m ≤ 90000) (hcode : 0 < len → ∀ x, a = some x → x.block < w.heap.size) :
    Calls Try.prog 49 #[.pointer (some ⟨b, 0, none⟩)] w fun e w' => ∃ (k n : Int) (t : ByteArray), e = .returned (VV k n t) ∧ okV k n t = true ∧ In64 n ∧ t.size ≤ 8 ∧ Src w' b a len cap (m + 5) ∧ But b w w' := by
  have hl := h.lt
  have HC : Hid (0 < len → ∀ x, a = some x → x.block < w.heap.size) := hcode
  clear hcode
  go_enter Try.func49, Try.ntmps49
  go_wp2_with fail
  refine (next_any 6 (h.below ((Below.refl _ _).alloc (Nat.le_refl _) _)) (by omega) (by omega) (by omega)).mono ?_
  rintro e w1 ⟨r, rfl, r0, r1, hs, hb⟩
  clear h
  obtain ⟨k0, k1, k2, hf, hz, hB⟩ := res_cells hb hl
  rcases (show r = 0 ∨ r = 1 ∨ (r = 2 ∨ r = 3) ∨ r = 4 ∨ r = 5 by omega) with rfl | rfl | hr | rfl | rfl
  · go_wp2
    refine bodyPost_ret (v := VV 0 0 ⟨#[]⟩) (by simp [results, Try.results49, go_sem, k0, k1, k2]) rfl ⟨0, 0, ⟨#[]⟩, rfl, okV_null, ⟨by omega, by omega⟩, by decide, ?_, ?_⟩
    · repeat (first | exact hs.mono (by omega) | refine Src.res ?_ hl _ _ HC.out)
    · repeat (first | exact hB | refine But.res ?_ _ _)
  · go_wp2_with fail
    refine (next_any 2 hs (by omega) (by omega) (by omega)).mono ?_
    rintro e w2 ⟨q, rfl, q0, q1, hs2, hb2⟩
    clear k0 k1 k2 hf hz hB hs
    obtain ⟨k0, k1, k2, hf, hz, hB⟩ := res_cells (hb.trans hb2) hl
    clear hb hb2
    go_wp2
    refine bodyPost_ret (v := VV 1 q ⟨#[]⟩) (by simp [results, Try.results49, go_sem, k0, k1, k2]) rfl ⟨1, q, ⟨#[]⟩, rfl, okV_bool q q0 q1, ⟨by omega, by omega⟩, by decide, ?_, ?_⟩
    · repeat (first | exact hs2.mono (by omega) | refine Src.res ?_ hl _ _ HC.out)
    · repeat (first | exact hB | refine But.res ?_ _ _)
  · have hr0 : (r == 0) = false := beq_eq_false_iff_ne.2 (by omega)
    have hr1 : (r == 1) = false := beq_eq_false_iff_ne.2 (by omega)
    rcases hr with rfl | rfl
    all_goals
      go_wp2_with fail
      refine (next_any 10 hs (by omega) (by omega) (by omega)).mono ?_
      rintro e w2 ⟨q2, rfl, q20, q21, hs2, hb2⟩
      go_wp2_with fail
      refine (next_any 10 hs2 (by omega) (by omega) (by omega)).mono ?_
      rintro e w3 ⟨q3, rfl, q30, q31, hs3, hb3⟩
      go_wp2_with fail
      refine (odd_in hs3 (by omega)).mono ?_
      rintro e w4 ⟨q4, rfl, ⟨i4, j4⟩, hs4, hb4⟩
      go_wp2_with fail
      refine (next_any 3 (hs4.below ((Below.refl _ _).alloc (Nat.le_refl _) _)) (by omega) (by omega) (by omega)).mono ?_
      rintro e w5 ⟨q5, rfl, q50, q51, hs5, hb5⟩
      obtain ⟨j, rfl⟩ := Int.eq_ofNat_of_zero_le q50
      obtain ⟨v, hv, hi64⟩ := int_in (i := j) hb5 hs4.lt (by intro x hx; simp at hx; rcases hx with rfl | rfl | rfl <;> exact ⟨_, rfl, by unfold In64; omega⟩) (by simp; omega)
      have hbb := (((hb.trans hb2).trans hb3).trans hb4).trans ((But.of_below (b := b) ((Below.refl w4.heap.size w4).alloc (Nat.le_refl _) _)).trans hb5)
      clear k0 k1 k2 hf hz hB hs hs2 hs3 hs4 hb2 hb3 hb4 hb5
      obtain ⟨k0, k1, k2, hf, hz, hB⟩ := res_cells hbb hl
      clear hb hbb
      go_wp2
      refine bodyPost_ret (v := VV 2 v ⟨#[]⟩) (by simp [results, Try.results49, go_sem, k0, k1, k2]) rfl ⟨2, v, ⟨#[]⟩, rfl, okV_int v, hi64, by decide, ?_, ?_⟩
      · repeat (first | exact hs5.mono (by omega) | refine Src.res ?_ hl _ _ HC.out)
      · repeat (first | exact hB | refine But.res ?_ _ _)
  · go_wp2_with fail
    refine (word_any hs (by omega)).mono ?_
    rintro e w2 ⟨t, rfl, ht, hs2, hb2⟩
    clear k0 k1 k2 hf hz hB hs
    obtain ⟨k0, k1, k2, hf, hz, hB⟩ := res_cells (hb.trans hb2) hl
    clear hb hb2
    go_wp2
    refine bodyPost_ret (v := VV 3 0 t) (by simp [results, Try.results49, go_sem, k0, k1, k2]) rfl ⟨3, 0, t, rfl, okV_text t ht, ⟨by omega, by omega⟩, ht, ?_, ?_⟩
    · repeat (first | exact hs2.mono (by omega) | refine Src.res ?_ hl _ _ HC.out)
    · repeat (first | exact hB | refine But.res ?_ _ _)
  · go_wp2_with fail
    refine (word_any hs (by omega)).mono ?_
    rintro e w2 ⟨t, rfl, ht, hs2, hb2⟩
    clear k0 k1 k2 hf hz hB hs
    obtain ⟨k0, k1, k2, hf, hz, hB⟩ := res_cells (hb.trans hb2) hl
    clear hb hb2
    go_wp2
    refine bodyPost_ret (v := VV 4 0 t) (by simp [results, Try.results49, go_sem, k0, k1, k2]) rfl ⟨4, 0, t, rfl, okV_bytes t ht, ⟨by omega, by omega⟩, ht, ?_, ?_⟩
    · repeat (first | exact hs2.mono (by omega) | refine Src.res ?_ hl _ _ HC.out)
    · repeat (first | exact hB | refine But.res ?_ _ _)

end Go.Proofs.Ytfkenogbfbbbjaa
