/- What spec.ReadRow answers: what impl.ReadRow answers. -/
import Derived.Test.YtfkenogbfbbbjaaRdI
namespace Go.Proofs.Ytfkenogbfbbbjaa
open Go.RowKit

theorem own_mono {w : World} {B B' e m n : Nat} {v : Value} {xs : List Value} (h : w.ownsRow B' e m v n xs) (hB : B ≤ B') : w.ownsRow B e m v n xs := by
  refine ⟨h.1, ?_⟩
  rcases h.2 with h | ⟨g, cap, cur, e1, e2, r⟩
  · exact .inl h
  · exact .inr ⟨g, cap, cur, e1, Nat.le_trans hB e2, r⟩

set_option maxRecDepth 100000 in
set_option maxHeartbeats 4000000 in
/-- The row of no bytes at all. -/
theorem row_zero (rb b off c : Nat) (f : Nat → Int) (w : World) (h : Rdr w rb (some ⟨b, off, none⟩) 0 c (0, false)) (hne : b ≠ rb) :
    Calls Try.prog 74 #[.pointer (some ⟨rb, 0, none⟩)] w fun e w' => ∃ v, e = .returned v ∧ Rdr w' rb (some ⟨b, off, none⟩) 0 c (0, true) ∧ But rb w w' := by
  have HR : Hid (Rdr w rb (some ⟨b, off, none⟩) 0 c (0, false)) := h
  have hrb := h.lt
  have HE : Hid (oneR f 0 (0, false) = (0, 0, true)) := oneR_end f (Nat.le_refl _)
  clear h
  have hA0 : But rb w (w.alloc (.cells #[] 24)) := but_alloc (But.refl _ _) _
  go_enter Try.func74, Try.ntmps74
  go_wp2_with fail
  refine (one_any rb (some ⟨b, off, none⟩) 0 c f (0, false) _ (HR.out.below ((Below.refl _ _).alloc (Nat.le_refl _) _)) (fun i hi => by omega) (fun i hi => by omega) (fun p e => by cases e; exact hne) (by omega) (by simp)).mono ?_
  rintro e w1 ⟨rfl, hR1, hB1⟩
  rw [HE.out] at hR1 ⊢
  have hB1' := hA0.trans hB1
  have HR1 : Hid (Rdr w1 rb (some ⟨b, off, none⟩) 0 c (0, true)) := hR1
  have hcb := hR1.c2
  clear hR1
  go_wp2
  refine wp_loop_rounds 1 ?_
  rw [rounds_succ]
  go_wp2_with fail
  refine (l01Row_any _ _ [] w1 (fun i hi => by simp at hi) (by simp)).mono ?_
  rintro e w2 ⟨rfl, hb2⟩
  have hk : okRow [] = true := by decide
  rw [hk]
  go_wp2
  go_ret
  exact ⟨_, rfl, HR1.out.below hb2, hB1'.trans (But.of_below hb2)⟩

set_option maxRecDepth 100000 in
set_option maxHeartbeats 4000000 in
theorem specReadRow_any (b off c n : Nat) (f : Nat → Int) (w : World) (h : ReadB w (some ⟨b, off, none⟩) n f) (hb : b < w.heap.size) (hf : Bys f n) (hc : n ≤ c) (hn : n ≤ 1048576) :
    Calls Try.prog 43 #[.slice (some ⟨b, off, none⟩) n c] w (RetW w (rowR f n)) := by
  have HB : Hid (ReadB w (some ⟨b, off, none⟩) n f) := h
  have HF : Hid (Bys f n) := hf
  clear h hf
  by_cases h1 : 65536 < n
  · have E : Hid (rowR f n = (2, [])) := by show _ = _; unfold rowR; rw [if_pos h1]
    go_enter Try.func43, Try.ntmps43
    go_wp2
    go_ret2
    rw [E.out]
    exact ⟨_, rfl, own_none (Nat.le_refl _), (Below.refl _ _).alloc (Nat.le_refl _) _⟩
  have q2 : ¬ (65536 : Int) < n := by omega
  have A0 : Below w.heap.size w (w.alloc (.cells #[.slice (some ⟨b, off, none⟩) n c, .int .i64 0, .bool false] 85)) := (Below.refl _ _).alloc (Nat.le_refl _) _
  have HR0 : Hid (Rdr (w.alloc (.cells #[.slice (some ⟨b, off, none⟩) n c, .int .i64 0, .bool false] 85)) w.heap.size (some ⟨b, off, none⟩) n c (0, false)) := by
    show (w.heap.push _)[w.heap.size]? = _
    simp
  have hne : b ≠ w.heap.size := by omega
  by_cases h2 : n = 0
  · have E : Hid (rowR f n = (3, [])) := by show _ = _; unfold rowR; rw [if_neg h1, if_pos h2]
    subst h2
    go_enter Try.func43, Try.ntmps43
    go_wp2_with fail
    refine (row_zero w.heap.size b off c f _ HR0.out hne).mono ?_
    rintro e w1 ⟨v, rfl, hR1, hB1⟩
    have y1 := hR1.c1
    have y2 := hR1.c2
    have hb1 : Below w.heap.size w w1 := hB1.below A0 (Nat.le_refl _) A0.size
    go_wp2
    go_ret2
    rw [E.out]
    exact ⟨_, rfl, own_none hb1.size, hb1.alloc hb1.size _⟩
  · go_enter Try.func43, Try.ntmps43
    go_wp2_with fail
    refine (row_any w.heap.size b off n c f _ HR0.out (HB.out.below A0) HF.out hne (by omega) (by omega) hc).mono ?_
    rintro e w1 ⟨v, vs, s, rfl, hown, hvs, hR1, hE, hB1⟩
    have HE : Hid (rowR f n = if s.2 = false ∧ s.1 = n then (0, vs) else (3, [])) := hE
    have HO : Hid (w1.ownsRow w.heap.size 24 3 v vs.length (cells3 vs)) := own_mono hown A0.size
    have y1 := hR1.c1
    have y2 := hR1.c2
    have hb1 : Below w.heap.size w w1 := hB1.below A0 (Nat.le_refl _) A0.size
    obtain ⟨o, bad⟩ := s
    simp only at y1 y2
    clear hE hown hR1 hB1
    cases bad with
    | true =>
      have E : Hid (rowR f n = (3, [])) := by show _ = _; rw [HE.out, if_neg (fun x => by cases x.1)]
      go_wp2
      go_ret2
      rw [E.out]
      exact ⟨_, rfl, own_none hb1.size, hb1.alloc hb1.size _⟩
    | false =>
      by_cases ho : o = n
      · subst ho
        have E : Hid (rowR f o = (0, vs)) := by show _ = _; rw [HE.out, if_pos ⟨rfl, rfl⟩]
        go_wp2
        go_ret2
        rw [E.out]
        exact ⟨_, rfl, HO.out, hb1⟩
      · have E : Hid (rowR f n = (3, [])) := by show _ = _; rw [HE.out, if_neg (fun x => ho x.2)]
        have hoI : ¬ (o : Int) = (n : Int) := by omega
        go_wp2
        go_ret2
        rw [E.out]
        exact ⟨_, rfl, own_none hb1.size, hb1.alloc hb1.size _⟩
end Go.Proofs.Ytfkenogbfbbbjaa
