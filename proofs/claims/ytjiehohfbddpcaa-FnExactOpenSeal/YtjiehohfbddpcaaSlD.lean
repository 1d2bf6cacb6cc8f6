/- What impl.SealBytes answers. -/
import Derived.Test.YtjiehohfbddpcaaSlC
namespace Go.Proofs.Ytjiehohfbddpcaa
open Go.RowKit

/-- A seal ahead of its sum, and whole. -/
def sealB (l : List UInt8) : List UInt8 := [66, 75] ++ num4 l.length ++ l
def sealL (l : List UInt8) : List UInt8 := sealB l ++ low4 (sumL (sealB l))
theorem sealB_len (l : List UInt8) : (sealB l).length = l.length + 6 := by
  unfold sealB
  rw [List.length_append, List.length_append, num4_len]
  show 2 + 4 + _ = _
  omega
theorem low4_len (n : Int) : (low4 n).length = 4 := rfl
theorem sealL_len (l : List UInt8) : (sealL l).length = l.length + 10 := by
  unfold sealL
  rw [List.length_append, sealB_len, low4_len]

/-- What a writer that has something holds. -/
theorem WrS.some {w : World} {B g : Nat} {l : List UInt8} (h : WrS w B g l) (hl : l ≠ []) : B ≤ g ∧ ∃ v, w.heap[g]? = some (.cells #[v] 30 (0, 0)) ∧ OwnL w B v l := by
  obtain ⟨hB, v, hh, ⟨_, e⟩ | ho⟩ := h
  · exact absurd e hl
  · exact ⟨hB, v, hh, ho⟩
abbrev bkC : Array Value := #[.int .u8 66, .int .u8 75]
/-- The mark's two bytes: their block is marked behind its end. -/
theorem bk_run (w : World) (g : Nat) (hg : g = w.heap.size) : (convert 22 22 (.slice (some ⟨g, 0, none⟩) 2 2)).run Try.prog (w.alloc (.cells bkC 5)) = .ok (.slice (some ⟨g, 0, none⟩) 2 2) (w.alloc (.cells bkC 5 (2, 3))) :=
  Joins.run_convert_bytes_const_at w 22 5 bkC 2 2 g hg Try.underlying22 Try.underlying5
theorem bk_own (w : World) (B : Nat) (hB : B ≤ w.heap.size) : OwnL (w.alloc (.cells bkC 5 (2, 3))) B (.slice (some ⟨w.heap.size, 0, none⟩) 2 2) [66, 75] := by
  refine ⟨w.heap.size, 2, bkC, (2, 3), rfl, hB, heap_new' _ _ _ rfl, .inr (Nat.le_refl _), Nat.le_refl _, by unfold maxLen; omega, rfl, fun i hi => ?_⟩
  have hi : i < 2 := hi
  rcases (by omega : i = 0 ∨ i = 1) with rfl | rfl <;> rfl
theorem bk_read (w : World) (g : Nat) (hg : g = w.heap.size) : ReadL (w.alloc (.cells bkC 5 (2, 3))) (some ⟨g, 0, none⟩) [66, 75] := by
  subst hg
  obtain ⟨g, cap, e, _, hr⟩ := (bk_own w 0 (Nat.zero_le _)).read
  cases e
  exact hr

set_option maxRecDepth 100000 in
set_option maxHeartbeats 4000000 in
theorem implSeal_any (b off c n : Nat) (l : List UInt8) (w : World) (h : ReadL w (some ⟨b, off, none⟩) l) (hl : Hid (l.length = n)) (hn : n ≤ 65526) :
    Calls Try.prog 7 #[.slice (some ⟨b, off, none⟩) n c] w fun e w' => ∃ v', e = .returned (.tuple #[v', .int .i64 0]) ∧ OwnL w' w.heap.size v' (sealL l) ∧ Below w.heap.size w w' := by
  have HR : Hid (ReadL w (some ⟨b, off, none⟩) l) := h
  have hnI : ¬ (65526 : Int) < (n : Int) := by omega
  have W1 : Hid (WrS (w.alloc (.cells #[.slice none 0 0] 30)) w.heap.size w.heap.size []) := ⟨Nat.le_refl _, _, heap_new' w _ _ rfl, .inl ⟨rfl, rfl⟩⟩
  have B1 : Hid (Below w.heap.size w (w.alloc (.cells #[.slice none 0 0] 30))) := (Below.refl _ _).alloc (Nat.le_refl _) _
  have hcv := bk_run (w.alloc (.cells #[.slice none 0 0] 30)) (w.heap.size + 1) (by simp)
  obtain ⟨w2, hw2⟩ : ∃ w2, (w.alloc (.cells #[.slice none 0 0] 30)).alloc (.cells bkC 5 (2, 3)) = w2 := ⟨_, rfl⟩
  have W2 : Hid (WrS w2 w.heap.size w.heap.size []) := by rw [← hw2]; exact W1.out.below ((Below.refl _ _).alloc (Nat.le_refl _) _)
  have B2 : Hid (Below w.heap.size w w2) := by rw [← hw2]; exact B1.out.alloc B1.out.size _
  have R2 : Hid (ReadL w2 (some ⟨w.heap.size + 1, 0, none⟩) [66, 75]) := by rw [← hw2]; exact bk_read _ _ (by simp)
  rw [hw2] at hcv
  clear h W1 B1 hw2
  have HL0 : Hid ((sealB l).length = n + 6) := by show _ = _; rw [sealB_len, hl.out]
  go_enter Try.func7, Try.ntmps7
  go_wp2_with fail
  refine (write_n w.heap.size (w.heap.size + 1) 0 2 2 [] [66, 75] w.heap.size w2 W2.out R2.out rfl (by simp) (by simp)).mono ?_
  rintro e w3 ⟨rfl, W3, b3⟩
  have W3 : Hid (WrS w3 w.heap.size w.heap.size [66, 75]) := W3
  have B3 : Hid (Below w.heap.size w w3) := B2.out.trans b3
  clear hcv W2 B2 R2 b3
  go_wp2_with fail
  refine (writeNumber_any w.heap.size _ n w.heap.size w3 W3.out (by simp)).mono ?_
  rintro e w4 ⟨rfl, W4, b4⟩
  have W4 : Hid (WrS w4 w.heap.size w.heap.size ([66, 75] ++ num4 n)) := W4
  have B4 : Hid (Below w.heap.size w w4) := B3.out.trans b4
  clear W3 B3 b4
  go_wp2_with fail
  refine (write_n w.heap.size b off c n _ l w.heap.size w4 W4.out (HR.out.below B4.out) hl (by simp [num4_len]; omega) (by simp [num4_len]; omega)).mono ?_
  rintro e w5 ⟨rfl, W5, b5⟩
  have e5 : [66, 75] ++ num4 n ++ l = sealB l := by unfold sealB; rw [hl.out]
  rw [e5] at W5
  have B5 : Hid (Below w.heap.size w w5) := B4.out.trans b5
  clear W4 B4 b5 e5
  obtain ⟨hB, v5, hh5, o5⟩ := WrS.some W5 (by intro e; have := HL0.out; rw [e] at this; simp at this)
  obtain ⟨c5, _⟩ := one_facts hh5
  have W5' : Hid (WrS w5 w.heap.size w.heap.size (sealB l)) := W5
  obtain ⟨g5, n5, cap5, rfl, HN5, _, HR5⟩ := o5.open
  have hn5 : Hid (n5 = n + 6) := by show _ = _; rw [← HN5.out, HL0.out]
  clear o5 hh5 W5 hB
  go_wp2_with fail
  refine (sealSum_any (some ⟨g5, 0, none⟩) cap5 n5 _ w5 HR5.out HN5 (by have := hn5.out; omega)).mono ?_
  rintro e w6 ⟨v6, rfl, o6, b6⟩
  have W6 : Hid (WrS w6 w.heap.size w.heap.size (sealB l)) := W5'.out.below b6
  have B6 : Hid (Below w.heap.size w w6) := B5.out.trans (b6.mono B5.out.size)
  obtain ⟨g6, n6, cap6, rfl, HN6, _, HR6⟩ := o6.open
  have hn6 : Hid (n6 = 4) := by show _ = _; rw [← HN6.out, low4_len]
  clear o6 b6 W5' B5 c5
  go_wp2_with fail
  refine (write_n w.heap.size g6 0 cap6 n6 _ _ w.heap.size w6 W6.out HR6.out HN6 (by have := hn6.out; omega) (by have := hn6.out; rw [HL0.out]; omega)).mono ?_
  rintro e w7 ⟨rfl, W7, b7⟩
  have W7 : WrS w7 w.heap.size w.heap.size (sealL l) := W7
  have B7 : Hid (Below w.heap.size w w7) := B6.out.trans b7
  obtain ⟨hB, v7, hh7, o7⟩ := WrS.some W7 (by intro e; have := sealL_len l; rw [e] at this; simp at this)
  obtain ⟨c7, _⟩ := one_facts hh7
  have O7 : Hid (OwnL w7 w.heap.size v7 (sealL l)) := o7
  clear W6 B6 b7 W7 hB hh7 o7
  go_wp2
  exact bodyPost_ret (v := .tuple #[v7, .int .i64 0]) (by simp [results, Try.results7, go_sem]) rfl ⟨v7, rfl, O7.out, B7.out⟩
end Go.Proofs.Ytjiehohfbddpcaa
