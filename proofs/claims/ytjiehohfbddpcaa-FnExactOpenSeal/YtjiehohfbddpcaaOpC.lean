/- What impl.OpenSeal answers. -/
import Derived.Test.YtjiehohfbddpcaaOpB
namespace Go.Proofs.Ytjiehohfbddpcaa
open Go.RowKit

/-- What is wrong with a seal ahead of its sum. -/
def opB (l : List UInt8) : Prop := l.length < 10 ∨ l.take 2 ≠ [66, 75] ∨ (numOf ((l.drop 2).take 4) : Int) ≠ (l.length : Int) - 10
instance (l : List UInt8) : Decidable (opB l) := by unfold opB; infer_instance
/-- Is the sum right? -/
def opS (l : List UInt8) : Prop := low4 (sumL ((l.drop 0).take (l.length - 4))) = (l.drop (l.length - 4)).take 4
instance (l : List UInt8) : Decidable (opS l) := by unfold opS; infer_instance
def opC (l : List UInt8) : Int := if 65536 < l.length then 2 else if opB l then 3 else if opS l then 0 else 8
def opL (l : List UInt8) : List UInt8 := if 65536 < l.length then [] else if opB l then [] else if opS l then (l.drop 6).take (l.length - 10) else []

theorem opC_long {l : List UInt8} {n : Nat} (hl : Hid (l.length = n)) (h : 65536 < n) : opC l = 2 ∧ opL l = [] := by
  unfold opC opL; rw [hl.out, if_pos h, if_pos h]; exact ⟨rfl, rfl⟩
theorem opC_bad {l : List UInt8} {n : Nat} (hl : Hid (l.length = n)) (h : ¬ 65536 < n) (hb : opB l) : opC l = 3 ∧ opL l = [] := by
  unfold opC opL; rw [hl.out, if_neg h, if_neg h, if_pos hb, if_pos hb]; exact ⟨rfl, rfl⟩
theorem opC_sum {l : List UInt8} {n : Nat} (hl : Hid (l.length = n)) (h : ¬ 65536 < n) (hb : ¬ opB l) (hs : ¬ opS l) : opC l = 8 ∧ opL l = [] := by
  unfold opC opL; rw [hl.out, if_neg h, if_neg h, if_neg hb, if_neg hb, if_neg hs, if_neg hs]; exact ⟨rfl, rfl⟩
theorem opC_ok {l : List UInt8} {n : Nat} (hl : Hid (l.length = n)) (h : ¬ 65536 < n) (hb : ¬ opB l) (hs : opS l) : opC l = 0 ∧ opL l = (l.drop 6).take (n - 10) := by
  have hl' := hl.out
  unfold opC opL
  simp [hl', h, hb, hs]

abbrev OpP (l : List UInt8) (w : World) : Ending → World → Prop := fun e w' => ∃ v', e = .returned (.tuple #[v', .int .i64 (opC l)]) ∧ OwnZ w' w.heap.size v' (opL l) ∧ Below w.heap.size w w'

set_option maxRecDepth 100000 in
set_option maxHeartbeats 4000000 in
theorem implOpen_short (b off c n : Nat) (l : List UInt8) (w : World) (hl : Hid (l.length = n)) (hn : n ≤ 1048576) (hx : 65536 < n ∨ n < 10) :
    Calls Try.prog 12 #[.slice (some ⟨b, off, none⟩) n c] w (OpP l w) := by
  by_cases h1 : 65536 < n
  · obtain ⟨e1, e2⟩ := opC_long hl h1
    unfold OpP
    rw [e1, e2]
    have h1I : (65536 : Int) < (n : Int) := by omega
    clear e1 e2
    go_enter Try.func12, Try.ntmps12
    go_wp2
    exact bodyPost_ret (v := .tuple #[.slice none 0 0, .int .i64 2]) (by simp [results, Try.results12, go_sem]) rfl ⟨_, rfl, .inr ⟨rfl, _, rfl⟩, Below.refl _ _⟩
  · have h2 : n < 10 := by omega
    obtain ⟨e1, e2⟩ := opC_bad hl h1 (.inl (by rw [hl.out]; exact h2))
    unfold OpP
    rw [e1, e2]
    have h1I : ¬ (65536 : Int) < (n : Int) := by omega
    have h2I : (n : Int) < 10 := by omega
    clear e1 e2
    go_enter Try.func12, Try.ntmps12
    go_wp2
    exact bodyPost_ret (v := .tuple #[.slice none 0 0, .int .i64 3]) (by simp [results, Try.results12, go_sem]) rfl ⟨_, rfl, .inr ⟨rfl, _, rfl⟩, Below.refl _ _⟩

set_option maxRecDepth 100000 in
set_option maxHeartbeats 4000000 in
theorem implOpen_bad (b off c n : Nat) (l : List UInt8) (w : World) (h : ReadL w (some ⟨b, off, none⟩) l) (hl : Hid (l.length = n)) (hn : n ≤ 65536) (h10 : 10 ≤ n) (hnc : n ≤ c) (hcm : c ≤ 1048576) (hb : opB l) :
    Calls Try.prog 12 #[.slice (some ⟨b, off, none⟩) n c] w (OpP l w) := by
  obtain ⟨e1, e2⟩ := opC_bad hl (by omega) hb
  unfold OpP
  rw [e1, e2]
  have h1I : ¬ (65536 : Int) < (n : Int) := by omega
  have h2I : ¬ (n : Int) < 10 := by omega
  have h3I : (6 : Int) ≤ (c : Int) := by omega
  have hcv := bk_run w w.heap.size rfl
  obtain ⟨w2, hw2⟩ : ∃ w2, w.alloc (.cells bkC 5 (2, 3)) = w2 := ⟨_, rfl⟩
  have B2 : Hid (Below w.heap.size w w2) := by rw [← hw2]; exact (Below.refl _ _).alloc (Nat.le_refl _) _
  have R2 : ReadL w2 (some ⟨w.heap.size, 0, none⟩) [66, 75] := by rw [← hw2]; exact bk_read w _ rfl
  have HP := hasPrefix_n b off c n w.heap.size l w2 (h.below B2.out) hl (by omega) hnc hcm R2
  rw [hw2] at hcv
  have hL4 := sub_len l 2 4 (by rw [hl.out]; omega)
  have hc4 := conv_n w2 b (off + 2) (c - 2) 4 _ ((h.below B2.out).sub 2 4 (by rw [hl.out]; omega)) hL4
  have HN := numberOf_any (tx ((l.drop 2).take 4)) w2 (by rw [tx_size, hL4]; omega)
  rw [tx_list] at HN
  by_cases hp : l.take 2 = [66, 75]
  · rw [decide_eq_true hp] at HP
    have hne : ¬ ((numOf ((l.drop 2).take 4) : Int) = (n : Int) - 10) := by
      rcases hb with h | h | h
      · rw [hl.out] at h; omega
      · exact absurd hp h
      · rw [hl.out] at h; exact h
    generalize (numOf ((l.drop 2).take 4) : Int) = x at *
    generalize tx ((l.drop 2).take 4) = t at *
    clear e1 e2 hw2 R2 h hb hL4 hp hl
    go_enter Try.func12, Try.ntmps12
    go_wp2_with fail
    refine HP.mono ?_
    rintro e w' ⟨rfl, e'⟩
    obtain rfl := e'.symm
    clear e' HP hcv
    go_wp2_with fail
    refine HN.mono ?_
    rintro e w' ⟨rfl, e'⟩
    obtain rfl := e'.symm
    clear e' HN hc4
    go_wp2
    exact bodyPost_ret (v := .tuple #[.slice none 0 0, .int .i64 3]) (by simp [results, Try.results12, go_sem]) rfl ⟨_, rfl, .inr ⟨rfl, _, rfl⟩, B2.out⟩
  · rw [decide_eq_false hp] at HP
    clear e1 e2 hw2 R2 h hb hL4 hp hl HN hc4
    go_enter Try.func12, Try.ntmps12
    go_wp2_with fail
    refine HP.mono ?_
    rintro e w' ⟨rfl, e'⟩
    obtain rfl := e'.symm
    clear e' HP hcv
    go_wp2
    exact bodyPost_ret (v := .tuple #[.slice none 0 0, .int .i64 3]) (by simp [results, Try.results12, go_sem]) rfl ⟨_, rfl, .inr ⟨rfl, _, rfl⟩, B2.out⟩
end Go.Proofs.Ytjiehohfbddpcaa
