/- How impl reads a cell of a row. -/
import Derived.Test.YtfkenogbfbbbjaaRdA
namespace Go.Proofs.Ytfkenogbfbbbjaa
open Go.RowKit

/-- What a cell begins with tells: its value, and how many bytes; 0 of none. -/
def cellRd (T : (Nat → Int) → Nat → ByteArray × Int) (f : Nat → Int) (n : Nat) : V3 × Int :=
  if f 0 = 0 then ((0, 0, ⟨#[]⟩), 1)
  else if f 0 = 1 then (if 1 < n ∧ f 1 ≤ 1 then ((1, f 1, ⟨#[]⟩), 2) else ((0, 0, ⟨#[]⟩), 0))
  else if f 0 = 2 then (if 8 < n then ((2, int8 (fun i => f (1 + i)), ⟨#[]⟩), 9) else ((0, 0, ⟨#[]⟩), 0))
  else if f 0 = 3 ∨ f 0 = 4 then
    (if 0 < (T (fun i => f (1 + i)) (n - 1)).2 ∧ (T (fun i => f (1 + i)) (n - 1)).1.size ≤ 60 then ((f 0, 0, (T (fun i => f (1 + i)) (n - 1)).1), 1 + (T (fun i => f (1 + i)) (n - 1)).2) else ((0, 0, ⟨#[]⟩), 0))
  else ((0, 0, ⟨#[]⟩), 0)
abbrev RetC (w : World) (p : V3 × Int) (e : Ending) (w' : World) : Prop := e = .returned (.tuple #[VV p.1.1 p.1.2.1 p.1.2.2, .int .i64 p.2]) ∧ Below w.heap.size w w'
set_option maxRecDepth 100000 in
set_option maxHeartbeats 2000000 in
theorem readCell_null (a : Option Addr) (c n : Nat) (f : Nat → Int) (w : World) (h : ReadB w a n f) (h1 : 1 ≤ n) (h2 : f 0 = 0) :
    Calls Try.prog 59 #[.slice a n c, .func (Fn.func 97) #[] #[]] w (RetC w (cellRd rowTx f n)) := by
  have hnz : ((n : Int) == 0) = false := beq_eq_false_iff_ne.mpr (by omega)
  obtain ⟨b, off, rfl, hlt, hc0⟩ := h 0 (by omega)
  simp only [Nat.add_zero, h2] at hc0
  have E : Hid (cellRd rowTx f n = ((0, 0, ⟨#[]⟩), 1)) := by show _ = _; unfold cellRd; rw [if_pos h2]
  clear h
  go_enter Try.func59, Try.ntmps59
  go_wp2
  refine ⟨rfl, .tuple #[VV 0 0 ⟨#[]⟩, .int .i64 1], by simp [results, Try.f59, go_sem], ?_⟩
  rw [E.out]
  exact ⟨rfl, (Below.refl _ _).alloc (Nat.le_refl _) _⟩

set_option maxRecDepth 100000 in
set_option maxHeartbeats 2000000 in
theorem readCell_bool (a : Option Addr) (c n : Nat) (f : Nat → Int) (w : World) (h : ReadB w a n f) (hf : Bys f n) (h1 : 1 ≤ n) (h2 : f 0 = 1) :
    Calls Try.prog 59 #[.slice a n c, .func (Fn.func 97) #[] #[]] w (RetC w (cellRd rowTx f n)) := by
  have HR : Hid (ReadB w a n f) := h
  have hnz : ((n : Int) == 0) = false := beq_eq_false_iff_ne.mpr (by omega)
  obtain ⟨b, off, rfl, hlt, hc0⟩ := h 0 (by omega)
  simp only [Nat.add_zero, h2] at hc0
  have B0 : Below w.heap.size w (w.alloc (.cells #[.int .i64 0, .int .i64 0, .string ⟨#[]⟩] 24)) := (Below.refl _ _).alloc (Nat.le_refl _) _
  by_cases h3 : 1 < n
  · obtain ⟨b', off', e, _, hc1⟩ := h 1 h3
    cases e
    obtain ⟨v0, v1⟩ := hf 1 h3
    by_cases h4 : f 1 ≤ 1
    · have E : Hid (cellRd rowTx f n = ((1, f 1, ⟨#[]⟩), 2)) := by show _ = _; unfold cellRd; rw [if_neg (by omega), if_pos h2, if_pos ⟨h3, h4⟩]
      generalize f 1 = v at *
      clear h hf HR
      go_enter Try.func59, Try.ntmps59
      go_wp2
      refine ⟨rfl, .tuple #[VV 1 v ⟨#[]⟩, .int .i64 2], by simp [results, Try.f59, go_sem], ?_⟩
      rw [E.out]
      exact ⟨rfl, (Below.refl _ _).alloc (Nat.le_refl _) _⟩
    · have E : Hid (cellRd rowTx f n = ((0, 0, ⟨#[]⟩), 0)) := by show _ = _; unfold cellRd; rw [if_neg (by omega), if_pos h2, if_neg (fun x => h4 x.2)]
      generalize f 1 = v at *
      clear h hf HR
      go_enter Try.func59, Try.ntmps59
      go_wp2
      refine ⟨rfl, .tuple #[VV 0 0 ⟨#[]⟩, .int .i64 0], by simp [results, Try.f59, go_sem], ?_⟩
      rw [E.out]
      exact ⟨rfl, (Below.refl _ _).alloc (Nat.le_refl _) _⟩
  · have E : Hid (cellRd rowTx f n = ((0, 0, ⟨#[]⟩), 0)) := by show _ = _; unfold cellRd; rw [if_neg (by omega), if_pos h2, if_neg (fun x => h3 x.1)]
    clear h hf HR
    go_enter Try.func59, Try.ntmps59
    go_wp2
    refine ⟨rfl, .tuple #[VV 0 0 ⟨#[]⟩, .int .i64 0], by simp [results, Try.f59, go_sem], ?_⟩
    rw [E.out]
    exact ⟨rfl, (Below.refl _ _).alloc (Nat.le_refl _) _⟩

set_option maxRecDepth 100000 in
set_option maxHeartbeats 2000000 in
theorem readCell_int (a : Option Addr) (c n : Nat) (f : Nat → Int) (w : World) (h : ReadB w a n f) (hf : Bys f n) (h1 : 1 ≤ n) (hc : n ≤ c) (h2 : f 0 = 2) :
    Calls Try.prog 59 #[.slice a n c, .func (Fn.func 97) #[] #[]] w (RetC w (cellRd rowTx f n)) := by
  have hnz : ((n : Int) == 0) = false := beq_eq_false_iff_ne.mpr (by omega)
  obtain ⟨b, off, rfl, hlt, hc0⟩ := h 0 (by omega)
  simp only [Nat.add_zero, h2] at hc0
  by_cases h3 : 8 < n
  · have E : Hid (cellRd rowTx f n = ((2, int8 (fun i => f (1 + i)), ⟨#[]⟩), 9)) := by show _ = _; unfold cellRd; rw [if_neg (by omega), if_neg (by omega), if_pos h2, if_pos h3]
    have B0 : Below w.heap.size w (w.alloc (.cells #[.int .i64 0, .int .i64 0, .string ⟨#[]⟩] 24)) := (Below.refl _ _).alloc (Nat.le_refl _) _
    have HR : Hid (ReadB w (some ⟨b, off + 1, none⟩) 8 (fun i => f (1 + i))) := fun i hi => (h.cut (k := 1) rfl) i (by omega)
    have HF : Hid (Bys (fun i => f (1 + i)) 8) := fun i hi => hf (1 + i) (by omega)
    have hc1 : ¬ c = 1 := by omega
    clear h hf
    go_enter Try.func59, Try.ntmps59
    go_wp2_with fail
    refine (readInt_any _ _ _ _ (HR.out.below B0) HF.out).mono ?_
    rintro e w1 ⟨rfl, rfl⟩
    generalize int8 (fun i => f (1 + i)) = v at *
    go_wp2
    refine ⟨rfl, .tuple #[VV 2 v ⟨#[]⟩, .int .i64 9], by simp [results, Try.f59, go_sem], ?_⟩
    rw [E.out]
    exact ⟨rfl, (Below.refl _ _).alloc (Nat.le_refl _) _⟩
  · have E : Hid (cellRd rowTx f n = ((0, 0, ⟨#[]⟩), 0)) := by show _ = _; unfold cellRd; rw [if_neg (by omega), if_neg (by omega), if_pos h2, if_neg h3]
    clear h hf
    go_enter Try.func59, Try.ntmps59
    go_wp2
    refine ⟨rfl, .tuple #[VV 0 0 ⟨#[]⟩, .int .i64 0], by simp [results, Try.f59, go_sem], ?_⟩
    rw [E.out]
    exact ⟨rfl, (Below.refl _ _).alloc (Nat.le_refl _) _⟩

set_option maxRecDepth 100000 in
set_option maxHeartbeats 2000000 in
theorem readCell_text (k : Int) (a : Option Addr) (c n : Nat) (f : Nat → Int) (w : World) (h : ReadB w a n f) (hf : Bys f n) (h1 : 1 ≤ n) (hc : n ≤ c) (hn : n ≤ 65536) (h2 : f 0 = k) (hk : k = 3 ∨ k = 4) :
    Calls Try.prog 59 #[.slice a n c, .func (Fn.func 97) #[] #[]] w (RetC w (cellRd rowTx f n)) := by
  have hnz : ((n : Int) == 0) = false := beq_eq_false_iff_ne.mpr (by omega)
  obtain ⟨b, off, rfl, hlt, hc0⟩ := h 0 (by omega)
  simp only [Nat.add_zero, h2] at hc0
  have B0 : Below w.heap.size w (w.alloc (.cells #[.int .i64 0, .int .i64 0, .string ⟨#[]⟩] 24)) := (Below.refl _ _).alloc (Nat.le_refl _) _
  have HF : Hid (Bys (fun i => f (1 + i)) (n - 1)) := fun i hi => hf (1 + i) (by omega)
  have HE : Hid (cellRd rowTx f n = if 0 < (rowTx (fun i => f (1 + i)) (n - 1)).2 ∧ (rowTx (fun i => f (1 + i)) (n - 1)).1.size ≤ 60 then ((k, 0, (rowTx (fun i => f (1 + i)) (n - 1)).1), 1 + (rowTx (fun i => f (1 + i)) (n - 1)).2) else ((0, 0, ⟨#[]⟩), 0)) := by
    show _ = _; unfold cellRd; rw [if_neg (by omega), if_neg (by omega), if_neg (by omega), if_pos (by omega), h2]
  have HZ : Hid ((rowTx (fun i => f (1 + i)) (n - 1)).2 ≤ 65536) := by
    show _ ≤ _
    unfold rowTx
    split
    · rename_i hh
      have := hh.2
      simp only at this ⊢
      omega
    · simp
  have HR : Hid (ReadB w (some ⟨b, off + 1, none⟩) (n - 1) (fun i => f (1 + i))) := h.cut (k := 1) rfl
  clear h hf
  by_cases hc1 : c = 1
  · obtain rfl : n = 1 := by omega
    subst hc1
    have E : Hid (cellRd rowTx f 1 = ((0, 0, ⟨#[]⟩), 0)) := by
      show _ = _
      rw [HE.out]
      simp [rowTx]
    have T0 : Hid (rowTx (fun i => f (1 + i)) 0 = (⟨#[]⟩, 0)) := by show _ = _; unfold rowTx; rw [if_neg (by omega)]
    rcases hk with rfl | rfl
    all_goals
      go_enter Try.func59, Try.ntmps59
      go_wp2_with fail
      refine (readRowText_any _ _ 0 (fun i => f (1 + i)) _ (fun i hi => by omega) (fun i hi => by omega) (by omega) (by omega)).mono ?_
      rintro e w1 ⟨rfl, rfl⟩
      rw [T0.out]
      go_wp2
      refine ⟨rfl, .tuple #[VV 0 0 ⟨#[]⟩, .int .i64 0], by simp [results, Try.f59, go_sem], ?_⟩
      rw [E.out]
      exact ⟨rfl, (Below.refl _ _).alloc (Nat.le_refl _) _⟩
  · generalize hT : rowTx (fun i => f (1 + i)) (n - 1) = T at HE HZ
    have T0 : Hid (rowTx (fun i => f (1 + i)) (n - 1) = T) := hT
    clear hT
    obtain ⟨t, z⟩ := T
    have hz := HZ.out
    simp only at hz
    by_cases h5 : 0 < z
    · by_cases h6 : t.size ≤ 60
      · have E : Hid (cellRd rowTx f n = ((k, 0, t), 1 + z)) := by show _ = _; rw [HE.out, if_pos ⟨h5, h6⟩]
        rcases hk with rfl | rfl
        · go_enter Try.func59, Try.ntmps59
          go_wp2_with fail
          refine (readRowText_any _ _ (n - 1) (fun i => f (1 + i)) _ (HR.out.below B0) HF.out (by omega) (by omega)).mono ?_
          rintro e w1 ⟨rfl, rfl⟩
          rw [T0.out]
          go_wp2
          refine ⟨rfl, .tuple #[VV 3 0 t, .int .i64 (1 + z)], by simp [results, Try.f59, go_sem], ?_⟩
          rw [E.out]
          exact ⟨rfl, (Below.refl _ _).alloc (Nat.le_refl _) _⟩
        · go_enter Try.func59, Try.ntmps59
          go_wp2_with fail
          refine (readRowText_any _ _ (n - 1) (fun i => f (1 + i)) _ (HR.out.below B0) HF.out (by omega) (by omega)).mono ?_
          rintro e w1 ⟨rfl, rfl⟩
          rw [T0.out]
          go_wp2
          refine ⟨rfl, .tuple #[VV 4 0 t, .int .i64 (1 + z)], by simp [results, Try.f59, go_sem], ?_⟩
          rw [E.out]
          exact ⟨rfl, (Below.refl _ _).alloc (Nat.le_refl _) _⟩
      · have E : Hid (cellRd rowTx f n = ((0, 0, ⟨#[]⟩), 0)) := by show _ = _; rw [HE.out, if_neg (fun x => h6 x.2)]
        rcases hk with rfl | rfl
        all_goals
          go_enter Try.func59, Try.ntmps59
          go_wp2_with fail
          refine (readRowText_any _ _ (n - 1) (fun i => f (1 + i)) _ (HR.out.below B0) HF.out (by omega) (by omega)).mono ?_
          rintro e w1 ⟨rfl, rfl⟩
          rw [T0.out]
          go_wp2
          refine ⟨rfl, .tuple #[VV 0 0 ⟨#[]⟩, .int .i64 0], by simp [results, Try.f59, go_sem], ?_⟩
          rw [E.out]
          exact ⟨rfl, (Below.refl _ _).alloc (Nat.le_refl _) _⟩
    · have E : Hid (cellRd rowTx f n = ((0, 0, ⟨#[]⟩), 0)) := by show _ = _; rw [HE.out, if_neg (fun x => h5 x.1)]
      rcases hk with rfl | rfl
      all_goals
        go_enter Try.func59, Try.ntmps59
        go_wp2_with fail
        refine (readRowText_any _ _ (n - 1) (fun i => f (1 + i)) _ (HR.out.below B0) HF.out (by omega) (by omega)).mono ?_
        rintro e w1 ⟨rfl, rfl⟩
        rw [T0.out]
        go_wp2
        refine ⟨rfl, .tuple #[VV 0 0 ⟨#[]⟩, .int .i64 0], by simp [results, Try.f59, go_sem], ?_⟩
        rw [E.out]
        exact ⟨rfl, (Below.refl _ _).alloc (Nat.le_refl _) _⟩

set_option maxRecDepth 100000 in
set_option maxHeartbeats 2000000 in
theorem readCell_else (a : Option Addr) (c n : Nat) (f : Nat → Int) (w : World) (h : ReadB w a n f) (hf : Bys f n) (h1 : 1 ≤ n) (h2 : 4 < f 0) :
    Calls Try.prog 59 #[.slice a n c, .func (Fn.func 97) #[] #[]] w (RetC w (cellRd rowTx f n)) := by
  have hnz : ((n : Int) == 0) = false := beq_eq_false_iff_ne.mpr (by omega)
  obtain ⟨b, off, rfl, hlt, hc0⟩ := h 0 (by omega)
  simp only [Nat.add_zero] at hc0
  have E : Hid (cellRd rowTx f n = ((0, 0, ⟨#[]⟩), 0)) := by show _ = _; unfold cellRd; rw [if_neg (by omega), if_neg (by omega), if_neg (by omega), if_neg (by omega)]
  obtain ⟨v0, v1⟩ := hf 0 (by omega)
  generalize f 0 = v at *
  clear h hf
  go_enter Try.func59, Try.ntmps59
  go_wp2
  refine ⟨rfl, .tuple #[VV 0 0 ⟨#[]⟩, .int .i64 0], by simp [results, Try.f59, go_sem], ?_⟩
  rw [E.out]
  exact ⟨rfl, (Below.refl _ _).alloc (Nat.le_refl _) _⟩

theorem readCell_any (a : Option Addr) (c n : Nat) (f : Nat → Int) (w : World) (h : ReadB w a n f) (hf : Bys f n) (h1 : 1 ≤ n) (hc : n ≤ c) (hn : n ≤ 65536) :
    Calls Try.prog 59 #[.slice a n c, .func (Fn.func 97) #[] #[]] w (RetC w (cellRd rowTx f n)) := by
  obtain ⟨v0, v1⟩ := hf 0 (by omega)
  by_cases e0 : f 0 = 0
  · exact readCell_null a c n f w h h1 e0
  by_cases e1 : f 0 = 1
  · exact readCell_bool a c n f w h hf h1 e1
  by_cases e2 : f 0 = 2
  · exact readCell_int a c n f w h hf h1 hc e2
  by_cases e3 : f 0 = 3
  · exact readCell_text 3 a c n f w h hf h1 hc hn e3 (.inl rfl)
  by_cases e4 : f 0 = 4
  · exact readCell_text 4 a c n f w h hf h1 hc hn e4 (.inr rfl)
  exact readCell_else a c n f w h hf h1 (by omega)
end Go.Proofs.Ytfkenogbfbbbjaa
