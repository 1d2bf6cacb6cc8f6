/- How impl reads a cell of a key. -/
import Derived.Test.YtfkenogbfbbbjaaRkA
namespace Go.Proofs.Ytfkenogbfbbbjaa
open Go.RowKit

set_option maxRecDepth 100000 in
set_option maxHeartbeats 2000000 in
theorem keyCell_null (a : Option Addr) (c n : Nat) (f : Nat → Int) (w : World) (h : ReadB w a n f) (h1 : 1 ≤ n) (h2 : f 0 = 0) :
    Calls Try.prog 59 #[.slice a n c, .func (Fn.func 60) #[] #[]] w (RetC w (cellRd keyTx f n)) := by
  have hnz : ((n : Int) == 0) = false := beq_eq_false_iff_ne.mpr (by omega)
  obtain ⟨b, off, rfl, hlt, hc0⟩ := h 0 (by omega)
  simp only [Nat.add_zero, h2] at hc0
  have E : Hid (cellRd keyTx f n = ((0, 0, ⟨#[]⟩), 1)) := by show _ = _; unfold cellRd; rw [if_pos h2]
  clear h
  go_enter Try.func59, Try.ntmps59
  go_wp2
  refine ⟨rfl, .tuple #[VV 0 0 ⟨#[]⟩, .int .i64 1], by simp [results, Try.f59, go_sem], ?_⟩
  rw [E.out]
  exact ⟨rfl, (Below.refl _ _).alloc (Nat.le_refl _) _⟩

set_option maxRecDepth 100000 in
set_option maxHeartbeats 2000000 in
theorem keyCell_bool (a : Option Addr) (c n : Nat) (f : Nat → Int) (w : World) (h : ReadB w a n f) (hf : Bys f n) (h1 : 1 ≤ n) (h2 : f 0 = 1) :
    Calls Try.prog 59 #[.slice a n c, .func (Fn.func 60) #[] #[]] w (RetC w (cellRd keyTx f n)) := by
  have HR : Hid (ReadB w a n f) := h
  have hnz : ((n : Int) == 0) = false := beq_eq_false_iff_ne.mpr (by omega)
  obtain ⟨b, off, rfl, hlt, hc0⟩ := h 0 (by omega)
  simp only [Nat.add_zero, h2] at hc0
  have B0 : Below w.heap.size w (w.alloc (.cells #[.int .i64 0, .int .i64 0, .string ⟨#[]⟩] 24)) := (Below.refl _ _).alloc (Nat.le_refl _) _
  by_cases h3 : 1 < n
  · obtain ⟨b', off', e, _, hc1⟩ := h 1 h3
    cases e
    obtain ⟨v0, v1⟩ := hf 1 h3
    by_cases h4 : f 1 ≤ 1
    · have E : Hid (cellRd keyTx f n = ((1, f 1, ⟨#[]⟩), 2)) := by show _ = _; unfold cellRd; rw [if_neg (by omega), if_pos h2, if_pos ⟨h3, h4⟩]
      generalize f 1 = v at *
      clear h hf HR
      go_enter Try.func59, Try.ntmps59
      go_wp2
      refine ⟨rfl, .tuple #[VV 1 v ⟨#[]⟩, .int .i64 2], by simp [results, Try.f59, go_sem], ?_⟩
      rw [E.out]
      exact ⟨rfl, (Below.refl _ _).alloc (Nat.le_refl _) _⟩
    · have E : Hid (cellRd keyTx f n = ((0, 0, ⟨#[]⟩), 0)) := by show _ = _; unfold cellRd; rw [if_neg (by omega), if_pos h2, if_neg (fun x => h4 x.2)]
      generalize f 1 = v at *
      clear h hf HR
      go_enter Try.func59, Try.ntmps59
      go_wp2
      refine ⟨rfl, .tuple #[VV 0 0 ⟨#[]⟩, .int .i64 0], by simp [results, Try.f59, go_sem], ?_⟩
      rw [E.out]
      exact ⟨rfl, (Below.refl _ _).alloc (Nat.le_refl _) _⟩
  · have E : Hid (cellRd keyTx f n = ((0, 0, ⟨#[]⟩), 0)) := by show _ = _; unfold cellRd; rw [if_neg (by omega), if_pos h2, if_neg (fun x => h3 x.1)]
    clear h hf HR
    go_enter Try.func59, Try.ntmps59
    go_wp2
    refine ⟨rfl, .tuple #[VV 0 0 ⟨#[]⟩, .int .i64 0], by simp [results, Try.f59, go_sem], ?_⟩
    rw [E.out]
    exact ⟨rfl, (Below.refl _ _).alloc (Nat.le_refl _) _⟩

set_option maxRecDepth 100000 in
set_option maxHeartbeats 2000000 in
theorem keyCell_int (a : Option Addr) (c n : Nat) (f : Nat → Int) (w : World) (h : ReadB w a n f) (hf : Bys f n) (h1 : 1 ≤ n) (hc : n ≤ c) (h2 : f 0 = 2) :
    Calls Try.prog 59 #[.slice a n c, .func (Fn.func 60) #[] #[]] w (RetC w (cellRd keyTx f n)) := by
  have hnz : ((n : Int) == 0) = false := beq_eq_false_iff_ne.mpr (by omega)
  obtain ⟨b, off, rfl, hlt, hc0⟩ := h 0 (by omega)
  simp only [Nat.add_zero, h2] at hc0
  by_cases h3 : 8 < n
  · have E : Hid (cellRd keyTx f n = ((2, int8 (fun i => f (1 + i)), ⟨#[]⟩), 9)) := by show _ = _; unfold cellRd; rw [if_neg (by omega), if_neg (by omega), if_pos h2, if_pos h3]
    have B0 : Below w.heap.size w (w.alloc (.cells #[.int .i64 0, .int .i64 0, .string ⟨#[]⟩] 24)) := (Below.refl _ _).alloc (Nat.le_refl _) _
    have HR : Hid (ReadB w (some ⟨b, off + 1, none⟩) 8 (fun i => f (1 + i))) := fun i hi => (h.cut (k := 1) rfl) i (by omega)
    have HF : Hid (Bys (fun i => f (1 + i)) 8) := fun i hi => hf (1 + i) (by omega)
    have hc1 : ¬ c = 1 := by omega
    clear h hf
    go_enter Try.func59, Try.ntmps59
    go_wp2_with fail
    refine (readInt_any _ _ _ _ (HR.out.below B0) HF.out).mono ?_
    rintro e w1 ⟨rfl, rfl⟩
    generalize int8 (fun i => f (1 + i)) = v at *
    go_wp2
    refine ⟨rfl, .tuple #[VV 2 v ⟨#[]⟩, .int .i64 9], by simp [results, Try.f59, go_sem], ?_⟩
    rw [E.out]
    exact ⟨rfl, (Below.refl _ _).alloc (Nat.le_refl _) _⟩
  · have E : Hid (cellRd keyTx f n = ((0, 0, ⟨#[]⟩), 0)) := by show _ = _; unfold cellRd; rw [if_neg (by omega), if_neg (by omega), if_pos h2, if_neg h3]
    clear h hf
    go_enter Try.func59, Try.ntmps59
    go_wp2
    refine ⟨rfl, .tuple #[VV 0 0 ⟨#[]⟩, .int .i64 0], by simp [results, Try.f59, go_sem], ?_⟩
    rw [E.out]
    exact ⟨rfl, (Below.refl _ _).alloc (Nat.le_refl _) _⟩

set_option maxRecDepth 100000 in
set_option maxHeartbeats 2000000 in
theorem keyCell_text (k : Int) (a : Option Addr) (c n : Nat) (f : Nat → Int) (w : World) (h : ReadB w a n f) (hf : Bys f n) (h1 : 1 ≤ n) (hc : n ≤ c) (hn : n ≤ 65536) (h2 : f 0 = k) (hk : k = 3 ∨ k = 4) :
    Calls Try.prog 59 #[.slice a n c, .func (Fn.func 60) #[] #[]] w (RetC w (cellRd keyTx f n)) := by
  have hnz : ((n : Int) == 0) = false := beq_eq_false_iff_ne.mpr (by omega)
  obtain ⟨b, off, rfl, hlt, hc0⟩ := h 0 (by omega)
  simp only [Nat.add_zero, h2] at hc0
  have B0 : Below w.heap.size w (w.alloc (.cells #[.int .i64 0, .int .i64 0, .string ⟨#[]⟩] 24)) := (Below.refl _ _).alloc (Nat.le_refl _) _
  have X0 : Hid ((w.alloc (.cells #[.int .i64 0, .int .i64 0, .string ⟨#[]⟩] 24)).heap[w.heap.size]? = some (.cells #[.int .i64 0, .int .i64 0, .string ⟨#[]⟩] 24 (0, 0))) := by
    show (w.heap.push _)[w.heap.size]? = _
    simp
  have HF : Hid (Bys (fun i => f (1 + i)) (n - 1)) := fun i hi => hf (1 + i) (by omega)
  have HE : Hid (cellRd keyTx f n = if 0 < (keyTx (fun i => f (1 + i)) (n - 1)).2 ∧ (keyTx (fun i => f (1 + i)) (n - 1)).1.size ≤ 60 then ((k, 0, (keyTx (fun i => f (1 + i)) (n - 1)).1), 1 + (keyTx (fun i => f (1 + i)) (n - 1)).2) else ((0, 0, ⟨#[]⟩), 0)) := by
    show _ = _; unfold cellRd; rw [if_neg (by omega), if_neg (by omega), if_neg (by omega), if_pos (by omega), h2]
  have HZ : Hid ((keyTx (fun i => f (1 + i)) (n - 1)).2 ≤ 65536) := by
    show _ ≤ _
    have := (keyTx_ok _ _ HF.out).2
    omega
  have HR : Hid (ReadB w (some ⟨b, off + 1, none⟩) (n - 1) (fun i => f (1 + i))) := h.cut (k := 1) rfl
  clear h hf
  generalize hT : keyTx (fun i => f (1 + i)) (n - 1) = T at HE HZ
  have T0 : Hid (keyTx (fun i => f (1 + i)) (n - 1) = T) := hT
  clear hT
  obtain ⟨t, z⟩ := T
  have hz := HZ.out
  simp only at hz
  by_cases hc1 : c = 1
  · obtain rfl : n = 1 := by omega
    subst hc1
    have TE : Hid (z = 0 ∧ t = ⟨#[]⟩) := by
      have h1 := T0.out
      have h2 : keyTx (fun i => f (1 + i)) 0 = (⟨#[]⟩, 0) := by unfold keyTx; rw [keyGo_end [] (by omega)]; rfl
      have h3 := h2.symm.trans h1
      cases h3
      exact ⟨rfl, rfl⟩
    have E : Hid (cellRd keyTx f 1 = ((0, 0, ⟨#[]⟩), 0)) := by
      show _ = _
      rw [HE.out, if_neg (by have := TE.out.1; simp only; omega)]
    rcases hk with rfl | rfl
    all_goals
      go_enter Try.func59, Try.ntmps59
      go_wp2_with fail
      refine (readKeyText_any _ _ 0 (fun i => f (1 + i)) _ (fun i hi => by omega) (fun i hi => by omega) (by omega)).mono ?_
      rintro e w1 ⟨rfl, b1⟩
      rw [T0.out, TE.out.1, TE.out.2]
      have X1 := (b1.block w.heap.size (by simp)).trans X0.out
      have B1 := below_step B0 (Nat.le_refl _) b1
      have d0 : w1.cell? ⟨w.heap.size, 0, none⟩ = some (.int .i64 0) := by simp [World.cell?, X1]
      have d1 : w1.cell? ⟨w.heap.size, 1, none⟩ = some (.int .i64 0) := by simp [World.cell?, X1]
      have d2 : w1.cell? ⟨w.heap.size, 2, none⟩ = some (.string ⟨#[]⟩) := by simp [World.cell?, X1]
      have f0 : ∀ o, w1.frozen? ⟨w.heap.size, o, none⟩ = false := fun o => by simp [World.frozen?, X1]
      clear b1 X1
      go_wp2
      exact bodyPost_ret (v := .tuple #[VV 0 0 ⟨#[]⟩, .int .i64 0]) (by go_simp; simp [results, Try.f59, go_sem, d0, d1, d2]) rfl (by rw [E.out]; exact ⟨rfl, ((B1.setCell (p := ⟨w.heap.size, 0, none⟩) (Nat.le_refl _) _).setCell (p := ⟨w.heap.size, 1, none⟩) (Nat.le_refl _) _).setCell (p := ⟨w.heap.size, 2, none⟩) (Nat.le_refl _) _⟩)
  · by_cases h5 : 0 < z
    · by_cases h6 : t.size ≤ 60
      · have E : Hid (cellRd keyTx f n = ((k, 0, t), 1 + z)) := by show _ = _; rw [HE.out, if_pos ⟨h5, h6⟩]
        rcases hk with rfl | rfl
        · go_enter Try.func59, Try.ntmps59
          go_wp2_with fail
          refine (readKeyText_any _ _ (n - 1) (fun i => f (1 + i)) _ (HR.out.below B0) HF.out (by omega)).mono ?_
          rintro e w1 ⟨rfl, b1⟩
          rw [T0.out]
          have X1 := (b1.block w.heap.size (by simp)).trans X0.out
          have B1 := below_step B0 (Nat.le_refl _) b1
          have d0 : w1.cell? ⟨w.heap.size, 0, none⟩ = some (.int .i64 0) := by simp [World.cell?, X1]
          have d1 : w1.cell? ⟨w.heap.size, 1, none⟩ = some (.int .i64 0) := by simp [World.cell?, X1]
          have d2 : w1.cell? ⟨w.heap.size, 2, none⟩ = some (.string ⟨#[]⟩) := by simp [World.cell?, X1]
          have f0 : ∀ o, w1.frozen? ⟨w.heap.size, o, none⟩ = false := fun o => by simp [World.frozen?, X1]
          clear b1 X1
          go_wp2
          exact bodyPost_ret (v := .tuple #[VV 3 0 t, .int .i64 (1 + z)]) (by go_simp; simp [results, Try.f59, go_sem, d0, d1, d2]) rfl (by rw [E.out]; exact ⟨rfl, ((B1.setCell (p := ⟨w.heap.size, 0, none⟩) (Nat.le_refl _) _).setCell (p := ⟨w.heap.size, 1, none⟩) (Nat.le_refl _) _).setCell (p := ⟨w.heap.size, 2, none⟩) (Nat.le_refl _) _⟩)
        · go_enter Try.func59, Try.ntmps59
          go_wp2_with fail
          refine (readKeyText_any _ _ (n - 1) (fun i => f (1 + i)) _ (HR.out.below B0) HF.out (by omega)).mono ?_
          rintro e w1 ⟨rfl, b1⟩
          rw [T0.out]
          have X1 := (b1.block w.heap.size (by simp)).trans X0.out
          have B1 := below_step B0 (Nat.le_refl _) b1
          have d0 : w1.cell? ⟨w.heap.size, 0, none⟩ = some (.int .i64 0) := by simp [World.cell?, X1]
          have d1 : w1.cell? ⟨w.heap.size, 1, none⟩ = some (.int .i64 0) := by simp [World.cell?, X1]
          have d2 : w1.cell? ⟨w.heap.size, 2, none⟩ = some (.string ⟨#[]⟩) := by simp [World.cell?, X1]
          have f0 : ∀ o, w1.frozen? ⟨w.heap.size, o, none⟩ = false := fun o => by simp [World.frozen?, X1]
          clear b1 X1
          go_wp2
          exact bodyPost_ret (v := .tuple #[VV 4 0 t, .int .i64 (1 + z)]) (by go_simp; simp [results, Try.f59, go_sem, d0, d1, d2]) rfl (by rw [E.out]; exact ⟨rfl, ((B1.setCell (p := ⟨w.heap.size, 0, none⟩) (Nat.le_refl _) _).setCell (p := ⟨w.heap.size, 1, none⟩) (Nat.le_refl _) _).setCell (p := ⟨w.heap.size, 2, none⟩) (Nat.le_refl _) _⟩)
      · have E : Hid (cellRd keyTx f n = ((0, 0, ⟨#[]⟩), 0)) := by show _ = _; rw [HE.out, if_neg (fun x => h6 x.2)]
        rcases hk with rfl | rfl
        all_goals
          go_enter Try.func59, Try.ntmps59
          go_wp2_with fail
          refine (readKeyText_any _ _ (n - 1) (fun i => f (1 + i)) _ (HR.out.below B0) HF.out (by omega)).mono ?_
          rintro e w1 ⟨rfl, b1⟩
          rw [T0.out]
          have X1 := (b1.block w.heap.size (by simp)).trans X0.out
          have B1 := below_step B0 (Nat.le_refl _) b1
          have d0 : w1.cell? ⟨w.heap.size, 0, none⟩ = some (.int .i64 0) := by simp [World.cell?, X1]
          have d1 : w1.cell? ⟨w.heap.size, 1, none⟩ = some (.int .i64 0) := by simp [World.cell?, X1]
          have d2 : w1.cell? ⟨w.heap.size, 2, none⟩ = some (.string ⟨#[]⟩) := by simp [World.cell?, X1]
          have f0 : ∀ o, w1.frozen? ⟨w.heap.size, o, none⟩ = false := fun o => by simp [World.frozen?, X1]
          clear b1 X1
          go_wp2
          exact bodyPost_ret (v := .tuple #[VV 0 0 ⟨#[]⟩, .int .i64 0]) (by go_simp; simp [results, Try.f59, go_sem, d0, d1, d2]) rfl (by rw [E.out]; exact ⟨rfl, ((B1.setCell (p := ⟨w.heap.size, 0, none⟩) (Nat.le_refl _) _).setCell (p := ⟨w.heap.size, 1, none⟩) (Nat.le_refl _) _).setCell (p := ⟨w.heap.size, 2, none⟩) (Nat.le_refl _) _⟩)
    · have E : Hid (cellRd keyTx f n = ((0, 0, ⟨#[]⟩), 0)) := by show _ = _; rw [HE.out, if_neg (fun x => h5 x.1)]
      rcases hk with rfl | rfl
      all_goals
        go_enter Try.func59, Try.ntmps59
        go_wp2_with fail
        refine (readKeyText_any _ _ (n - 1) (fun i => f (1 + i)) _ (HR.out.below B0) HF.out (by omega)).mono ?_
        rintro e w1 ⟨rfl, b1⟩
        rw [T0.out]
        have X1 := (b1.block w.heap.size (by simp)).trans X0.out
        have B1 := below_step B0 (Nat.le_refl _) b1
        have d0 : w1.cell? ⟨w.heap.size, 0, none⟩ = some (.int .i64 0) := by simp [World.cell?, X1]
        have d1 : w1.cell? ⟨w.heap.size, 1, none⟩ = some (.int .i64 0) := by simp [World.cell?, X1]
        have d2 : w1.cell? ⟨w.heap.size, 2, none⟩ = some (.string ⟨#[]⟩) := by simp [World.cell?, X1]
        have f0 : ∀ o, w1.frozen? ⟨w.heap.size, o, none⟩ = false := fun o => by simp [World.frozen?, X1]
        clear b1 X1
        go_wp2
        exact bodyPost_ret (v := .tuple #[VV 0 0 ⟨#[]⟩, .int .i64 0]) (by go_simp; simp [results, Try.f59, go_sem, d0, d1, d2]) rfl (by rw [E.out]; exact ⟨rfl, ((B1.setCell (p := ⟨w.heap.size, 0, none⟩) (Nat.le_refl _) _).setCell (p := ⟨w.heap.size, 1, none⟩) (Nat.le_refl _) _).setCell (p := ⟨w.heap.size, 2, none⟩) (Nat.le_refl _) _⟩)

set_option maxRecDepth 100000 in
set_option maxHeartbeats 2000000 in
theorem keyCell_else (a : Option Addr) (c n : Nat) (f : Nat → Int) (w : World) (h : ReadB w a n f) (hf : Bys f n) (h1 : 1 ≤ n) (h2 : 4 < f 0) :
    Calls Try.prog 59 #[.slice a n c, .func (Fn.func 60) #[] #[]] w (RetC w (cellRd keyTx f n)) := by
  have hnz : ((n : Int) == 0) = false := beq_eq_false_iff_ne.mpr (by omega)
  obtain ⟨b, off, rfl, hlt, hc0⟩ := h 0 (by omega)
  simp only [Nat.add_zero] at hc0
  have E : Hid (cellRd keyTx f n = ((0, 0, ⟨#[]⟩), 0)) := by show _ = _; unfold cellRd; rw [if_neg (by omega), if_neg (by omega), if_neg (by omega), if_neg (by omega)]
  obtain ⟨v0, v1⟩ := hf 0 (by omega)
  generalize f 0 = v at *
  clear h hf
  go_enter Try.func59, Try.ntmps59
  go_wp2
  refine ⟨rfl, .tuple #[VV 0 0 ⟨#[]⟩, .int .i64 0], by simp [results, Try.f59, go_sem], ?_⟩
  rw [E.out]
  exact ⟨rfl, (Below.refl _ _).alloc (Nat.le_refl _) _⟩

theorem keyCell_any (a : Option Addr) (c n : Nat) (f : Nat → Int) (w : World) (h : ReadB w a n f) (hf : Bys f n) (h1 : 1 ≤ n) (hc : n ≤ c) (hn : n ≤ 65536) :
    Calls Try.prog 59 #[.slice a n c, .func (Fn.func 60) #[] #[]] w (RetC w (cellRd keyTx f n)) := by
  obtain ⟨v0, v1⟩ := hf 0 (by omega)
  by_cases e0 : f 0 = 0
  · exact keyCell_null a c n f w h h1 e0
  by_cases e1 : f 0 = 1
  · exact keyCell_bool a c n f w h hf h1 e1
  by_cases e2 : f 0 = 2
  · exact keyCell_int a c n f w h hf h1 hc e2
  by_cases e3 : f 0 = 3
  · exact keyCell_text 3 a c n f w h hf h1 hc hn e3 (.inl rfl)
  by_cases e4 : f 0 = 4
  · exact keyCell_text 4 a c n f w h hf h1 hc hn e4 (.inr rfl)
  exact keyCell_else a c n f w h hf h1 (by omega)
end Go.Proofs.Ytfkenogbfbbbjaa
