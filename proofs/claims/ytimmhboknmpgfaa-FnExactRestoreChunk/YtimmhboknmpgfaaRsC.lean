/- What RestoreChunk answers on both sides, whole. -/
import Derived.Test.YtimmhboknmpgfaaRsB
namespace Go.Proofs.Ytimmhboknmpgfaa
open Go.RowKit

theorem okR_facts {n : Int} {t : ByteArray} {d : Bool} (h : okR n t d = true) : n = (t.size : Int) ∧ t.size ≤ 65536 := by
  unfold okR at h
  simp at h
  omega

theorem slab_lt {w : World} {g : Nat} {o : Obj} (h : w.heap[g]? = some o) : g < w.heap.size := by
  rcases Nat.lt_or_ge g w.heap.size with h' | h'
  · exact h'
  · rw [Array.getElem?_eq_none h'] at h; cases h
theorem slab_set {w : World} {g o : Nat} {cur : Array Value} {e : TypeId} (h : w.heap[g]? = some (.cells cur e (0, 0))) (v : Value) : (w.setCell ⟨g, o, none⟩ v).heap[g]? = some (.cells (cur.setIfInBounds o v) e (0, 0)) := by
  simp [World.setCell, Array.getElem?_modify, h]
abbrev BoxR (w : World) (g : Nat) (n : Int) (t : ByteArray) (d : Bool) : Prop := w.heap[g]? = some (.cells #[.int .i64 n, .string t, .bool d] 26 (0, 0))
theorem box_set {w : World} {g : Nat} {n : Int} {t : ByteArray} {d : Bool} (h : BoxR w g n t d) (n' : Int) (t' : ByteArray) (d' : Bool) : BoxR (((w.setCell ⟨g, 0, none⟩ (.int .i64 n')).setCell ⟨g, 1, none⟩ (.string t')).setCell ⟨g, 2, none⟩ (.bool d')) g n' t' d' := by
  have q := slab_set (o := 2) (slab_set (o := 1) (slab_set (o := 0) h (.int .i64 n')) (.string t')) (.bool d')
  exact q
theorem below_set3 {B : Nat} {w w' : World} (h : Below B w w') {g : Nat} (hg : B ≤ g) (a b c : Value) : Below B w (((w'.setCell ⟨g, 0, none⟩ a).setCell ⟨g, 1, none⟩ b).setCell ⟨g, 2, none⟩ c) := ((h.setCell hg _).setCell hg _).setCell hg _

abbrev B2 (n : Int) (t : ByteArray) (d : Bool) (w : World) : World := (w.alloc (.cells #[.int .i64 n, .string t, .bool d] 26)).alloc (.cells #[.int .i64 0, .string noB, .bool false] 26)
/-- The two blocks behind a call that made only new memory. -/
abbrev Two (n : Int) (t : ByteArray) (d : Bool) (w w1 : World) : Prop :=
  (w1.cell? ⟨w.heap.size, 0, none⟩ = some (.int .i64 n) ∧ w1.cell? ⟨w.heap.size, 1, none⟩ = some (.string t) ∧ w1.cell? ⟨w.heap.size, 2, none⟩ = some (.bool d) ∧
    BoxR w1 (w.heap.size + 1) 0 noB false) ∧ Hid (Below w.heap.size w w1)
theorem two_facts {g : Nat} {n : Int} {t : ByteArray} {d : Bool} {w : World} (h : BoxR w g n t d) :
    w.cell? ⟨g, 0, none⟩ = some (.int .i64 n) ∧ w.cell? ⟨g, 1, none⟩ = some (.string t) ∧ w.cell? ⟨g, 2, none⟩ = some (.bool d) ∧ w.frozen? ⟨g, 0, none⟩ = false ∧ w.frozen? ⟨g, 1, none⟩ = false ∧ w.frozen? ⟨g, 2, none⟩ = false := by
  refine ⟨?_, ?_, ?_, ?_, ?_, ?_⟩ <;> simp [World.cell?, World.frozen?, h]
theorem blk1' (w : World) (o1 o2 : Obj) : ((w.alloc o1).alloc o2).heap[w.heap.size]? = some o1 :=
  (Below.heap_alloc _ _ _ (by simp)).trans (heap_alloc_new w o1)
theorem blk2' (w : World) (o1 o2 : Obj) : ((w.alloc o1).alloc o2).heap[w.heap.size + 1]? = some o2 := by have := heap_alloc_new (w.alloc o1) o2; simpa using this
theorem two_of {n : Int} {t : ByteArray} {d : Bool} {w w1 : World} (h : Below (B2 n t d w).heap.size (B2 n t d w) w1) : Two n t d w w1 := by
  have h1 : BoxR w1 w.heap.size n t d := (h.block _ (by simp; omega)).trans (blk1' _ _ _)
  have h2 : BoxR w1 (w.heap.size + 1) 0 noB false := (h.block _ (by simp)).trans (blk2' _ _ _)
  obtain ⟨a, b, c, _⟩ := two_facts h1
  exact ⟨⟨a, b, c, h2⟩, (((Below.refl _ _).alloc (Nat.le_refl _) _).alloc (by simp) _).trans (h.mono (by simp; omega))⟩

set_option maxHeartbeats 2000000 in
set_option maxRecDepth 100000 in
theorem implChunk_any (n : Int) (t : ByteArray) (d : Bool) (c : ByteArray) (w : World) (ht : t.size ≤ maxLen) (hc : c.size ≤ maxLen) :
    Calls Try.prog 10 #[RV n t d, .string c] w fun e w' => e = .returned (rcR n t d c) ∧ Below w.heap.size w w' := by
  have HT : Hid (t.size ≤ maxLen) := ht
  unfold maxLen at hc
  clear ht
  by_cases h0 : 65536 < c.size
  · have H : Hid (rcR n t d c = RC 0 noB false 2) := by show _ = _; unfold rcR; rw [if_pos h0]
    have h0a : (65536 : Int) < (c.size : Int) := by omega
    go_enter Try.func10, Try.ntmps10
    go_wp2
    all_goals first | (exfalso; simp_all; done) | (exfalso; omega) | exact bodyPost_ret (v := RC 0 noB false 2) (by simp [results, Try.results10, go_sem]) rfl ⟨by rw [H.out], ((Below.refl _ _).alloc (Nat.le_refl _) _).alloc (by simp) _⟩

  have h0a : ¬ (65536 : Int) < (c.size : Int) := by omega
  have hO : Calls Try.prog 8 #[RV n t d] (B2 n t d w) fun e w' => e = .returned (.bool (okR n t d)) ∧ Two n t d w w' := (implRestoreOK_any n t d (B2 n t d w) HT.out).mono fun e w' h => ⟨h.1, two_of h.2⟩
  by_cases h1 : okR n t d = true
  · rw [h1] at hO
    obtain ⟨hn, ht⟩ := okR_facts h1
    have hr : rcR n t d c = tkR n t d c := by unfold rcR; rw [if_neg h0, if_pos h1]
    rw [hr]
    clear h1 hr
    subst hn
    have hO' := hO
    clear hO
    by_cases h2 : d = true
    · subst h2
      have H : Hid (tkR t.size t true c = RC t.size t true 16) := by show _ = _; unfold tkR; rw [if_pos rfl]
      go_enter Try.func10, Try.ntmps10
      go_wp2_with fail
      refine hO'.mono ?_
      rintro e w1 ⟨rfl, ⟨u0, u1, u2, u3⟩, HB⟩
      obtain ⟨_, _, _, y0, y1, y2⟩ := two_facts u3
      obtain ⟨r0, r1, r2, _, _, _⟩ := two_facts (box_set u3 t.size t true)
      go_wp2
      all_goals first | (exfalso; simp_all; done) | (exfalso; omega) | exact bodyPost_ret (v := RC t.size t true 16) (by simp [results, Try.results10, go_sem, *]) rfl ⟨by rw [H.out], below_set3 HB.out (by omega) _ _ _⟩

    have h2 : d = false := by simpa using h2
    subst h2
    by_cases h3 : c.size < 1 ∨ 64 < c.size
    · have H : Hid (tkR t.size t false c = RC t.size t false 4) := by show _ = _; unfold tkR; rw [if_neg (by decide), if_pos h3]
      rcases h3 with h3 | h3
      · have h3a : (c.size : Int) < 1 := by omega
        go_enter Try.func10, Try.ntmps10
        go_wp2_with fail
        refine hO'.mono ?_
        rintro e w1 ⟨rfl, ⟨u0, u1, u2, u3⟩, HB⟩
        obtain ⟨_, _, _, y0, y1, y2⟩ := two_facts u3
        obtain ⟨r0, r1, r2, _, _, _⟩ := two_facts (box_set u3 t.size t false)
        go_wp2
        all_goals first | (exfalso; simp_all; done) | (exfalso; omega) | exact bodyPost_ret (v := RC t.size t false 4) (by simp [results, Try.results10, go_sem, *]) rfl ⟨by rw [H.out], below_set3 HB.out (by omega) _ _ _⟩

      · have h3a : ¬ (c.size : Int) < 1 := by omega
        have h3b : (64 : Int) < (c.size : Int) := by omega
        go_enter Try.func10, Try.ntmps10
        go_wp2_with fail
        refine hO'.mono ?_
        rintro e w1 ⟨rfl, ⟨u0, u1, u2, u3⟩, HB⟩
        obtain ⟨_, _, _, y0, y1, y2⟩ := two_facts u3
        obtain ⟨r0, r1, r2, _, _, _⟩ := two_facts (box_set u3 t.size t false)
        go_wp2
        all_goals first | (exfalso; simp_all; done) | (exfalso; omega) | exact bodyPost_ret (v := RC t.size t false 4) (by simp [results, Try.results10, go_sem, *]) rfl ⟨by rw [H.out], below_set3 HB.out (by omega) _ _ _⟩

    have h3a : ¬ (c.size : Int) < 1 := by omega
    have h3b : ¬ (64 : Int) < (c.size : Int) := by omega
    by_cases h4 : 65536 < t.size + c.size
    · have H : Hid (tkR t.size t false c = RC t.size t false 7) := by show _ = _; unfold tkR; rw [if_neg (by decide), if_neg h3, if_pos h4]
      have h4a : (65536 : Int) < (t.size : Int) + (c.size : Int) := by omega
      go_enter Try.func10, Try.ntmps10
      go_wp2_with fail
      refine hO'.mono ?_
      rintro e w1 ⟨rfl, ⟨u0, u1, u2, u3⟩, HB⟩
      obtain ⟨_, _, _, y0, y1, y2⟩ := two_facts u3
      obtain ⟨r0, r1, r2, _, _, _⟩ := two_facts (box_set u3 t.size t false)
      go_wp2
      all_goals first | (exfalso; simp_all; done) | (exfalso; omega) | exact bodyPost_ret (v := RC t.size t false 7) (by simp [results, Try.results10, go_sem, *]) rfl ⟨by rw [H.out], below_set3 HB.out (by omega) _ _ _⟩

    have H : Hid (tkR t.size t false c = RC ((t.size : Int) + c.size) (t ++ c) (decide ((c.size : Int) < 64)) 0) := by show _ = _; unfold tkR; rw [if_neg (by decide), if_neg h3, if_neg h4]
    have h4a : ¬ (65536 : Int) < (t.size : Int) + (c.size : Int) := by omega
    go_enter Try.func10, Try.ntmps10
    go_wp2_with fail
    refine hO'.mono ?_
    rintro e w1 ⟨rfl, ⟨u0, u1, u2, u3⟩, HB⟩
    obtain ⟨_, _, _, y0, y1, y2⟩ := two_facts u3
    obtain ⟨r0, r1, r2, _, _, _⟩ := two_facts (box_set u3 ((t.size : Int) + c.size) (t ++ c) (decide ((c.size : Int) < 64)))
    go_wp2
    all_goals first | (exfalso; simp_all; done) | (exfalso; omega) | exact bodyPost_ret (v := RC ((t.size : Int) + c.size) (t ++ c) (decide ((c.size : Int) < 64)) 0) (by simp [results, Try.results10, go_sem, *]) rfl ⟨by rw [H.out], below_set3 HB.out (by omega) _ _ _⟩

  have h1' : okR n t d = false := by simpa using h1
  have H : Hid (rcR n t d c = RC 0 noB false 1) := by show _ = _; unfold rcR; rw [if_neg h0, if_neg h1]
  rw [h1'] at hO
  clear h1 h1'
  have hO' := hO
  clear hO
  go_enter Try.func10, Try.ntmps10
  go_wp2_with fail
  refine hO'.mono ?_
  rintro e w1 ⟨rfl, ⟨u0, u1, u2, u3⟩, HB⟩
  obtain ⟨_, _, _, y0, y1, y2⟩ := two_facts u3
  obtain ⟨r0, r1, r2, _, _, _⟩ := two_facts (box_set u3 0 noB false)
  go_wp2
  all_goals first | (exfalso; simp_all; done) | (exfalso; omega) | exact bodyPost_ret (v := RC 0 noB false 1) (by simp [results, Try.results10, go_sem, *]) rfl ⟨by rw [H.out], below_set3 HB.out (by omega) _ _ _⟩


set_option maxHeartbeats 2000000 in
set_option maxRecDepth 100000 in
theorem specChunk_any (n : Int) (t : ByteArray) (d : Bool) (c : ByteArray) (w : World) (ht : t.size ≤ maxLen) (hc : c.size ≤ maxLen) :
    Calls Try.prog 9 #[RV n t d, .string c] w fun e w' => e = .returned (rcR n t d c) ∧ Below w.heap.size w w' := by
  have HT : Hid (t.size ≤ maxLen) := ht
  unfold maxLen at hc
  clear ht
  by_cases h0 : 65536 < c.size
  · have H : Hid (rcR n t d c = RC 0 noB false 2) := by show _ = _; unfold rcR; rw [if_pos h0]
    have h0a : (65536 : Int) < (c.size : Int) := by omega
    go_enter Try.func9, Try.ntmps9
    go_wp2
    all_goals first | (exfalso; simp_all; done) | (exfalso; omega) | exact bodyPost_ret (v := RC 0 noB false 2) (by simp [results, Try.results9, go_sem]) rfl ⟨by rw [H.out], ((Below.refl _ _).alloc (Nat.le_refl _) _).alloc (by simp) _⟩

  have h0a : ¬ (65536 : Int) < (c.size : Int) := by omega
  have hO : Calls Try.prog 6 #[RV n t d] (B2 n t d w) fun e w' => e = .returned (.bool (okR n t d)) ∧ Two n t d w w' := (specRestoreOK_any n t d (B2 n t d w) HT.out).mono fun e w' h => ⟨h.1, two_of h.2⟩
  by_cases h1 : okR n t d = true
  · rw [h1] at hO
    obtain ⟨hn, ht⟩ := okR_facts h1
    have H : Hid (rcR n t d c = tkR n t d c) := by show _ = _; unfold rcR; rw [if_neg h0, if_pos h1]
    have hS : Hid (∀ w, Calls Try.prog 12 #[RV n t d, .string c] w fun e w' => e = .returned (tkR n t d c) ∧ Below w.heap.size w w') := fun w => specTake_any n t d c w hn ht (by omega)
    obtain ⟨n', t', d', k', hk⟩ : ∃ n' t' d' k', tkR n t d c = RC n' t' d' k' := by
      unfold tkR
      repeat' split
      all_goals exact ⟨_, _, _, _, rfl⟩
    rw [hk] at hS H
    clear h1 hk
    subst hn
    go_enter Try.func9, Try.ntmps9
    go_wp2_with fail
    refine hO.mono ?_
    rintro e w1 ⟨rfl, ⟨u0, u1, u2, u3⟩, HB⟩
    go_wp2_with fail
    refine (hS.out _).mono ?_
    rintro e w2 ⟨rfl, hb2⟩
    have u4 := (hb2.block _ (slab_lt u3)).trans u3
    have HB2 : Hid (Below w.heap.size w w2) := HB.out.trans (hb2.mono HB.out.size)
    obtain ⟨_, _, _, y0, y1, y2⟩ := two_facts u4
    obtain ⟨r0, r1, r2, _, _, _⟩ := two_facts (box_set u4 n' t' d')
    clear u0 u1 u2 u3 hb2 HB
    go_wp2
    all_goals exact bodyPost_ret (v := RC n' t' d' k') (by simp [results, Try.results9, go_sem, *]) rfl ⟨by rw [H.out], below_set3 HB2.out (by omega) _ _ _⟩
  have h1' : okR n t d = false := by simpa using h1
  have H : Hid (rcR n t d c = RC 0 noB false 1) := by show _ = _; unfold rcR; rw [if_neg h0, if_neg h1]
  rw [h1'] at hO
  clear h1 h1'
  have hO' := hO
  clear hO
  go_enter Try.func9, Try.ntmps9
  go_wp2_with fail
  refine hO'.mono ?_
  rintro e w1 ⟨rfl, ⟨u0, u1, u2, u3⟩, HB⟩
  obtain ⟨_, _, _, y0, y1, y2⟩ := two_facts u3
  obtain ⟨r0, r1, r2, _, _, _⟩ := two_facts (box_set u3 0 noB false)
  go_wp2
  all_goals first | (exfalso; simp_all; done) | (exfalso; omega) | exact bodyPost_ret (v := RC 0 noB false 1) (by simp [results, Try.results9, go_sem, *]) rfl ⟨by rw [H.out], below_set3 HB.out (by omega) _ _ _⟩

end Go.Proofs.Ytimmhboknmpgfaa
