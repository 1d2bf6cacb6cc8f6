/- The numbers of a list sorted; is one there twice (stage 11). -/
import Derived.Test.YteejkmcljokloaaGreatDoorSrA
namespace Go.Proofs.YteejkmcljokloaaGreatDoor
open Go.RowKit Go.Sort Go.Lib

/-- The numbers of l, rising. -/
def sortI (l : List Int) : List Int := l.mergeSort fun x y => decide (x ≤ y)
theorem sortI_len (l : List Int) : (sortI l).length = l.length := by simp [sortI]
theorem below_growX {B : Nat} {a w : World} (h : Below B a w) (hB : B ≤ w.heap.size) (os : Array Obj) : Below B a (grow w os) :=
  ⟨h.os, h.tape, h.output, by have := h.size; show _ ≤ (w.heap ++ os).size; rw [Array.size_append]; omega, fun k hk => by show (w.heap ++ os)[k]? = _; rw [Array.getElem?_append_left (by omega)]; exact h.block k hk⟩
theorem ownI_map {w : World} {B n : Nat} {v : Value} {l : List Int} (h : w.ownsRow B 3 1 v n (l.map (Value.int .i64))) (hn : n = l.length) : OwnI w B v l := by subst hn; exact h
set_option maxRecDepth 100000 in
theorem collect_any (Bs cap : Nat) (a : Option Addr) (zs : List Int) (w : World) (hlen : zs.length ≤ 1048576) (hBs : Bs < w.heap.size) (hc : w.cell? ⟨Bs, 0, none⟩ = some (.slice a zs.length cap)) (hI : RowI w a zs) :
    Calls Tryz.prog 131 #[.func (.func 133) #[] #[.pointer (some ⟨Bs, 0, none⟩)]] w fun e w' => ∃ v, e = .returned v ∧ OwnI w' w.heap.size v zs ∧ Below w.heap.size w w' := by
  have hcall := appendSeq_any Bs cap a zs w hlen hBs hc hI
  clear hc hI
  go_enter Tryz.func131, Tryz.ntmps131
  go_wp2_with fail
  refine hcall.mono ?_
  rintro e w1 ⟨v, rfl, o1, b1⟩
  have O1 : Hid (OwnI w1 w.heap.size v zs) := o1
  clear o1 hcall
  go_wp2
  go_ret
  exact ⟨_, rfl, O1.out, b1⟩
theorem sort_own {w : World} {B : Nat} {v : Value} {l : List Int} (h : OwnI w B v l) (hl : l.length ≤ 1048576) (hB : B ≤ w.heap.size) :
    Calls Tryz.prog 132 #[v] w fun r w' => r = .returned (.tuple #[]) ∧ OwnI w' B v (sortI l) ∧ Below B w w' := by
  rcases h.2 with ⟨rfl, hn⟩ | ⟨g, cap, cur, rfl, hg, hh, hc, hm, hs, ht⟩
  · have : l = [] := List.eq_nil_of_length_eq_zero hn
    subst this
    refine (Tryz.slices_Sort_int_none none 0 w).mono ?_
    rintro r w' ⟨rfl, rfl⟩
    rw [show sortI [] = [] by simp [sortI]]
    exact ⟨rfl, ⟨rfl, .inl ⟨rfl, rfl⟩⟩, Below.refl _ _⟩
  · have hH : Holds (Value.int .i64) w g 0 l.toArray := fun j hj => by
      have hj' : j < l.length := by simpa using hj
      obtain ⟨a, c, e, r, _⟩ := h.row
      cases e
      obtain ⟨b, off, e, _, hcell⟩ := r j hj'
      cases e
      refine ⟨hcell.trans ?_, slab_free hh⟩
      rw [nthI_get hj']
      simp [hj']
    refine (Tryz.slices_Sort_int g 0 cap l w hH (slab_lt hh) (by omega)).mono ?_
    rintro r w' ⟨rfl, q, os, rfl⟩
    have hO := ownsRow_putRow (q := q) (k := l.length) h (ys := sortI l) (by rw [sortI_len]) (Nat.le_refl _)
    have hb := below_putRow (enc := Value.int .i64) (q := q) (d := (sortI l).toArray) (Below.refl B w) hg
    have e1 : (sortI l).take l.length = sortI l := by rw [← sortI_len l]; exact List.take_length
    rw [e1] at hO
    have hO1 : OwnI (putRow (Value.int .i64) (Sort.ahead w q) g 0 (sortI l).toArray) B (.slice (some ⟨g, 0, none⟩) l.length cap) (sortI l) := ownI_map hO (sortI_len l).symm
    have hz : B ≤ (putRow (Value.int .i64) (Sort.ahead w q) g 0 (sortI l).toArray).heap.size := Nat.le_trans hB hb.size
    exact ⟨rfl, hO1.below (below_growX (Below.refl _ _) (Nat.le_refl _) os), below_growX hb hz os⟩
set_option maxRecDepth 100000 in
theorem sorted_any (Bs cap : Nat) (a : Option Addr) (zs : List Int) (w : World) (hlen : zs.length ≤ 1048576) (hBs : Bs < w.heap.size) (hc : w.cell? ⟨Bs, 0, none⟩ = some (.slice a zs.length cap)) (hI : RowI w a zs) :
    Calls Tryz.prog 127 #[.func (.func 133) #[] #[.pointer (some ⟨Bs, 0, none⟩)]] w fun e w' => ∃ v, e = .returned v ∧ OwnI w' w.heap.size v (sortI zs) ∧ Below w.heap.size w w' := by
  have hcall := collect_any Bs cap a zs w hlen hBs hc hI
  clear hc hI
  go_enter Tryz.func127, Tryz.ntmps127
  go_wp2_with fail
  refine hcall.mono ?_
  rintro e w1 ⟨v, rfl, o1, b1⟩
  have O1 : Hid (OwnI w1 w.heap.size v zs) := o1
  clear o1 hcall
  go_wp2_with fail
  refine (sort_own O1.out hlen b1.size).mono ?_
  rintro e w2 ⟨rfl, o2, b2⟩
  have O2 : Hid (OwnI w2 w.heap.size v (sortI zs)) := o2
  have B2 := b1.trans b2
  clear o2 b2 b1 O1
  go_wp2
  go_ret
  exact ⟨_, rfl, O2.out, B2⟩
theorem compact_len (d : Array Int) : ∀ m, (compactUpTo d m).length ≤ m ∧ ((compactUpTo d m).length = m ↔ ∀ j, j < m → keeps d j = true)
  | 0 => ⟨by simp [compactUpTo], ⟨fun _ j hj => by omega, fun _ => by simp [compactUpTo]⟩⟩
  | m + 1 => by
    have ih := compact_len d m
    rw [compactUpTo_succ, List.length_append]
    cases hk : keeps d m with
    | true =>
      refine ⟨by simp; omega, ⟨fun h j hj => ?_, fun h => ?_⟩⟩
      · by_cases e : j = m
        · subst e; exact hk
        · exact ih.2.1 (by simp at h; omega) j (by omega)
      · have := ih.2.2 (fun j hj => h j (by omega))
        simp; omega
    | false =>
      refine ⟨by simp; omega, ⟨fun h => ?_, fun h => ?_⟩⟩
      · simp at h; omega
      · have := h m (by omega); rw [hk] at this; cases this
theorem twice_iff {zs : List Int} (hs : zs.Pairwise (· ≤ ·)) : (compact zs).length < zs.length ↔ ¬ zs.Nodup := by
  obtain ⟨h1, h2⟩ := compact_len zs.toArray zs.length
  have hlt : (compact zs).length < zs.length ↔ ¬ ∀ j, j < zs.length → keeps zs.toArray j = true := by
    rw [← h2]
    show (compactUpTo zs.toArray zs.length).length < zs.length ↔ _
    omega
  rw [hlt]
  refine not_congr ⟨fun h => ?_, fun h j hj => ?_⟩
  · refine List.pairwise_iff_getElem.2 fun i j hi hj hij => ?_
    have hk := h j hj
    have hne : zs[j] ≠ zs[j - 1] := fun e => by
      have := keeps_neg (d := zs.toArray) (m := j) (by omega) (by simp [getElem!_pos, hj, show j - 1 < zs.length by omega]; exact e)
      rw [hk] at this
      cases this
    have hle : zs[j - 1] ≤ zs[j] := List.pairwise_iff_getElem.1 hs (j - 1) j (by omega) hj (by omega)
    have hil : zs[i] ≤ zs[j - 1] := by
      by_cases e : i = j - 1
      · subst e; exact Int.le_refl _
      · exact List.pairwise_iff_getElem.1 hs i (j - 1) hi (by omega) (by omega)
    omega
  · by_cases e : j = 0
    · subst e; exact keeps_lt_one _ 0 (by omega)
    · refine keeps_pos ?_
      simp only [getElem!_pos, List.getElem_toArray, List.size_toArray, hj, show j - 1 < zs.length by omega]
      exact fun e' => List.pairwise_iff_getElem.1 h (j - 1) j (by omega) hj (by omega) e'.symm
theorem sortI_pair (l : List Int) : (sortI l).Pairwise (· ≤ ·) := by
  have := List.pairwise_mergeSort (le := fun x y : Int => decide (x ≤ y)) (fun a b c h1 h2 => by simp at *; omega) (fun a b => by simp; omega) l
  simpa [sortI] using this
theorem sortI_perm (l : List Int) : (sortI l).Perm l := List.mergeSort_perm l _
theorem twice_sort (l : List Int) : (compact (sortI l)).length < (sortI l).length ↔ ¬ l.Nodup := by
  rw [twice_iff (sortI_pair l), (sortI_perm l).nodup_iff]
theorem compact_own {w : World} {B : Nat} {v : Value} {l : List Int} (h : OwnI w B v l) (hl : l.length ≤ 1048576) :
    Calls Tryz.prog 129 #[v] w fun r w' => ∃ a c, r = .returned (.slice a (compact l).length c) ∧ Below B w w' := by
  rcases h.2 with ⟨rfl, hn⟩ | ⟨g, cap, cur, rfl, hg, hh, hc, hm, hs, ht⟩
  · have : l = [] := List.eq_nil_of_length_eq_zero hn
    subst this
    refine (Tryz.slices_Compact_int_empty none 0 w).mono ?_
    rintro r w' ⟨rfl, rfl⟩
    exact ⟨none, 0, by simp [compact, compactUpTo], Below.refl _ _⟩
  · have hH : Holds (Value.int .i64) w g 0 l.toArray := fun j hj => by
      have hj' : j < l.length := by simpa using hj
      obtain ⟨a, c, e, r, _⟩ := h.row
      cases e
      obtain ⟨b, off, e, _, hcell⟩ := r j hj'
      cases e
      refine ⟨hcell.trans ?_, slab_free hh⟩
      rw [nthI_get hj']
      simp [hj']
    refine (Tryz.slices_Compact_int g 0 cap l w hH (by omega) hc).mono ?_
    rintro r w' ⟨rfl, q, rfl⟩
    exact ⟨_, _, rfl, below_putRow (Below.refl _ _) hg⟩

set_option maxRecDepth 100000 in
theorem hasTwice_any (a : Option Addr) (cap : Nat) (zs : List Int) (w : World) (hI : RowI w a zs) (hlen : zs.length ≤ 1048576) :
    Calls Tryz.prog 120 #[.slice a zs.length cap] w fun e w' => e = .returned (.bool (asB (¬ zs.Nodup))) ∧ Below w.heap.size w w' := by
  have HT : Hid ((compact (sortI zs)).length < (sortI zs).length ↔ ¬ zs.Nodup) := twice_sort zs
  have hle := (compact_len (sortI zs).toArray (sortI zs).length).1
  have hcp : (compact (sortI zs)).length ≤ (sortI zs).length := hle
  have HS : Hid ((sortI zs).length = zs.length) := sortI_len zs
  rw [HS.out] at hcp
  have A0 : Below w.heap.size w (w.alloc (.cells #[.slice a zs.length cap] 102)) := (Below.refl _ _).alloc (Nat.le_refl _) _
  have hcall := sorted_any w.heap.size cap a zs (w.alloc (.cells #[.slice a zs.length cap] 102)) hlen (by simp) (slab_cell (heap_new' _ _ _ rfl)) (hI.below A0)
  clear hle hI
  go_enter Tryz.func120, Tryz.ntmps120
  go_wp2_with fail
  refine (values_any a zs.length cap w).mono ?_
  rintro e w1 ⟨rfl, hq⟩
  subst hq
  go_wp2_with fail
  refine hcall.mono ?_
  rintro e w2 ⟨v, rfl, o2, b2⟩
  have B2 := A0.trans (b2.mono A0.size)
  have O2 : Hid (OwnI w2 w.heap.size v (sortI zs)) := own_mono o2 A0.size
  clear o2 b2 hcall A0
  go_wp2_with fail
  refine (compact_own O2.out (by rw [HS.out]; exact hlen)).mono ?_
  rintro e w3 ⟨a3, c3, rfl, b3⟩
  have B3 := B2.trans b3
  clear O2 b3 B2
  obtain ⟨m, hm⟩ : ∃ m, (compact (sortI zs)).length = m := ⟨_, rfl⟩
  rw [hm] at hcp ⊢
  rw [hm, HS.out] at HT
  obtain ⟨len, hl⟩ : ∃ m, zs.length = m := ⟨_, rfl⟩
  rw [hl] at hcp hlen HT ⊢
  clear hm hl
  go_wp2
  go_ret
  exact ⟨ret_bool' (asB_eq (HT.out.symm.trans (by simp))), B3⟩
end Go.Proofs.YteejkmcljokloaaGreatDoor
