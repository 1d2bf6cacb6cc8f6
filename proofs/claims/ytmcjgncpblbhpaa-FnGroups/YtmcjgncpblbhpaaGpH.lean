/- The specification's groups: what is picked, lists of groups that grow (stage 13). -/
import Derived.Test.YtmcjgncpblbhpaaGpF
import Derived.Test.YtmcjgncpblbhpaaKsG
namespace Go.Proofs.Ytmcjgncpblbhpaa
open Go.RowKit

theorem pick_next {cs : List Int} {vs : List V3} {i : Nat} (h : i < cs.length) : pickR (cs.take (i + 1)) vs = pickR (cs.take i) vs ++ [nthV vs (nthC cs i).toNat] := by
  unfold pickR
  rw [List.take_add_one, List.getElem?_eq_getElem h, List.map_append, nthC_get h]
  rfl
theorem nthV_one (x : V3) : nthV [x] 0 = x := rfl
theorem one_row' (w : World) (x : V3) (ht : x.2.2.size ≤ maxLen) : RowV (w.alloc (.cells #[.int .i64 x.1, .int .i64 x.2.1, .string x.2.2] 39)) (some ⟨w.heap.size, 0, none⟩) [x] := fun i hi => by
  have : i = 0 := by simpa using hi
  subst this
  refine ⟨w.heap.size, 0, rfl, by simp, ⟨?_, ?_, ?_⟩, ht⟩ <;> simp [nthV_one]
set_option maxRecDepth 100000 in
set_option maxHeartbeats 4000000 in
theorem l13Picked_any (ai a : Option Addr) (ci c : Nat) (cs : List Int) (vs : List V3) (w : World) (hi : InA w ai cs) (hr : RowV w a vs) (hok : ∀ i, i < cs.length → 0 ≤ nthC cs i ∧ nthC cs i < vs.length) (hl : cs.length ≤ 4096) :
    Calls Try.prog 85 #[.slice ai cs.length ci, .slice a vs.length c] w fun e w' => ∃ u, e = .returned u ∧ OwnV w' w.heap.size u (pickR cs vs) ∧ Below w.heap.size w w' := by
  have HR : Hid (InA w ai cs ∧ RowV w a vs ∧ ∀ i, i < cs.length → 0 ≤ nthC cs i ∧ nthC cs i < vs.length) := ⟨hi, hr, hok⟩
  obtain ⟨n, hn⟩ : ∃ n, cs.length = n := ⟨_, rfl⟩
  have HN : Hid (cs.length = n) := hn
  rw [hn] at hl ⊢
  clear hi hr hok hn
  have B0 : Below w.heap.size w (w.alloc (.cells #[] 39)) := (Below.refl _ _).alloc (Nat.le_refl _) _
  have O0 : Hid (OwnV (w.alloc (.cells #[] 39)) w.heap.size (.slice (some ⟨w.heap.size, 0, none⟩) 0 0) (pickR (cs.take 0) vs)) := OwnV.empty (Nat.le_refl _)
  go_enter Try.func85, Try.ntmps85
  go_wp2
  go_loopw [5, 6] (fun v i wr => ∃ q : Nat, q ≤ n ∧ i = .int .i64 q ∧ Hid (OwnV wr w.heap.size v (pickR (cs.take q) vs)) ∧ Below w.heap.size w wr) (fun _ i _ => n - (intOf i).toNat)
  case atStart => exact ⟨0, by omega, rfl, O0.out, B0⟩
  case round =>
    clear O0 B0
    obtain ⟨q, hq, rfl, HO, hbl⟩ := hrel
    by_cases hqn : q < n
    · have hqI : (q : Int) < (n : Int) := by omega
      have hqc : q < cs.length := by rw [HN.out]; exact hqn
      obtain ⟨bi, oi, rfl, lbi, c1⟩ := (HR.out.1.below hbl) q hqc
      obtain ⟨x0, x1⟩ := HR.out.2.2 q hqc
      have hnx := pick_next (vs := vs) hqc
      obtain ⟨z, hz⟩ : ∃ z : Nat, nthC cs q = (z : Int) := ⟨(nthC cs q).toNat, by omega⟩
      rw [hz] at c1 x0 x1 hnx
      rw [Int.toNat_natCast] at hnx
      obtain ⟨b1, o1, rfl, lb1, ⟨v0, v1, v2⟩, htx⟩ := (HR.out.2.1.below hbl) z (by omega)
      have hA : Below wr.heap.size wr (wr.alloc (.cells #[.int .i64 (nthV vs z).1, .int .i64 (nthV vs z).2.1, .string (nthV vs z).2.2] 39)) := (Below.refl _ _).alloc (Nat.le_refl _) _
      have BA := below_step hbl (Nat.le_refl _) hA
      have hpl : (pickR (cs.take q) vs).length ≤ 4096 := by unfold pickR; simp; omega
      obtain ⟨v', w', hr1, O2, g2⟩ := app_V u5 _ [nthV vs z] _ w.heap.size wr.heap.size 0 1 (OwnV.below HO.out hA) (by simp; omega) (one_row' wr (nthV vs z) htx) BA.size
      have B2 := own_grown BA BA.size (OwnV.below HO.out hA) g2
      have HO2 : Hid (OwnV w' w.heap.size v' (pickR (cs.take (q + 1)) vs) ∧ Below w.heap.size w w') := ⟨by rw [hnx]; exact O2, B2⟩
      have hr' : Sem.run Try.prog (Builtin.append_ #[28, 28] 28 #[u5, .slice (some ⟨wr.heap.size, 0, none⟩) 1 1]) (wr.alloc (.cells #[.int .i64 (nthV vs z).1, .int .i64 (nthV vs z).2.1, .string (nthV vs z).2.2] 39)) = .ok v' w' := hr1
      have x1' : z < vs.length := by omega
      clear hz hnx hA BA hpl hr1 O2 g2 B2 HO htx
      generalize nthV vs z = x at *
      go_wp2_with (at_builtin; refine Lib.wpList_append_run _ rfl _ _ _ _ rfl _ _ rfl rfl _ _ hr' ?_)
      go_roundw
      case rel => exact ⟨q + 1, by omega, by go_num, HO2.out.1, HO2.out.2⟩
      case measure => simp [intOf]; omega
    · obtain rfl : q = n := by omega
      have HE : Hid (OwnV wr w.heap.size u5 (pickR cs vs)) := by
        have := HO.out
        rw [List.take_of_length_le (by rw [HN.out]; omega)] at this
        exact this
      clear HO
      go_wp2
      go_ret
      exact ⟨_, rfl, HE.out, hbl⟩
/-- The rows of a group lie in block g. -/
def GrpB (w : World) (g : Nat) (kr : Cel) (l : List Nat) : Prop := ∃ cu : Array Value, w.heap[g]? = some (.cells cu 28 (0, 0)) ∧ ∀ j, j < l.length → cu[j]? = some (kr.v (nthN l j))
theorem GrpB.lt {w : World} {g : Nat} {kr : Cel} {l : List Nat} (h : GrpB w g kr l) : g < w.heap.size := by
  obtain ⟨cu, hh, _⟩ := h
  exact slab_lt hh
theorem GrpB.at {w w' : World} {g : Nat} {kr : Cel} {l : List Nat} (h : GrpB w g kr l) (hb : w'.heap[g]? = w.heap[g]?) : GrpB w' g kr l := by
  obtain ⟨cu, hh, r⟩ := h
  exact ⟨cu, hb.trans hh, r⟩
theorem GrpB.below {w w' : World} {g : Nat} {kr : Cel} {l : List Nat} (h : GrpB w g kr l) (hb : Below w.heap.size w w') : GrpB w' g kr l := h.at (hb.block g h.lt)
theorem GrpB.cell {w : World} {g j : Nat} {kr : Cel} {l : List Nat} (h : GrpB w g kr l) (hj : j < l.length) : w.cell? ⟨g, j, none⟩ = some (kr.v (nthN l j)) := by
  obtain ⟨cu, hh, r⟩ := h
  rw [slab_cell hh]; exact r j hj
/-- A list of groups of the call's own, whose groups can be read. -/
def OwnL (w : World) (B : Nat) (v : Value) (kr : Cel) (G : List (List Nat)) : Prop := ∃ (xs : List Value) (gg cc : Nat → Nat), w.ownsRow B 23 1 v G.length xs ∧ ∀ i, i < G.length → xs[i]? = some (.slice (some ⟨gg i, 0, none⟩) (nthL G i).length (cc i)) ∧ GrpB w (gg i) kr (nthL G i)
theorem OwnL.empty {w : World} {B : Nat} {kr : Cel} (hB : B ≤ w.heap.size) : OwnL (w.alloc (.cells #[] 23)) B (.slice (some ⟨w.heap.size, 0, none⟩) 0 0) kr [] :=
  ⟨[], fun _ => 0, fun _ => 0, ⟨rfl, .inr ⟨w.heap.size, 0, #[], rfl, hB, heap_alloc_new w _, by simp, by simp, by simp, by simp⟩⟩, fun i hi => by simp at hi⟩
theorem OwnL.below {w w' : World} {B : Nat} {v : Value} {kr : Cel} {G : List (List Nat)} (h : OwnL w B v kr G) (hb : Below w.heap.size w w') : OwnL w' B v kr G := by
  obtain ⟨xs, gg, cc, ho, hr⟩ := h
  exact ⟨xs, gg, cc, owns_below ho hb, fun i hi => ⟨(hr i hi).1, (hr i hi).2.below hb⟩⟩
theorem OwnL.base {w : World} {B B' : Nat} {v : Value} {kr : Cel} {G : List (List Nat)} (h : OwnL w B v kr G) (hB : B' ≤ B) : OwnL w B' v kr G := by
  obtain ⟨xs, gg, cc, ho, hr⟩ := h
  exact ⟨xs, gg, cc, owns_base ho hB, hr⟩
/-- Where it lies. -/
theorem OwnL.at {w : World} {B : Nat} {v : Value} {kr : Cel} {G : List (List Nat)} (h : OwnL w B v kr G) (hne : v ≠ .slice none 0 0) : ∃ (g c : Nat) (gg cc : Nat → Nat), v = .slice (some ⟨g, 0, none⟩) G.length c ∧ G.length ≤ c ∧ B ≤ g ∧ g < w.heap.size ∧ (∃ cur, w.heap[g]? = some (.cells cur 23 (0, 0)) ∧ cur.size = c) ∧ ∀ i, i < G.length → w.cell? ⟨g, i, none⟩ = some (.slice (some ⟨gg i, 0, none⟩) (nthL G i).length (cc i)) ∧ GrpB w (gg i) kr (nthL G i) := by
  obtain ⟨xs, gg, cc, ⟨_, ho⟩, hr⟩ := h
  rcases ho with ⟨e, _⟩ | ⟨g, c, cur, e, hg, hh, hn, hm, hs, ht⟩
  · exact absurd e hne
  · refine ⟨g, c, gg, cc, e, hn, hg, slab_lt hh, ⟨cur, hh, by simpa using hs⟩, fun i hi => ⟨?_, (hr i hi).2⟩⟩
    have e1 := (hr i hi).1
    rw [← ht, List.getElem?_take, if_pos (by omega)] at e1
    rw [slab_cell hh, ← Array.getElem?_toList]
    exact e1
theorem nthL_right {P Q : List (List Nat)} {q : Nat} : nthL (P ++ Q) (P.length + q) = nthL Q q := by
  unfold nthL
  rw [List.getD_eq_getElem?_getD, List.getD_eq_getElem?_getD, List.getElem?_append_right (by omega)]
  congr 2
  omega
set_option maxRecDepth 100000 in
theorem app_L {w : World} {B b o c : Nat} {v : Value} {kr : Cel} {G H : List (List Nat)} {gg cc : Nat → Nat} (h : OwnL w B v kr G) (hB : B ≤ w.heap.size) (hl : G.length + H.length ≤ 4096) (hc : ∀ j, j < H.length → w.cell? ⟨b, o + j, none⟩ = some (.slice (some ⟨gg j, 0, none⟩) (nthL H j).length (cc j)) ∧ GrpB w (gg j) kr (nthL H j)) :
    ∃ v' w', (Builtin.append_ #[40, 40] 40 #[v, .slice (some ⟨b, o, none⟩) H.length c]).run Try.prog w = .ok v' w' ∧ OwnL w' B v' kr (G ++ H) ∧ (v' = .slice none 0 0 → v = .slice none 0 0) ∧ w.grownBy w' v.ownBlock ∧ ∀ w0, Below B w0 w → Below B w0 w' := by
  obtain ⟨i0, hi1, hz0, hz1, hz2⟩ := info_parts infoG
  obtain ⟨xs, g1, c1, ho, hr⟩ := h
  obtain ⟨v', w', h1, h2, h3, h4⟩ := run_append_own (P := Try.prog) w B 40 40 23 i0 _ 1 24 Try.underlying40 hi1 hz0 hz1 hz2 rfl (by decide) v G.length xs ho ⟨b, o, none⟩ H.length c ((List.range H.length).map fun j => .slice (some ⟨gg j, 0, none⟩) (nthL H j).length (cc j)) (by simp) (fun j u hj => by
    rw [List.getElem?_map] at hj
    obtain ⟨x, hx, rfl⟩ := Option.map_eq_some_iff.1 hj
    have hjn : j < H.length := by have := (List.getElem?_eq_some_iff.1 hx).1; simpa using this
    rw [List.getElem?_range hjn] at hx
    cases hx
    rw [add_plain]
    exact (hc j hjn).1) (by intro u hu; obtain ⟨x, _, rfl⟩ := List.mem_map.1 hu; rfl) (by unfold maxLen; omega) (by omega) hB
  have hxl : xs.length = G.length := by have := ho.1; omega
  have kp : ∀ g l, GrpB w g kr l → GrpB w' g kr l := fun g l hq => hq.at (by
    obtain ⟨cu, hh, _⟩ := hq
    refine h3.block g (slab_lt hh) (fun e => ?_)
    obtain ⟨_, q2⟩ := ho
    rcases q2 with ⟨rfl, _⟩ | ⟨g2, cap2, cur2, rfl, _, hq2, _⟩
    · simp [Value.ownBlock] at e
    · simp [Value.ownBlock] at e
      exact blk_ne hh hq2 (by decide) e)
  refine ⟨v', w', h1, ⟨_, fun i => if i < G.length then g1 i else gg (i - G.length), fun i => if i < G.length then c1 i else cc (i - G.length), by rw [List.length_append]; exact h2, fun i hi => ?_⟩, fun e => (h4.1 e).1, h3, fun w0 hb => hb.grown h3 hB fun j e => ?_⟩
  · rw [List.length_append] at hi
    by_cases e : i < G.length
    · rw [nthL_left e]
      simp only [if_pos e]
      exact ⟨by rw [List.getElem?_append_left (by omega)]; exact (hr i e).1, kp _ _ (hr i e).2⟩
    · obtain ⟨q, rfl⟩ : ∃ q, i = G.length + q := ⟨i - G.length, by omega⟩
      have hq : q < H.length := by omega
      rw [nthL_right]
      simp only [if_neg e, Nat.add_sub_cancel_left]
      refine ⟨?_, kp _ _ (hc q hq).2⟩
      rw [List.getElem?_append_right (by omega), hxl, Nat.add_sub_cancel_left, List.getElem?_map, List.getElem?_range hq]
      rfl
  · obtain ⟨_, q2⟩ := ho
    rcases q2 with ⟨rfl, _⟩ | ⟨g2, cap2, cur2, rfl, hg', _⟩
    · simp [Value.ownBlock] at e
    · simp [Value.ownBlock] at e
      omega
/-- A group put into place k. -/
theorem OwnL.set {w : World} {B g c n k gl cl : Nat} {kr : Cel} {A C : List (List Nat)} {b l : List Nat} (h : OwnL w B (.slice (some ⟨g, 0, none⟩) n c) kr (A ++ b :: C)) (hn : (A ++ b :: C).length = n) (hk : A.length = k) (hl : GrpB w gl kr l) : OwnL (w.setCell ⟨g, k, none⟩ (.slice (some ⟨gl, 0, none⟩) l.length cl)) B (.slice (some ⟨g, 0, none⟩) n c) kr (A ++ l :: C) := by
  subst hk
  obtain ⟨xs, gg, cc, ho, hr⟩ := h
  rw [hn] at ho
  obtain ⟨h1, h2, h3, h4, cur, h5, h6, h7⟩ := owns_at ho
  have hkn : A.length < n := by rw [← hn]; simp
  have en : ∀ i, i ≠ A.length → nthL (A ++ l :: C) i = nthL (A ++ b :: C) i := fun i hi => by
    unfold nthL
    rw [List.getD_eq_getElem?_getD, List.getD_eq_getElem?_getD]
    rcases Nat.lt_trichotomy i A.length with h | h | h
    · rw [List.getElem?_append_left h, List.getElem?_append_left h]
    · exact absurd h hi
    · rw [List.getElem?_append_right (by omega), List.getElem?_append_right (by omega)]
      obtain ⟨r, hr⟩ : ∃ r, i - A.length = r + 1 := ⟨i - A.length - 1, by omega⟩
      rw [hr, List.getElem?_cons_succ, List.getElem?_cons_succ]
  have e0 : nthL (A ++ l :: C) A.length = l := by unfold nthL; rw [List.getD_eq_getElem?_getD, List.getElem?_append_right (Nat.le_refl _)]; simp
  have hlen : (A ++ l :: C).length = n := by rw [← hn]; simp
  have kp : ∀ g' l', GrpB w g' kr l' → GrpB (w.setCell ⟨g, A.length, none⟩ (.slice (some ⟨gl, 0, none⟩) l.length cl)) g' kr l' := fun g' l' hq => hq.at (set_other _ (by
    obtain ⟨cu, hh, _⟩ := hq
    show g ≠ g'
    exact blk_ne h5 hh (by decide)))
  refine ⟨xs.set A.length (.slice (some ⟨gl, 0, none⟩) l.length cl), fun i => if i = A.length then gl else gg i, fun i => if i = A.length then cl else cc i, by rw [hlen]; exact owns_mk h1 h2 h3 (by simpa using h4) (slab_set h5 _) (by simpa using h6) (by rw [Array.toList_setIfInBounds, List.take_set, h7]), fun i hi => ?_⟩
  by_cases e : i = A.length
  · subst e
    rw [e0]
    simp only [if_pos]
    exact ⟨by rw [List.getElem?_set_self (by omega)], kp _ _ hl⟩
  · rw [en i e]
    simp only [if_neg e]
    have hi2 : i < (A ++ b :: C).length := by rw [hn, ← hlen]; exact hi
    exact ⟨by rw [List.getElem?_set_ne (by omega)]; exact (hr i hi2).1, kp _ _ (hr i hi2).2⟩
end Go.Proofs.Ytmcjgncpblbhpaa
