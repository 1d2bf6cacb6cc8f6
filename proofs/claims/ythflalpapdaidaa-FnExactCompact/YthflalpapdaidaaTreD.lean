/- Lists of nodes and forests: copied, compared (stage 5). -/
import Derived.Test.YthflalpapdaidaaTreC
namespace Go.Proofs.Ythflalpapdaidaa
open Go.RowKit

/-- A block of the call's own of n nodes, of which the first k are those of ns; their lists lie in blocks of their own behind it. -/
def SlabN (w : World) (g n : Nat) (ns : List Nd) (k : Nat) : Prop :=
  ∃ cur, w.heap[g]? = some (.cells cur 93 (0, 0)) ∧ cur.size = n * 4 ∧ ∀ i, i < k → ∃ g1 g2 g3, g < g1 ∧ g < g2 ∧ g < g3 ∧
    cur[i * 4]? = some (.bool (nthN ns i).1) ∧ cur[i * 4 + 1]? = some (.slice (some ⟨g1, 0, none⟩) (nthN ns i).2.1.length (nthN ns i).2.1.length) ∧ cur[i * 4 + 2]? = some (.slice (some ⟨g2, 0, none⟩) (nthN ns i).2.2.1.length (nthN ns i).2.2.1.length) ∧ cur[i * 4 + 3]? = some (.slice (some ⟨g3, 0, none⟩) (nthN ns i).2.2.2.length (nthN ns i).2.2.2.length) ∧
    SlabS w g1 (nthN ns i).2.1.length (nthN ns i).2.1 (nthN ns i).2.1.length ∧ SlabS w g2 (nthN ns i).2.2.1.length (nthN ns i).2.2.1 (nthN ns i).2.2.1.length ∧ SlabI w g3 (nthN ns i).2.2.2.length (nthN ns i).2.2.2 (nthN ns i).2.2.2.length
theorem SlabN.lt {w : World} {g n k : Nat} {ns : List Nd} (h : SlabN w g n ns k) : g < w.heap.size := by
  obtain ⟨cur, hh, _⟩ := h
  exact slab_lt hh
theorem SlabN.below {w w' : World} {g n k : Nat} {ns : List Nd} (h : SlabN w g n ns k) (hb : Below w.heap.size w w') : SlabN w' g n ns k := by
  have hl := h.lt
  obtain ⟨cur, hh, hs, hc⟩ := h
  refine ⟨cur, (hb.block g hl).trans hh, hs, fun i hi => ?_⟩
  obtain ⟨g1, g2, g3, l1, l2, l3, p0, p1, p2, p3, s1, s2, s3⟩ := hc i hi
  exact ⟨g1, g2, g3, l1, l2, l3, p0, p1, p2, p3, s1.below hb s1.lt, s2.below hb s2.lt, s3.below hb s3.lt⟩
theorem SlabN.there {w : World} {g n k j : Nat} {ns : List Nd} (h : SlabN w g n ns k) (hj : j < n * 4) : ∃ v, w.cell? ⟨g, j, none⟩ = some v := by
  obtain ⟨cur, hh, hs, _⟩ := h
  exact ⟨cur[j]'(by omega), by rw [slab_cell hh]; exact Array.getElem?_eq_getElem _⟩
theorem SlabN.free {w : World} {g n k : Nat} {ns : List Nd} (h : SlabN w g n ns k) (o : Nat) : w.frozen? ⟨g, o, none⟩ = false := by
  obtain ⟨cur, hh, _⟩ := h
  exact slab_free hh
/-- The world in which four cells are stored. -/
abbrev set4 (w : World) (g o : Nat) (a b c d : Value) : World := (((w.setCell ⟨g, o, none⟩ a).setCell ⟨g, o + 1, none⟩ b).setCell ⟨g, o + 2, none⟩ c).setCell ⟨g, o + 3, none⟩ d
theorem SlabN.step {w : World} {g n k g1 g2 g3 : Nat} {ns : List Nd} {l : Bool} {ks vs : List ByteArray} {is : List Int} (h : SlabN w g n ns k) (hk : k < n) (e : nthN ns k = (l, ks, vs, is)) (l1 : g < g1) (l2 : g < g2) (l3 : g < g3)
    (s1 : SlabS w g1 ks.length ks ks.length) (s2 : SlabS w g2 vs.length vs vs.length) (s3 : SlabI w g3 is.length is is.length) :
    SlabN (set4 w g (k * 4) (.bool l) (.slice (some ⟨g1, 0, none⟩) ks.length ks.length) (.slice (some ⟨g2, 0, none⟩) vs.length vs.length) (.slice (some ⟨g3, 0, none⟩) is.length is.length)) g n ns (k + 1) := by
  obtain ⟨cur, hh, hs, hc⟩ := h
  refine ⟨_, slab_set (slab_set (slab_set (slab_set hh _) _) _) _, by simpa using hs, fun i hi => ?_⟩
  by_cases e1 : i = k
  · subst e1
    rw [e]
    refine ⟨g1, g2, g3, l1, l2, l3, ?_, ?_, ?_, ?_, ?_, ?_, ?_⟩
    · rw [Array.getElem?_setIfInBounds_ne (by omega), Array.getElem?_setIfInBounds_ne (by omega), Array.getElem?_setIfInBounds_ne (by omega), Array.getElem?_setIfInBounds_self_of_lt (by omega)]
    · rw [Array.getElem?_setIfInBounds_ne (by omega), Array.getElem?_setIfInBounds_ne (by omega), Array.getElem?_setIfInBounds_self_of_lt (by simp; omega)]
    · rw [Array.getElem?_setIfInBounds_ne (by omega), Array.getElem?_setIfInBounds_self_of_lt (by simp; omega)]
    · rw [Array.getElem?_setIfInBounds_self_of_lt (by simp; omega)]
    · exact (((s1.set (by show _ ≠ _; simp; omega) _).set (by show _ ≠ _; simp; omega) _).set (by show _ ≠ _; simp; omega) _).set (by show _ ≠ _; simp; omega) _
    · exact (((s2.set (by show _ ≠ _; simp; omega) _).set (by show _ ≠ _; simp; omega) _).set (by show _ ≠ _; simp; omega) _).set (by show _ ≠ _; simp; omega) _
    · exact (((s3.set (by show _ ≠ _; simp; omega) _).set (by show _ ≠ _; simp; omega) _).set (by show _ ≠ _; simp; omega) _).set (by show _ ≠ _; simp; omega) _
  · obtain ⟨h1, h2, h3, m1, m2, m3, p0, p1, p2, p3, t1, t2, t3⟩ := hc i (by omega)
    refine ⟨h1, h2, h3, m1, m2, m3, ?_, ?_, ?_, ?_, ?_, ?_, ?_⟩
    · rw [Array.getElem?_setIfInBounds_ne (by omega), Array.getElem?_setIfInBounds_ne (by omega), Array.getElem?_setIfInBounds_ne (by omega), Array.getElem?_setIfInBounds_ne (by omega)]; exact p0
    · rw [Array.getElem?_setIfInBounds_ne (by omega), Array.getElem?_setIfInBounds_ne (by omega), Array.getElem?_setIfInBounds_ne (by omega), Array.getElem?_setIfInBounds_ne (by omega)]; exact p1
    · rw [Array.getElem?_setIfInBounds_ne (by omega), Array.getElem?_setIfInBounds_ne (by omega), Array.getElem?_setIfInBounds_ne (by omega), Array.getElem?_setIfInBounds_ne (by omega)]; exact p2
    · rw [Array.getElem?_setIfInBounds_ne (by omega), Array.getElem?_setIfInBounds_ne (by omega), Array.getElem?_setIfInBounds_ne (by omega), Array.getElem?_setIfInBounds_ne (by omega)]; exact p3
    · exact (((t1.set (by show _ ≠ _; simp; omega) _).set (by show _ ≠ _; simp; omega) _).set (by show _ ≠ _; simp; omega) _).set (by show _ ≠ _; simp; omega) _
    · exact (((t2.set (by show _ ≠ _; simp; omega) _).set (by show _ ≠ _; simp; omega) _).set (by show _ ≠ _; simp; omega) _).set (by show _ ≠ _; simp; omega) _
    · exact (((t3.set (by show _ ≠ _; simp; omega) _).set (by show _ ≠ _; simp; omega) _).set (by show _ ≠ _; simp; omega) _).set (by show _ ≠ _; simp; omega) _
/-- Texts of nodes have lengths. -/
def TextsN (ns : List Nd) : Prop := ∀ i, i < ns.length → (∀ j, j < (nthN ns i).2.1.length → (nthS (nthN ns i).2.1 j).size ≤ maxLen) ∧ (∀ j, j < (nthN ns i).2.2.1.length → (nthS (nthN ns i).2.2.1 j).size ≤ maxLen)
theorem RowN.texts {w : World} {a : Option Addr} {ns : List Nd} (h : RowN w a ns) : TextsN ns := fun i hi => by
  obtain ⟨b, off, _, _, ka, kc, va, vc, ia, ic, _, _, _, _, hr⟩ := h i hi
  exact ⟨hr.1.size, hr.2.1.size⟩
theorem SlabN.row {w : World} {g : Nat} {ns : List Nd} (h : SlabN w g ns.length ns ns.length) (ht : TextsN ns) (hs : ∀ i, i < ns.length → SmallN (nthN ns i)) : RowN w (some ⟨g, 0, none⟩) ns := fun i hi => by
  have hl := h.lt
  obtain ⟨cur, hh, _, hc⟩ := h
  obtain ⟨g1, g2, g3, _, _, _, p0, p1, p2, p3, s1, s2, s3⟩ := hc i hi
  obtain ⟨t1, t2⟩ := ht i hi
  obtain ⟨m1, m2, m3⟩ := hs i hi
  refine ⟨g, 0, rfl, hl, _, _, _, _, _, _, (slab_cell hh).trans (by rw [Nat.zero_add]; exact p0), (slab_cell hh).trans (by rw [Nat.zero_add]; exact p1), (slab_cell hh).trans (by rw [Nat.zero_add]; exact p2), (slab_cell hh).trans (by rw [Nat.zero_add]; exact p3), s1.row t1, s2.row t2, s3.row, ?_, ?_, ?_⟩ <;> (unfold maxLen; omega)

set_option maxRecDepth 100000 in
set_option maxHeartbeats 2000000 in
theorem toN_any (a : Option Addr) (cap : Nat) (ns : List Nd) (w : World) (hrow : RowN w a ns) (hlen : ns.length ≤ 1048576) (hsm : ∀ i, i < ns.length → SmallN (nthN ns i)) :
    Calls Try.prog 78 #[.slice a ns.length cap] w fun e w' => ∃ g, e = .returned (.slice (some ⟨g, 0, none⟩) ns.length ns.length) ∧ w.heap.size ≤ g ∧ SlabN w' g ns.length ns ns.length ∧ Below w.heap.size w w' := by
  have HR : Hid (RowN w a ns) := hrow
  have HM : Hid (∀ i, i < ns.length → SmallN (nthN ns i)) := hsm
  clear hrow hsm
  generalize hL : ns.length = len at *
  have HL : Hid (ns.length = len) := hL
  clear hL
  obtain ⟨i0, hi, hz0, hz1, hz2⟩ := info_parts info93
  go_enter Try.func78, Try.ntmps78
  go_wp2_with (at_make; refine wpList_make_full _ rfl _ _ 23 rfl w.heap.size 93 i0 _ 4 Try.underlying23 hi hz0 hz1 .i64 .i64 _ _ len rfl rfl rfl rfl ?m1 ?m2 (Nat.le_refl _) ?_)
  case m1 => rw [hz2]; omega
  case m2 => unfold maxLen; omega
  intro w1 hown hgr
  have hB1 : Below w.heap.size w w1 := (Below.refl _ _).grown hgr (Nat.le_refl _) (fun k hk => by cases hk)
  have hS : SlabN w1 w.heap.size len ns 0 := by
    rcases hown.2 with ⟨h, _⟩ | ⟨g, c, cur, h, _, hh, _, _, hcs, _⟩
    · cases h
    · cases h
      exact ⟨cur, hh, hcs, fun i hi => by omega⟩
  clear hown hgr hi hz0 hz1 hz2
  go_wp2
  go_loopw [4] (fun i wr => ∃ k : Nat, k ≤ len ∧ i = .int .i64 k ∧ SlabN wr w.heap.size len ns k ∧ Below w.heap.size w wr) (fun i _ => len - (intOf i).toNat)
  case atStart => exact ⟨0, by omega, rfl, hS, hB1⟩
  case round =>
    obtain ⟨k, hk, rfl, hSk, hbl⟩ := hrel
    by_cases hlt : k < len
    · obtain ⟨b, off, rfl, hlb, ka, kc, va, vc, ia, ic, q0, q1, q2, q3, hr⟩ := (HR.out.below hbl) k (by rw [HL.out]; exact hlt)
      have hm := HM.out k hlt
      obtain ⟨nd, hnd⟩ : ∃ nd, nthN ns k = nd := ⟨_, rfl⟩
      have HE : Hid (nthN ns k = nd) := hnd
      rw [hnd] at q0 q1 q2 q3 hr hm
      obtain ⟨l, ks, vs, is⟩ := nd
      simp only at q0 q1 q2 q3
      have HRr : Hid (NodeR wr ka va ia (l, ks, vs, is)) := hr
      have HMm : Hid (SmallN (l, ks, vs, is)) := hm
      have HSk : Hid (SlabN wr w.heap.size len ns k) := hSk
      clear hr hm hnd hSk hS hB1
      go_wp2_with fail
      refine (toNode_any ka va ia kc vc ic l ks vs is wr HRr.out HMm.out).mono ?_
      rintro e w2 ⟨g1, g2, g3, rfl, l1, l2, l3, s1, s2, s3, hb2⟩
      have hS2 := HSk.out.below hb2
      have hB2 := below_step hbl (Nat.le_refl _) hb2
      have hgl := HSk.out.lt
      have HN : Hid (SlabN (set4 w2 w.heap.size (k * 4) (.bool l) (.slice (some ⟨g1, 0, none⟩) ks.length ks.length) (.slice (some ⟨g2, 0, none⟩) vs.length vs.length) (.slice (some ⟨g3, 0, none⟩) is.length is.length)) w.heap.size len ns (k + 1)) := hS2.step hlt HE.out (by omega) (by omega) (by omega) s1 s2 s3
      have HBn : Hid (Below w.heap.size w (set4 w2 w.heap.size (k * 4) (.bool l) (.slice (some ⟨g1, 0, none⟩) ks.length ks.length) (.slice (some ⟨g2, 0, none⟩) vs.length vs.length) (.slice (some ⟨g3, 0, none⟩) is.length is.length))) := (((hB2.setCell (p := ⟨w.heap.size, k * 4, none⟩) (Nat.le_refl _) _).setCell (p := ⟨w.heap.size, k * 4 + 1, none⟩) (Nat.le_refl _) _).setCell (p := ⟨w.heap.size, k * 4 + 2, none⟩) (Nat.le_refl _) _).setCell (p := ⟨w.heap.size, k * 4 + 3, none⟩) (Nat.le_refl _) _
      obtain ⟨v0, hv0⟩ := hS2.there (j := k * 4) (by omega)
      obtain ⟨v1, hv1⟩ := hS2.there (j := k * 4 + 1) (by omega)
      obtain ⟨v2, hv2⟩ := hS2.there (j := k * 4 + 2) (by omega)
      obtain ⟨v3, hv3⟩ := hS2.there (j := k * 4 + 3) (by omega)
      have hf := hS2.free
      clear q0 q1 q2 q3 hb2 hlb hbl hS2 s1 s2 s3 l1 l2 l3 hgl HRr HMm HSk hB2
      go_wp2
      go_roundw
      case rel => exact ⟨k + 1, by omega, by go_num, HN.out, HBn.out⟩
      case measure => simp [intOf]; omega
    · obtain rfl : k = len := by omega
      go_wp2
      go_ret
      exact ⟨_, rfl, Nat.le_refl _, hSk, hbl⟩
end Go.Proofs.Ythflalpapdaidaa
