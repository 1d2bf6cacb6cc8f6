/- How impl looks at a node (stage 5). -/
import Derived.Test.YthflalpapdaidaaTreF
namespace Go.Proofs.Ythflalpapdaidaa
open Go.RowKit

theorem NodeOK.leaf {ks vs : List ByteArray} {is : List Int} {x : Int} : NodeOK (true, ks, vs, is) x ↔ (1 ≤ ks.length ∧ ks.length ≤ 4 ∧ ∀ i, i < ks.length → KeyOK ks i) ∧ is.length = 0 ∧ ValsOK ks vs :=
  ⟨fun h => ⟨h.1, h.2.1 rfl⟩, fun h => ⟨h.1, fun _ => h.2, fun e => by cases e⟩⟩
theorem NodeOK.inner {ks vs : List ByteArray} {is : List Int} {x : Int} : NodeOK (false, ks, vs, is) x ↔ (1 ≤ ks.length ∧ ks.length ≤ 4 ∧ ∀ i, i < ks.length → KeyOK ks i) ∧ vs.length = 0 ∧ KidsOK ks is x :=
  ⟨fun h => ⟨h.1, h.2.2 rfl⟩, fun h => ⟨h.1, fun e => (by cases e), fun _ => h.2⟩⟩
theorem keys_false {n : Nd} {x : Int} (h : ¬ (1 ≤ n.2.1.length ∧ n.2.1.length ≤ 4)) : ¬ NodeOK n x := fun hh => h ⟨hh.1.1, hh.1.2.1⟩
theorem key_false {n : Nd} {x : Int} {k : Nat} (hk : k < n.2.1.length) (h : ¬ KeyOK n.2.1 k) : ¬ NodeOK n x := fun hh => h (hh.1.2.2 k hk)
theorem asB_iff {p q : Prop} (h : p ↔ q) : asB p = asB q := by
  have : p = q := propext h
  rw [this]

set_option maxRecDepth 100000 in
set_option maxHeartbeats 4000000 in
theorem nodeOK_any (ka va ia : Option Addr) (kc vc ic : Nat) (l : Bool) (ks vs : List ByteArray) (is : List Int) (at' : Int) (w : World) (h : NodeR w ka va ia (l, ks, vs, is)) (hs : SmallN (l, ks, vs, is)) :
    Calls Try.prog 67 #[NV l ka ks.length kc va vs.length vc ia is.length ic, .int .i64 at'] w fun e w' => e = .returned (.bool (asB (NodeOK (l, ks, vs, is) at'))) ∧ Below w.heap.size w w' := by
  have HN : Hid (NodeR w ka va ia (l, ks, vs, is)) := h
  have HM : Hid (SmallN (l, ks, vs, is)) := hs
  have HK : Hid (RowS w ka ks) := h.1
  obtain ⟨lk, lv, li⟩ := hs
  simp only at lk lv li
  clear h
  obtain ⟨W0, hW0⟩ : ∃ W0, w.alloc (.cells #[.bool l, .slice ka ks.length kc, .slice va vs.length vc, .slice ia is.length ic] 93) = W0 := ⟨_, rfl⟩
  have B0 : Below w.heap.size w W0 := hW0 ▸ (Below.refl _ _).alloc (Nat.le_refl _) _
  have xb : W0.heap[w.heap.size]? = some (.cells #[.bool l, .slice ka ks.length kc, .slice va vs.length vc, .slice ia is.length ic] 93 (0, 0)) := by rw [← hW0]; exact heap_new' _ _ _ rfl
  have c0 : W0.cell? ⟨w.heap.size, 0, none⟩ = some (.bool l) := by simp [World.cell?, xb]
  have c1 : W0.cell? ⟨w.heap.size, 1, none⟩ = some (.slice ka ks.length kc) := by simp [World.cell?, xb]
  have c2 : W0.cell? ⟨w.heap.size, 2, none⟩ = some (.slice va vs.length vc) := by simp [World.cell?, xb]
  have c3 : W0.cell? ⟨w.heap.size, 3, none⟩ = some (.slice ia is.length ic) := by simp [World.cell?, xb]
  clear xb
  by_cases h1 : (ks.length : Int) < 1
  · have HF : Hid (¬ NodeOK (l, ks, vs, is) at') := keys_false (by simp only; omega)
    go_enter Try.func67, Try.ntmps67
    go_wp2
    go_ret
    exact ⟨ret_bool' (asB_false HF.out), B0⟩
  by_cases h4 : (4 : Int) < (ks.length : Int)
  · have HF : Hid (¬ NodeOK (l, ks, vs, is) at') := keys_false (by simp only; omega)
    go_enter Try.func67, Try.ntmps67
    go_wp2
    go_ret
    exact ⟨ret_bool' (asB_false HF.out), B0⟩
  obtain ⟨len, hlen⟩ : ∃ m, ks.length = m := ⟨_, rfl⟩
  have HL : Hid (ks.length = len) := hlen
  rw [hlen] at h1 h4 c1 lk ⊢
  clear hlen
  go_enter Try.func67, Try.ntmps67
  rw [HL.out] at hW0
  go_wp2
  go_loopw [20] (fun i wr => ∃ k : Nat, k ≤ len ∧ i = .int .i64 k ∧ Hid (∀ i, i < k → KeyOK ks i) ∧ wr = W0) (fun i _ => len - (intOf i).toNat)
  case atStart => exact ⟨0, by omega, rfl, fun i hi => by omega, rfl⟩
  case round =>
    obtain ⟨k, hk, rfl, HS, rfl⟩ := hrel
    by_cases hlt : k < len
    · have hltI : (k : Int) < (len : Int) := by omega
      have HF : Hid (¬ KeyOK ks k → ¬ NodeOK (l, ks, vs, is) at') := fun h => key_false (by simp only; rw [HL.out]; exact hlt) h
      have HT : Hid (KeyOK ks k → ∀ i, i < k + 1 → KeyOK ks i) := fun h i hi => by
        by_cases e : i = k
        · rw [e]; exact h
        · exact HS.out i (by omega)
      obtain ⟨b, off, rfl, hlb, hc, hsz⟩ := (HK.out.below B0) k (by rw [HL.out]; exact hlt)
      unfold maxLen at hsz
      by_cases h8 : (80 : Int) < ((nthS ks k).size : Int)
      · have HFF : Hid (¬ NodeOK (l, ks, vs, is) at') := HF.out (fun h => by have := h.1; omega)
        clear HF HT
        go_wp2
        go_ret
        exact ⟨ret_bool' (asB_false HFF.out), B0⟩
      by_cases hz : k = 0
      · subst hz
        have HN' : Hid (∀ i, i < 0 + 1 → KeyOK ks i) := HT.out ⟨by omega, fun h => by omega⟩
        clear HF HT
        rw [Nat.add_zero] at hc
        go_wp2
        go_roundw
        case rel => exact ⟨1, by omega, by go_num, HN', by first | trivial | rfl⟩
        case measure => simp [intOf]; omega
      · obtain ⟨j, rfl⟩ : ∃ j, k = j + 1 := ⟨k - 1, by omega⟩
        obtain ⟨b', off', e', hlb', hc', hsz'⟩ := (HK.out.below B0) j (by rw [HL.out]; omega)
        cases e'
        have hsub : (j : Int) + 1 - 1 = (j : Int) := by omega
        have hj : (j : Int) < (len : Int) := by omega
        have htot := less_tot (nthS ks j).toList (nthS ks (j + 1)).toList
        cases hless : Op.bytesLess (nthS ks j).toList (nthS ks (j + 1)).toList with
        | true =>
          have HN' : Hid (∀ i, i < j + 1 + 1 → KeyOK ks i) := HT.out ⟨by omega, fun _ => hless⟩
          rw [hless] at htot
          have ht : (Op.bytesLess (nthS ks (j + 1)).toList (nthS ks j).toList || (nthS ks (j + 1)).toList == (nthS ks j).toList) = false := htot
          clear HF HT htot hless
          generalize nthS ks (j + 1) = s1 at *
          generalize nthS ks j = s0 at *
          go_wp2
          go_roundw
          case rel => exact ⟨j + 1 + 1, by omega, by go_num, HN', by first | trivial | rfl⟩
          case measure => simp [intOf]; omega
        | false =>
          have HFF : Hid (¬ NodeOK (l, ks, vs, is) at') := HF.out (fun h => by have := h.2 (by omega); simp only [Nat.add_sub_cancel] at this; rw [hless] at this; cases this)
          rw [hless] at htot
          have ht : (Op.bytesLess (nthS ks (j + 1)).toList (nthS ks j).toList || (nthS ks (j + 1)).toList == (nthS ks j).toList) = true := htot
          clear HF HT htot hless
          generalize nthS ks (j + 1) = s1 at *
          generalize nthS ks j = s0 at *
          go_wp2
          go_ret
          exact ⟨ret_bool' (asB_false HFF.out), B0⟩
    · obtain rfl : k = len := by omega
      have HKs : Hid (1 ≤ ks.length ∧ ks.length ≤ 4 ∧ ∀ i, i < ks.length → KeyOK ks i) := ⟨by rw [HL.out]; omega, by rw [HL.out]; omega, fun i hi => HS.out i (by rw [← HL.out]; exact hi)⟩
      cases l with
      | true =>
        by_cases hi0 : (is.length : Int) = 0
        · have HI0 : Hid (is.length = 0) := by show _ = _; omega
          go_wp2_with fail
          rw [← HL.out]
          refine (valsOK_any ka va ia kc vc ic true ks vs is wr (HN.out.below B0) HM.out).mono ?_
          rintro e w2 ⟨rfl, hb2⟩
          have HE : Hid (asB (NodeOK (true, ks, vs, is) at') = asB (ValsOK ks vs)) := asB_iff (NodeOK.leaf.trans ⟨fun h => h.2.2, fun h => ⟨HKs.out, HI0.out, h⟩⟩)
          generalize asB (ValsOK ks vs) = r at *
          go_wp2
          go_ret
          exact ⟨ret_bool' HE.out.symm, below_step B0 (Nat.le_refl _) hb2⟩
        · have HFF : Hid (¬ NodeOK (true, ks, vs, is) at') := fun h => hi0 (by have := (NodeOK.leaf.1 h).2.1; omega)
          have hi1 : ((is.length : Int) == 0) = false := by simpa using hi0
          go_wp2
          go_ret
          exact ⟨ret_bool' (asB_false HFF.out), B0⟩
      | false =>
        by_cases hi0 : (vs.length : Int) = 0
        · have HI0 : Hid (vs.length = 0) := by show _ = _; omega
          go_wp2_with fail
          rw [← HL.out]
          refine (kidsOK_any ka va ia kc vc ic false ks vs is at' wr (HN.out.below B0) HM.out).mono ?_
          rintro e w2 ⟨rfl, hb2⟩
          have HE : Hid (asB (NodeOK (false, ks, vs, is) at') = asB (KidsOK ks is at')) := asB_iff (NodeOK.inner.trans ⟨fun h => h.2.2, fun h => ⟨HKs.out, HI0.out, h⟩⟩)
          generalize asB (KidsOK ks is at') = r at *
          go_wp2
          go_ret
          exact ⟨ret_bool' HE.out.symm, below_step B0 (Nat.le_refl _) hb2⟩
        · have HFF : Hid (¬ NodeOK (false, ks, vs, is) at') := fun h => hi0 (by have := (NodeOK.inner.1 h).2.1; omega)
          have hi1 : ((vs.length : Int) == 0) = false := by simpa using hi0
          go_wp2
          go_ret
          exact ⟨ret_bool' (asB_false HFF.out), B0⟩
end Go.Proofs.Ythflalpapdaidaa
