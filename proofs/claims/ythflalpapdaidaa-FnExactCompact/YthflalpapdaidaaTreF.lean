/- What a right node is; how impl looks at values, kids and a node (stage 5). -/
import Derived.Test.YthflalpapdaidaaTreE
namespace Go.Proofs.Ythflalpapdaidaa
open Go.RowKit

noncomputable def asB (p : Prop) : Bool := @decide p (Classical.propDecidable p)
theorem asB_true {p : Prop} (h : p) : true = asB p := by unfold asB; exact (@decide_eq_true _ (Classical.propDecidable _) h).symm
theorem asB_false {p : Prop} (h : ¬ p) : false = asB p := by unfold asB; exact (@decide_eq_false _ (Classical.propDecidable _) h).symm
theorem asB_is {p : Prop} (h : asB p = true) : p := by unfold asB at h; exact @of_decide_eq_true _ (Classical.propDecidable _) h
theorem asB_not {p : Prop} (h : asB p = false) : ¬ p := by unfold asB at h; exact @of_decide_eq_false _ (Classical.propDecidable _) h

theorem less_tot : ∀ x y : List UInt8, (Op.bytesLess y x || y == x) = !Op.bytesLess x y
  | [], [] => rfl
  | [], b :: y => by simp [Op.bytesLess]
  | a :: x, [] => by simp [Op.bytesLess]
  | a :: x, b :: y => by
    have ih := less_tot x y
    unfold Op.bytesLess
    by_cases e : a = b
    · subst e
      simp
      rw [← ih]
    · have e' : ¬ b = a := fun h => e h.symm
      have h1 : (b == a) = false := by simpa using e'
      have h2 : (a == b) = false := by simpa using e
      rw [h1, h2]
      have h3 : (b :: y == a :: x) = false := by simp [e']
      rw [h3]
      simp
      have : a.toNat ≠ b.toNat := fun h => e (UInt8.toNat_inj.1 h)
      rcases Nat.lt_or_ge a.toNat b.toNat with h | h
      · have p1 : a < b := UInt8.lt_iff_toNat_lt.2 h
        have p2 : ¬ b < a := fun h' => by have := UInt8.lt_iff_toNat_lt.1 h'; omega
        rw [decide_eq_true p1, decide_eq_false p2]; rfl
      · have p1 : ¬ a < b := fun h' => by have := UInt8.lt_iff_toNat_lt.1 h'; omega
        have p2 : b < a := UInt8.lt_iff_toNat_lt.2 (by omega)
        rw [decide_eq_false p1, decide_eq_true p2]; rfl
def KeyOK (ks : List ByteArray) (i : Nat) : Prop := (nthS ks i).size ≤ 80 ∧ (0 < i → Op.bytesLess (nthS ks (i - 1)).toList (nthS ks i).toList = true)
def ValsOK (ks vs : List ByteArray) : Prop := vs.length = ks.length ∧ ∀ i, i < vs.length → (nthS vs i).size ≤ 200
def KidsOK (ks : List ByteArray) (is : List Int) (at' : Int) : Prop := is.length = ks.length + 1 ∧ ∀ i, i < is.length → 0 ≤ nthI is i ∧ nthI is i < at'
/-- A right node. -/
def NodeOK (n : Nd) (at' : Int) : Prop :=
  (1 ≤ n.2.1.length ∧ n.2.1.length ≤ 4 ∧ ∀ i, i < n.2.1.length → KeyOK n.2.1 i) ∧ (n.1 = true → n.2.2.2.length = 0 ∧ ValsOK n.2.1 n.2.2.1) ∧ (n.1 = false → n.2.2.1.length = 0 ∧ KidsOK n.2.1 n.2.2.2 at')

set_option maxRecDepth 100000 in
set_option maxHeartbeats 2000000 in
theorem valsOK_any (ka va ia : Option Addr) (kc vc ic : Nat) (l : Bool) (ks vs : List ByteArray) (is : List Int) (w : World) (h : NodeR w ka va ia (l, ks, vs, is)) (hs : SmallN (l, ks, vs, is)) :
    Calls Try.prog 103 #[NV l ka ks.length kc va vs.length vc ia is.length ic] w fun e w' => e = .returned (.bool (asB (ValsOK ks vs))) ∧ Below w.heap.size w w' := by
  obtain ⟨_, hv, _, _, _, _⟩ := h
  obtain ⟨lk, lv, li⟩ := hs
  simp only at lk lv li
  have HV : Hid (RowS w va vs) := hv
  clear hv
  have B0 : Below w.heap.size w (w.alloc (.cells #[.bool l, .slice ka ks.length kc, .slice va vs.length vc, .slice ia is.length ic] 93)) := (Below.refl _ _).alloc (Nat.le_refl _) _
  by_cases hne : vs.length = ks.length
  · have HE : Hid (vs.length = ks.length) := hne
    obtain ⟨lenv, hlv⟩ : ∃ m, vs.length = m := ⟨_, rfl⟩
    have HLv : Hid (vs.length = lenv) := hlv
    rw [hlv] at hne lv B0 ⊢
    rw [← hne] at B0 ⊢
    clear hlv hne
    go_enter Try.func103, Try.ntmps103
    go_wp2
    go_loopw [15] (fun i wr => ∃ k : Nat, k ≤ lenv ∧ i = .int .i64 k ∧ Hid (∀ i, i < k → (nthS vs i).size ≤ 200) ∧ Below w.heap.size w wr) (fun i _ => lenv - (intOf i).toNat)
    case atStart => exact ⟨0, by omega, rfl, fun i hi => by omega, B0⟩
    case round =>
      obtain ⟨k, hk, rfl, HS, hbl⟩ := hrel
      by_cases hlt : k < lenv
      · have hltI : (k : Int) < (lenv : Int) := by omega
        obtain ⟨b, off, rfl, hlb, hc, hsz⟩ := (HV.out.below hbl) k (by rw [HLv.out]; exact hlt)
        unfold maxLen at hsz
        by_cases h2 : (200 : Int) < ((nthS vs k).size : Int)
        · have HF : Hid (¬ ValsOK ks vs) := fun hh => by have := hh.2 k (by rw [HLv.out]; exact hlt); omega
          go_wp2
          go_ret
          exact ⟨ret_bool' (asB_false HF.out), hbl⟩
        · have HN : Hid (∀ i, i < k + 1 → (nthS vs i).size ≤ 200) := fun i hi => by
            by_cases e : i = k
            · rw [e]; omega
            · exact HS.out i (by omega)
          go_wp2
          go_roundw
          case rel => exact ⟨k + 1, by omega, by go_num, HN, hbl⟩
          case measure => simp [intOf]; omega
      · obtain rfl : k = lenv := by omega
        have HT : Hid (ValsOK ks vs) := ⟨HE.out, fun i hi => HS.out i (by rw [← HLv.out]; exact hi)⟩
        go_wp2
        go_ret
        exact ⟨ret_bool' (asB_true HT.out), hbl⟩
  · have HF : Hid (¬ ValsOK ks vs) := fun hh => hne hh.1
    have hneI : ¬ (vs.length : Int) = (ks.length : Int) := by omega
    go_enter Try.func103, Try.ntmps103
    go_wp2
    go_ret
    exact ⟨ret_bool' (asB_false HF.out), B0⟩

set_option maxRecDepth 100000 in
set_option maxHeartbeats 2000000 in
theorem kidsOK_any (ka va ia : Option Addr) (kc vc ic : Nat) (l : Bool) (ks vs : List ByteArray) (is : List Int) (at' : Int) (w : World) (h : NodeR w ka va ia (l, ks, vs, is)) (hs : SmallN (l, ks, vs, is)) :
    Calls Try.prog 104 #[NV l ka ks.length kc va vs.length vc ia is.length ic, .int .i64 at'] w fun e w' => e = .returned (.bool (asB (KidsOK ks is at'))) ∧ Below w.heap.size w w' := by
  obtain ⟨_, _, hv, _, _, _⟩ := h
  obtain ⟨lk, lv, li⟩ := hs
  simp only at lk lv li
  have HV : Hid (RowI w ia is) := hv
  clear hv
  have B0 : Below w.heap.size w (w.alloc (.cells #[.bool l, .slice ka ks.length kc, .slice va vs.length vc, .slice ia is.length ic] 93)) := (Below.refl _ _).alloc (Nat.le_refl _) _
  by_cases hne : is.length = ks.length + 1
  · have HE : Hid (is.length = ks.length + 1) := hne
    obtain ⟨lenk, hlk⟩ : ∃ m, ks.length = m := ⟨_, rfl⟩
    have HLi : Hid (is.length = lenk + 1) := by show _ = _; omega
    rw [hlk] at lk B0 ⊢
    rw [HLi.out] at li B0 ⊢
    clear hlk hne
    go_enter Try.func104, Try.ntmps104
    go_wp2
    go_loopw [18] (fun i wr => ∃ k : Nat, k ≤ lenk + 1 ∧ i = .int .i64 k ∧ Hid (∀ i, i < k → 0 ≤ nthI is i ∧ nthI is i < at') ∧ Below w.heap.size w wr) (fun i _ => lenk + 1 - (intOf i).toNat)
    case atStart => exact ⟨0, by omega, rfl, fun i hi => by omega, B0⟩
    case round =>
      obtain ⟨k, hk, rfl, HS, hbl⟩ := hrel
      by_cases hlt : k < lenk + 1
      · have hltI : (k : Int) < (lenk : Int) + 1 := by omega
        obtain ⟨b, off, rfl, hlb, hc⟩ := (HV.out.below hbl) k (by rw [HLi.out]; exact hlt)
        have HF : Hid (¬ (0 ≤ nthI is k ∧ nthI is k < at') → ¬ KidsOK ks is at') := fun h hh => h (hh.2 k (by rw [HLi.out]; exact hlt))
        have HN : Hid ((0 ≤ nthI is k ∧ nthI is k < at') → ∀ i, i < k + 1 → 0 ≤ nthI is i ∧ nthI is i < at') := fun h i hi => by
          by_cases e : i = k
          · rw [e]; exact h
          · exact HS.out i (by omega)
        generalize nthI is k = x at *
        by_cases h1 : x < 0
        · have HG := HF.out (by omega)
          have HFF : Hid (¬ KidsOK ks is at') := HG
          clear HG HF HN
          go_wp2
          go_ret
          exact ⟨ret_bool' (asB_false HFF.out), hbl⟩
        by_cases h2 : at' ≤ x
        · have HG := HF.out (by omega)
          have HFF : Hid (¬ KidsOK ks is at') := HG
          clear HG HF HN
          go_wp2
          go_ret
          exact ⟨ret_bool' (asB_false HFF.out), hbl⟩
        · have HN' : Hid (∀ i, i < k + 1 → 0 ≤ nthI is i ∧ nthI is i < at') := HN.out (by omega)
          clear HF HN
          go_wp2
          go_roundw
          case rel => exact ⟨k + 1, by omega, by go_num, HN', hbl⟩
          case measure => simp [intOf]; omega
      · obtain rfl : k = lenk + 1 := by omega
        have HT : Hid (KidsOK ks is at') := ⟨HE.out, fun i hi => HS.out i (by rw [← HLi.out]; exact hi)⟩
        have hnlt : ¬ ((lenk + 1 : Nat) : Int) < (lenk : Int) + 1 := by omega
        go_wp2
        go_ret
        exact ⟨ret_bool' (asB_true HT.out), hbl⟩
  · have HF : Hid (¬ KidsOK ks is at') := fun hh => hne hh.1
    have hneI : ¬ (is.length : Int) = (ks.length : Int) + 1 := by omega
    go_enter Try.func104, Try.ntmps104
    go_wp2
    go_ret
    exact ⟨ret_bool' (asB_false HF.out), B0⟩
end Go.Proofs.Ythflalpapdaidaa
