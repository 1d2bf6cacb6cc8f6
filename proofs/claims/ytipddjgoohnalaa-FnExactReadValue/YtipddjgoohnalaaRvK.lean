/- The specification's reading of a literal, held against impl's: plain mathematics. -/
import Derived.Test.YtipddjgoohnalaaRvJ
namespace Go.Proofs.Ytipddjgoohnalaa
open Go.RowKit

theorem ext_all (s : ByteArray) : s.extract 0 s.size = s := by
  apply ByteArray.ext
  rw [ByteArray.data_extract]
  exact Array.extract_size
theorem pre_is {s : ByteArray} {c : UInt8} : pre s c = true ↔ 0 < s.size ∧ byteAt s 0 = (c.toNat : Int) := by
  unfold pre
  rw [Bool.and_eq_true, decide_eq_true_iff, beq_iff_eq]
theorem quoR_is {f : Nat → Int} {n k : Nat} {p : List UInt8 × Nat} (h : quoR f n k = some p) : k < n ∧ f k = 39 ∧ quo f n (k + 1) [] = some p := by
  unfold quoR at h
  split at h
  · rename_i hc
    exact ⟨hc.1, hc.2, h⟩
  · cases h
theorem text_some {s : ByteArray} {l : List UInt8} (h : quoR (byteAt s) s.size 0 = some (l, s.size)) : pre s 39 = true ∧ unqV s = some (strOf l) := by
  obtain ⟨h0, h1, h2⟩ := quoR_is h
  refine ⟨pre_is.2 ⟨h0, h1⟩, ?_⟩
  obtain ⟨q1, q2⟩ := quo_btw h0 h1
  rw [ext_all] at q1 q2
  unfold unqV
  cases hb : btw s with
  | none => exact absurd h2 (q2 hb l)
  | some t =>
    obtain ⟨q3, q4⟩ := q1 t hb
    show (unq (byteAt t) t.size 0 []).map strOf = _
    cases hu : unq (byteAt t) t.size 0 [] with
    | none => exact absurd h2 (q4 hu l)
    | some l' =>
      have := (q3 l' hu).symm.trans h2
      cases this
      rfl
theorem text_none {s : ByteArray} (h : ∀ l, quoR (byteAt s) s.size 0 ≠ some (l, s.size)) (hp : pre s 39 = true) : unqV s = none := by
  obtain ⟨h0, h1⟩ := pre_is.1 hp
  obtain ⟨q1, q2⟩ := quo_btw h0 h1
  rw [ext_all] at q1 q2
  unfold unqV
  cases hb : btw s with
  | none => rfl
  | some t =>
    obtain ⟨q3, q4⟩ := q1 t hb
    show (unq (byteAt t) t.size 0 []).map strOf = _
    cases hu : unq (byteAt t) t.size 0 [] with
    | none => rfl
    | some l' => exact absurd ((if_pos ⟨h0, h1⟩ : quoR (byteAt s) s.size 0 = _).trans (q3 l' hu)) (h l')
theorem hex_some {s : ByteArray} {l : List UInt8} (h : quoR (byteAt s) s.size 1 = some (l, s.size)) : unhV (s.extract 1 s.size) = hexV (strOf l) := by
  obtain ⟨h0, h1, h2⟩ := quoR_is h
  obtain ⟨q1, q2⟩ := quo_btw h0 h1
  unfold unhV
  cases hb : btw (s.extract 1 s.size) with
  | none => exact absurd h2 (q2 hb l)
  | some t =>
    obtain ⟨q3, q4⟩ := q1 t hb
    show hexV t = _
    cases hu : unq (byteAt t) t.size 0 [] with
    | none => exact absurd h2 (q4 hu l)
    | some l' =>
      have := (q3 l' hu).symm.trans h2
      cases this
      exact (hexV_unq hu).symm
theorem hex_none {s : ByteArray} (h : ∀ l, quoR (byteAt s) s.size 1 ≠ some (l, s.size)) : unhV (s.extract 1 s.size) = none := by
  unfold unhV
  cases hb : btw (s.extract 1 s.size) with
  | none => rfl
  | some t =>
    have hb' := hb
    unfold btw at hb'
    split at hb'
    · rename_i hc
      obtain ⟨c1, c2, _⟩ := hc
      rw [ext_len] at c1
      rw [ext_at s 1 s.size 0 (Nat.le_refl _) (by omega)] at c2
      have h0 : 1 < s.size := by omega
      obtain ⟨q1, q2⟩ := quo_btw h0 c2
      obtain ⟨q3, q4⟩ := q1 t hb
      show hexV t = none
      cases hh : hexV t with
      | none => rfl
      | some b =>
        obtain ⟨l', hu⟩ := unq_of_hexV hh
        exact absurd ((if_pos ⟨h0, c2⟩ : quoR (byteAt s) s.size 1 = _).trans (q3 l' hu)) (h l')
    · cases hb'
theorem empty_is : ((⟨#[]⟩ : ByteArray).toList.isEmpty) = true := by rw [ByteArray.toList_eq]; rfl
theorem lit_text_ok (t : ByteArray) : okV 3 0 t = decide ((t.size : Int) ≤ 60) := by
  unfold okV
  rw [if_neg (by omega), if_neg (by omega), if_neg (by omega), if_pos (.inl rfl)]
  rfl
theorem lit_hex_ok (t : ByteArray) : okV 4 0 t = decide ((t.size : Int) ≤ 60) := by
  unfold okV
  rw [if_neg (by omega), if_neg (by omega), if_neg (by omega), if_pos (.inr rfl)]
  rfl
theorem lit_num_ok (n : Int) : okV 2 n ⟨#[]⟩ = true := by
  unfold okV
  rw [if_neg (by omega), if_neg (by omega), if_pos rfl, empty_is]
theorem lit_null_ok : okV 0 0 ⟨#[]⟩ = true := by unfold okV; rw [if_pos rfl, empty_is]; rfl
theorem lit_bool_ok (n : Int) (h : n = 0 ∨ n = 1) : okV 1 n ⟨#[]⟩ = true := by
  unfold okV
  rw [if_neg (by omega), if_pos rfl, empty_is, Bool.and_true]
  rcases h with rfl | rfl <;> rfl
end Go.Proofs.Ytipddjgoohnalaa
