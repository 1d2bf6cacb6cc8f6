/- Metas: which are right, and the program's sector of one. -/
import Derived.Test.YtbnnplelbbcanaaRdQ
namespace Go.Proofs.Ytbnnplelbbcanaa
open Go.RowKit

abbrev MV (e f l : Int) : Value := .agg #[.int .i64 e, .int .i64 f, .int .i64 l]
/-- A right meta. -/
def okM (e f l : Int) : Bool := inB e 1 4294967295 && (inB l 0 3000 && (if l = 0 then decide (f = 0) else inB f 2 255))
theorem inB_len {l : Int} (h1 : ¬ l < 0) (h2 : ¬ 3000 < l) : inB l 0 3000 = true := decide_eq_true (by omega)

set_option maxRecDepth 100000 in
set_option maxHeartbeats 2000000 in
theorem isMeta_any (e f l : Int) (w : World) : Calls Try.prog 35 #[MV e f l] w fun x w' => x = .returned (.bool (okM e f l)) ∧ Below w.heap.size w w' := by
  cases h1 : inB e 1 4294967295
  · have E : Hid (okM e f l = false) := by show _ = _; unfold okM; rw [h1]; rfl
    go_enter Try.func35, Try.ntmps35
    go_wp2_with (go_at_call 28; refine (isEpoch_any _ _).mono ?_; rintro e w' ⟨rfl, hq⟩; obtain rfl := hq.symm)
    go_ret
    exact ⟨ret_bool' E.out.symm, (Below.refl _ _).alloc (Nat.le_refl _) _⟩
  by_cases h2 : l < 0
  · have E : Hid (okM e f l = false) := by show _ = _; unfold okM; rw [h1, show inB l 0 3000 = false from decide_eq_false (by omega)]; rfl
    go_enter Try.func35, Try.ntmps35
    go_wp2_with (go_at_call 28; refine (isEpoch_any _ _).mono ?_; rintro e w' ⟨rfl, hq⟩; obtain rfl := hq.symm)
    go_ret
    exact ⟨ret_bool' E.out.symm, (Below.refl _ _).alloc (Nat.le_refl _) _⟩
  by_cases h3 : 3000 < l
  · have E : Hid (okM e f l = false) := by show _ = _; unfold okM; rw [h1, show inB l 0 3000 = false from decide_eq_false (by omega)]; rfl
    go_enter Try.func35, Try.ntmps35
    go_wp2_with (go_at_call 28; refine (isEpoch_any _ _).mono ?_; rintro e w' ⟨rfl, hq⟩; obtain rfl := hq.symm)
    go_ret
    exact ⟨ret_bool' E.out.symm, (Below.refl _ _).alloc (Nat.le_refl _) _⟩
  by_cases h4 : l = 0
  · subst h4
    by_cases h5 : f = 0
    · subst h5
      have E : Hid (okM e 0 0 = true) := by show _ = _; unfold okM; rw [h1]; rfl
      go_enter Try.func35, Try.ntmps35
      go_wp2_with (go_at_call 28; refine (isEpoch_any _ _).mono ?_; rintro e w' ⟨rfl, hq⟩; obtain rfl := hq.symm)
      go_ret
      exact ⟨ret_bool' E.out.symm, (Below.refl _ _).alloc (Nat.le_refl _) _⟩
    · have h5' : (f == 0) = false := by simpa using h5
      have E : Hid (okM e f 0 = false) := by show _ = _; unfold okM; rw [h1, if_pos rfl, decide_eq_false h5]; rfl
      go_enter Try.func35, Try.ntmps35
      go_wp2_with (go_at_call 28; refine (isEpoch_any _ _).mono ?_; rintro e w' ⟨rfl, hq⟩; obtain rfl := hq.symm)
      go_ret
      exact ⟨ret_bool' E.out.symm, (Below.refl _ _).alloc (Nat.le_refl _) _⟩
  · have E : Hid (okM e f l = inB f 2 255) := by show _ = _; unfold okM; rw [h1, inB_len h2 h3, if_neg h4]; simp
    go_enter Try.func35, Try.ntmps35
    go_wp2_with (first | (go_at_call 28; refine (isEpoch_any _ _).mono ?_; rintro e w' ⟨rfl, hq⟩; obtain rfl := hq.symm) | (go_at_call 27; refine (isPage_any _ _).mono ?_; rintro e w' ⟨rfl, hq⟩; obtain rfl := hq.symm))
    go_ret
    exact ⟨ret_bool' E.out.symm, (Below.refl _ _).alloc (Nat.le_refl _) _⟩

set_option maxRecDepth 100000 in
set_option maxHeartbeats 2000000 in
theorem l03MetaOK_any (e f l : Int) (w : World) : Calls Try.prog 40 #[MV e f l] w fun x w' => x = .returned (.bool (okM e f l)) ∧ Below w.heap.size w w' := by
  cases h1 : inB e 1 4294967295
  · have E : Hid (okM e f l = false) := by show _ = _; unfold okM; rw [h1]; rfl
    go_enter Try.func40, Try.ntmps40
    go_wp2_with (go_at_call 31; refine (l01In_any _ _ _ _).mono ?_; rintro e w' ⟨rfl, hq⟩; obtain rfl := hq.symm)
    go_ret
    exact ⟨ret_bool' E.out.symm, (Below.refl _ _).alloc (Nat.le_refl _) _⟩
  cases h2 : inB l 0 3000
  · have E : Hid (okM e f l = false) := by show _ = _; unfold okM; rw [h1, h2]; rfl
    go_enter Try.func40, Try.ntmps40
    go_wp2_with (go_at_call 31; refine (l01In_any _ _ _ _).mono ?_; rintro e w' ⟨rfl, hq⟩; obtain rfl := hq.symm)
    go_ret
    exact ⟨ret_bool' E.out.symm, (Below.refl _ _).alloc (Nat.le_refl _) _⟩
  by_cases h4 : l = 0
  · subst h4
    by_cases h5 : f = 0
    · subst h5
      have E : Hid (okM e 0 0 = true) := by show _ = _; unfold okM; rw [h1]; rfl
      go_enter Try.func40, Try.ntmps40
      go_wp2_with (go_at_call 31; refine (l01In_any _ _ _ _).mono ?_; rintro e w' ⟨rfl, hq⟩; obtain rfl := hq.symm)
      go_ret
      exact ⟨ret_bool' E.out.symm, (Below.refl _ _).alloc (Nat.le_refl _) _⟩
    · have h5' : (f == 0) = false := by simpa using h5
      have E : Hid (okM e f 0 = false) := by show _ = _; unfold okM; rw [h1, if_pos rfl, decide_eq_false h5]; rfl
      go_enter Try.func40, Try.ntmps40
      go_wp2_with (go_at_call 31; refine (l01In_any _ _ _ _).mono ?_; rintro e w' ⟨rfl, hq⟩; obtain rfl := hq.symm)
      go_ret
      exact ⟨ret_bool' E.out.symm, (Below.refl _ _).alloc (Nat.le_refl _) _⟩
  · by_cases h5 : f = 0
    · subst h5
      have h4' : (l == 0) = false := by simpa using h4
      have E : Hid (okM e 0 l = false) := by show _ = _; unfold okM; rw [h1, h2, if_neg h4]; rfl
      go_enter Try.func40, Try.ntmps40
      go_wp2_with (go_at_call 31; refine (l01In_any _ _ _ _).mono ?_; rintro e w' ⟨rfl, hq⟩; obtain rfl := hq.symm)
      go_ret
      exact ⟨ret_bool' E.out.symm, (Below.refl _ _).alloc (Nat.le_refl _) _⟩
    · have h4' : (l == 0) = false := by simpa using h4
      have h5' : (f == 0) = false := by simpa using h5
      have E : Hid (okM e f l = inB f 2 255) := by show _ = _; unfold okM; rw [h1, h2, if_neg h4]; simp
      go_enter Try.func40, Try.ntmps40
      go_wp2_with (go_at_call 31; refine (l01In_any _ _ _ _).mono ?_; rintro e w' ⟨rfl, hq⟩; obtain rfl := hq.symm)
      go_ret
      exact ⟨ret_bool' E.out.symm, (Below.refl _ _).alloc (Nat.le_refl _) _⟩
end Go.Proofs.Ytbnnplelbbcanaa
