/- Both Grouped (stage 11). -/
import Derived.Test.YtjidinpebpkfaaaGrC
import Derived.Test.YtjidinpebpkfaaaSqQ
namespace Go.Proofs.Ytjidinpebpkfaaa
open Go.RowKit

/-- What Grouped answers. -/
noncomputable def gAns (x : ND) (ks : Fo) : Bool := decide (x.k = 1) && sqlB x ks && grpF ks
noncomputable def gCode (x : ND) (ks : Fo) : Int := if x.k = 1 ∧ sqlB x ks = true then 0 else 1
def RetG (x : ND) (ks : Fo) (w : World) (e : Ending) (w' : World) : Prop := e = .returned (.tuple #[.bool (gAns x ks), .int .i64 (gCode x ks)]) ∧ Below w.heap.size w w'
theorem RetG.bad {x : ND} {ks : Fo} {w w' : World} {e : Ending} (h : ¬ (x.k = 1 ∧ sqlB x ks = true)) (he : e = .returned (.tuple #[.bool false, .int .i64 1])) (hb : Below w.heap.size w w') : RetG x ks w e w' := by
  have h1 : gAns x ks = false := by
    unfold gAns
    by_cases h1 : x.k = 1
    · cases h2 : sqlB x ks with
      | true => exact absurd ⟨h1, h2⟩ h
      | false => rw [Bool.and_false]; rfl
    · rw [decide_eq_false h1]; rfl
  have h2 : gCode x ks = 1 := if_neg h
  exact ⟨by rw [h1, h2]; exact he, hb⟩
theorem RetG.ok {x : ND} {ks : Fo} {w w' : World} {e : Ending} (h1 : x.k = 1) (h2 : sqlB x ks = true) (he : e = .returned (.tuple #[.bool (grpF ks), .int .i64 0])) (hb : Below w.heap.size w w') : RetG x ks w e w' := by
  have h3 : gAns x ks = grpF ks := by unfold gAns; rw [decide_eq_true h1, h2]; rfl
  have h4 : gCode x ks = 0 := if_pos ⟨h1, h2⟩
  exact ⟨by rw [h3, h4]; exact he, hb⟩

set_option maxRecDepth 100000 in
set_option maxHeartbeats 4000000 in
theorem specGrouped_any (x : ND) (ks : Fo) (ka : Option Addr) (kc : Nat) (w : World) (hrow : RowT 0 w ka 0 ks) (hsz : ks.size ≤ 1048576) (ht : TextsN maxLen x) :
    Calls Try.prog 11 #[ValT x (.slice ka ks.len kc)] w (RetG x ks w) := by
  have hlen : ks.len ≤ maxLen := by have := ks.len_le; unfold maxLen; omega
  have B1 : Below w.heap.size w (w.alloc (.cells #[.int .i64 x.k, .int .i64 x.n, .string x.nm, .string x.of, .int .i64 x.vk, .int .i64 x.vn, .string x.vt, .slice ka ks.len kc] 41)) := (Below.refl _ _).alloc (Nat.le_refl _) _
  have X0 : Hid (CellT (w.alloc (.cells #[.int .i64 x.k, .int .i64 x.n, .string x.nm, .string x.of, .int .i64 x.vk, .int .i64 x.vn, .string x.vt, .slice ka ks.len kc] 41)) w.heap.size 0 x (.slice ka ks.len kc)) := cellT_new x _ 41
  have HS := specSqlOK_any x ks ka kc _ (hrow.below B1) hsz ht
  have HG : Hid (∀ w1, Below w.heap.size w w1 → Calls Try.prog 25 #[ValT x (.slice ka ks.len kc)] w1 fun e w' => e = .returned (.bool (grpF ks)) ∧ Below w1.heap.size w1 w') := fun w1 b => l11Grouped_any x ks ka kc w1 (hrow.below b) hlen
  clear hrow hsz ht hlen
  by_cases h1 : x.k = 1
  · obtain ⟨k, n, nm, of, vk, vn, vt⟩ := x
    simp only at h1
    subst h1
    obtain ⟨y0, y1, y2, y3, y4, y5, y6, y7⟩ := X0.out
    simp only at y0
    go_enter Try.func11, Try.ntmps11
    go_wp2_with fail
    refine HS.mono ?_
    rintro e w1 ⟨rfl, b1⟩
    have B2 := B1.trans (b1.mono B1.size)
    have X2 := X0.out.same (b1.block w.heap.size (by simp))
    clear X0 b1 B1 HS y0 y1 y2 y3 y4 y5 y6 y7
    obtain ⟨y0, y1, y2, y3, y4, y5, y6, y7⟩ := X2
    cases hok : sqlB ⟨1, n, nm, of, vk, vn, vt⟩ ks with
    | false =>
      have HB : Hid (sqlB ⟨1, n, nm, of, vk, vn, vt⟩ ks = false) := hok
      clear hok
      go_wp2
      go_ret2
      exact RetG.bad (fun h => by have h2 := h.2; rw [HB.out] at h2; cases h2) rfl B2
    | true =>
      have HO : Hid (sqlB ⟨1, n, nm, of, vk, vn, vt⟩ ks = true) := hok
      clear hok
      have hg := HG.out _ B2
      go_wp2_with fail
      refine hg.mono ?_
      rintro e w2 ⟨rfl, b2⟩
      have B3 := B2.trans (b2.mono B2.size)
      clear b2
      go_wp2
      go_ret2
      exact RetG.ok rfl HO.out rfl B3
  · have HB : Hid (¬ (x.k = 1 ∧ sqlB x ks = true)) := fun h => h1 h.1
    go_enter Try.func11, Try.ntmps11
    go_wp2_with fail
    refine HS.mono ?_
    rintro e w1 ⟨rfl, b1⟩
    have B2 := B1.trans (b1.mono B1.size)
    have X2 := X0.out.same (b1.block w.heap.size (by simp))
    clear X0 b1 B1 HS HG
    obtain ⟨y0, y1, y2, y3, y4, y5, y6, y7⟩ := X2
    generalize sqlB x ks = ok
    cases ok
    · go_wp2
      go_ret2
      exact RetG.bad HB.out rfl B2
    · go_wp2
      go_ret2
      exact RetG.bad HB.out rfl B2

set_option maxRecDepth 100000 in
set_option maxHeartbeats 4000000 in
theorem implGrouped_any (x : ND) (ks : Fo) (ka : Option Addr) (kc : Nat) (w : World) (hrow : RowT 0 w ka 0 ks) (hsz : ks.size ≤ 1048576) (ht : TextsN maxLen x) :
    Calls Try.prog 13 #[ValT x (.slice ka ks.len kc)] w (RetG x ks w) := by
  have hlen : ks.len ≤ maxLen := by have := ks.len_le; unfold maxLen; omega
  have B1 : Below w.heap.size w (w.alloc (.cells #[.int .i64 x.k, .int .i64 x.n, .string x.nm, .string x.of, .int .i64 x.vk, .int .i64 x.vn, .string x.vt, .slice ka ks.len kc] 41)) := (Below.refl _ _).alloc (Nat.le_refl _) _
  have X0 : Hid (CellT (w.alloc (.cells #[.int .i64 x.k, .int .i64 x.n, .string x.nm, .string x.of, .int .i64 x.vk, .int .i64 x.vn, .string x.vt, .slice ka ks.len kc] 41)) w.heap.size 0 x (.slice ka ks.len kc)) := cellT_new x _ 41
  have HS := implSqlOK_any x ks ka kc _ (hrow.below B1) hsz ht
  have HG : Hid (∀ w1, Below w.heap.size w w1 → Calls Try.prog 29 #[ValT x (.slice ka ks.len kc)] w1 fun e w' => e = .returned (.bool (hasN x ks 9 || hasN x ks 17)) ∧ Below w1.heap.size w1 w') := fun w1 b => isGrouped_any x ks ka kc w1 (hrow.below b) hlen
  clear hrow hsz ht hlen
  by_cases h1 : x.k = 1
  · obtain ⟨k, n, nm, of, vk, vn, vt⟩ := x
    simp only at h1
    subst h1
    obtain ⟨y0, y1, y2, y3, y4, y5, y6, y7⟩ := X0.out
    simp only at y0
    go_enter Try.func13, Try.ntmps13
    go_wp2_with fail
    refine HS.mono ?_
    rintro e w1 ⟨rfl, b1⟩
    have B2 := B1.trans (b1.mono B1.size)
    have X2 := X0.out.same (b1.block w.heap.size (by simp))
    clear X0 b1 B1 HS y0 y1 y2 y3 y4 y5 y6 y7
    obtain ⟨y0, y1, y2, y3, y4, y5, y6, y7⟩ := X2
    cases hok : sqlB ⟨1, n, nm, of, vk, vn, vt⟩ ks with
    | false =>
      have HB : Hid (sqlB ⟨1, n, nm, of, vk, vn, vt⟩ ks = false) := hok
      clear hok
      go_wp2
      go_ret2
      exact RetG.bad (fun h => by have h2 := h.2; rw [HB.out] at h2; cases h2) rfl B2
    | true =>
      have HO : Hid (sqlB ⟨1, n, nm, of, vk, vn, vt⟩ ks = true) := hok
      have HE : Hid ((hasN ⟨1, n, nm, of, vk, vn, vt⟩ ks 9 || hasN ⟨1, n, nm, of, vk, vn, vt⟩ ks 17) = grpF ks) := sql_grouped rfl hok
      clear hok
      have hg := HG.out _ B2
      rw [HE.out] at hg
      go_wp2_with fail
      refine hg.mono ?_
      rintro e w2 ⟨rfl, b2⟩
      have B3 := B2.trans (b2.mono B2.size)
      clear b2
      go_wp2
      go_ret2
      exact RetG.ok rfl HO.out rfl B3
  · have HB : Hid (¬ (x.k = 1 ∧ sqlB x ks = true)) := fun h => h1 h.1
    clear HS HG
    go_enter Try.func13, Try.ntmps13
    go_wp2
    go_ret2
    exact RetG.bad HB.out rfl B1
end Go.Proofs.Ytjidinpebpkfaaa
