/- The words of statements, and names that are none of them, on both sides (stage 11). -/
import Derived.Test.YteejkmcljokloaaGreatDoorNmA
import Derived.Test.YteejkmcljokloaaGreatDoorInA
namespace Go.Proofs.YteejkmcljokloaaGreatDoor
open Go.RowKit

/-- The words of statements. -/
def wordsT : List (List UInt8) := [
  [115, 101, 108, 101, 99, 116],
  [102, 114, 111, 109],
  [106, 111, 105, 110],
  [111, 110],
  [119, 104, 101, 114, 101],
  [103, 114, 111, 117, 112],
  [98, 121],
  [111, 114, 100, 101, 114],
  [108, 105, 109, 105, 116],
  [100, 101, 115, 99],
  [105, 110, 115, 101, 114, 116],
  [105, 110, 116, 111],
  [118, 97, 108, 117, 101, 115],
  [117, 112, 100, 97, 116, 101],
  [115, 101, 116],
  [100, 101, 108, 101, 116, 101],
  [97, 110, 100],
  [111, 114],
  [110, 111, 116],
  [105, 115],
  [110, 117, 108, 108],
  [116, 114, 117, 101],
  [102, 97, 108, 115, 101],
  [99, 111, 117, 110, 116],
  [115, 117, 109],
  [109, 105, 110],
  [109, 97, 120],
  [97, 115]]
def wordB (s : ByteArray) : Bool := wordsT.any fun x => s.toList == x
/-- A name that is no word of statements. -/
def givenB (s : ByteArray) : Bool := nameB s && !wordB s

set_option maxRecDepth 100000 in
set_option maxHeartbeats 4000000 in
theorem isWord_any (s : ByteArray) (w : World) : Calls Tryz.prog 115 #[.string s] w fun e w' => e = .returned (.bool (wordB s)) ∧ w' = w := by
  go_enter Tryz.func115, Tryz.ntmps115
  go_wp2
  all_goals
    go_ret
    exact ⟨ret_bool (by unfold wordB wordsT; simp_all), rfl⟩
set_option maxRecDepth 100000 in
theorem isGivenName_any (s : ByteArray) (w : World) (hs : s.size ≤ maxLen) : Calls Tryz.prog 91 #[.string s] w fun e w' => e = .returned (.bool (givenB s)) ∧ w' = w := by
  cases hn : nameB s with
  | false =>
    have H : Hid (givenB s = false) := by show givenB s = false; unfold givenB; rw [hn]; rfl
    have hc := implNameOK_any s w hs
    rw [hn] at hc
    clear hn hs
    go_enter Tryz.func91, Tryz.ntmps91
    go_wp2_with (first | (go_at_call 114; refine hc.mono ?_; rintro e w' ⟨rfl, hq⟩; obtain rfl := hq.symm) | (go_at_call 115; refine (isWord_any s w).mono ?_; rintro e w' ⟨rfl, hq⟩; obtain rfl := hq.symm))
    go_ret
    exact ⟨ret_bool H.out.symm, rfl⟩
  | true =>
    have H : Hid (givenB s = !wordB s) := by show givenB s = _; unfold givenB; rw [hn]; rfl
    have hc := implNameOK_any s w hs
    rw [hn] at hc
    clear hn hs
    go_enter Tryz.func91, Tryz.ntmps91
    go_wp2_with (first | (go_at_call 114; refine hc.mono ?_; rintro e w' ⟨rfl, hq⟩; obtain rfl := hq.symm) | (go_at_call 115; refine (isWord_any s w).mono ?_; rintro e w' ⟨rfl, hq⟩; obtain rfl := hq.symm))
    go_ret
    exact ⟨ret_bool H.out.symm, rfl⟩

def wordAt (k : Nat) : ByteArray := ⟨(wordsT.getD k []).toArray⟩
def wordCells : Array Value := (wordsT.map fun l => Value.string ⟨l.toArray⟩).toArray
theorem word_cell {k : Nat} (h : k < 28) : wordCells[k]? = some (.string (wordAt k)) := by
  have hl : k < wordsT.length := h
  unfold wordCells wordAt
  rw [List.getElem?_toArray, List.getElem?_map, List.getD_eq_getElem?_getD, List.getElem?_eq_getElem hl]
  rfl
set_option maxRecDepth 100000 in
theorem l09Words_any (w : World) : Calls Tryz.prog 66 #[] w fun e w' => e = .returned (.slice (some ⟨w.heap.size, 0, none⟩) 28 28) ∧ w' = w.alloc (.cells wordCells 9) := by
  go_enter Tryz.func66, Tryz.ntmps66
  go_wp2
  go_ret
  exact ⟨rfl, rfl⟩
theorem wordB_false {s : ByteArray} (h : ∀ k, k < 28 → ((wordAt k).toList == s.toList) = false) : wordB s = false := by
  unfold wordB
  rw [List.any_eq_false]
  intro x hx
  obtain ⟨k, hk, rfl⟩ := List.mem_iff_getElem.1 hx
  have := h k hk
  have e : (wordAt k).toList = wordsT[k] := by
    unfold wordAt
    rw [List.getD_eq_getElem?_getD, List.getElem?_eq_getElem hk, Option.getD_some]
    rw [ByteArray.toList_eq]
  rw [e] at this
  simp only [beq_eq_false_iff_ne, ne_eq] at this
  simp only [beq_iff_eq]
  exact fun e => this e.symm
theorem wordB_true {s : ByteArray} {k : Nat} (hk : k < 28) (h : ((wordAt k).toList == s.toList) = true) : wordB s = true := by
  unfold wordB
  rw [List.any_eq_true]
  have hl : k < wordsT.length := hk
  refine ⟨wordsT[k], List.getElem_mem _, ?_⟩
  have e : (wordAt k).toList = wordsT[k] := by
    unfold wordAt
    rw [List.getD_eq_getElem?_getD, List.getElem?_eq_getElem hl, Option.getD_some]
    rw [ByteArray.toList_eq]
  rw [e] at h
  simp only [beq_iff_eq] at h ⊢
  exact h.symm

set_option maxRecDepth 100000 in
set_option maxHeartbeats 1000000 in
theorem l09Name_any (s : ByteArray) (w : World) (hs : s.size ≤ maxLen) : Calls Tryz.prog 42 #[.string s] w fun e w' => e = .returned (.bool (givenB s)) ∧ Below w.heap.size w w' := by
  cases hn : nameB s with
  | false =>
    have H : Hid (givenB s = false) := by show givenB s = false; unfold givenB; rw [hn]; rfl
    have hc := specNameOK_any s w hs
    rw [hn] at hc
    clear hn hs
    go_enter Tryz.func42, Tryz.ntmps42
    go_wp2_with fail
    refine hc.mono ?_
    rintro e w' ⟨rfl, hq⟩
    obtain rfl := hq.symm
    go_wp2
    go_ret
    exact ⟨ret_bool H.out.symm, Below.refl _ _⟩
  | true =>
    have H : Hid (givenB s = !wordB s) := by show givenB s = _; unfold givenB; rw [hn]; rfl
    have hc := specNameOK_any s w hs
    rw [hn] at hc
    clear hn hs
    go_enter Tryz.func42, Tryz.ntmps42
    go_wp2_with fail
    refine hc.mono ?_
    rintro e w' ⟨rfl, hq⟩
    obtain rfl := hq.symm
    clear hc hq
    go_wp2_with fail
    go_loopw [3] (fun i wr => ∃ k : Nat, k ≤ 28 ∧ i = .int .i64 k ∧ Hid (∀ j, j < k → ((wordAt j).toList == s.toList) = false) ∧ Below w.heap.size w wr) (fun i _ => 28 - (intOf i).toNat)
    case atStart => exact ⟨0, by omega, rfl, fun j hj => by omega, Below.refl _ _⟩
    case round =>
      obtain ⟨k, hk, rfl, HA, hbl⟩ := hrel
      have B1 : Below w.heap.size w (wr.alloc (.cells wordCells 9)) := hbl.alloc hbl.size _
      by_cases hlt : k < 28
      · have B2 : Below w.heap.size w ((wr.alloc (.cells wordCells 9)).alloc (.cells wordCells 9)) := B1.alloc B1.size _
        have hc : ((wr.alloc (.cells wordCells 9)).alloc (.cells wordCells 9)).cell? ⟨wr.heap.size + 1, k, none⟩ = some (.string (wordAt k)) := by
          rw [slab_cell (heap_new' _ _ _ (by simp))]; exact word_cell hlt
        cases hw : ((wordAt k).toList == s.toList) with
        | true =>
          have HF : Hid (givenB s = false) := by show givenB s = false; rw [H.out, wordB_true hlt hw]; rfl
          generalize wordAt k = x at *
          generalize hg : wordCells = wc at *
          go_wp2_with fail
          refine (l09Words_any _).mono ?_
          rintro e w' ⟨rfl, hq⟩
          subst hq
          rw [hg]
          go_wp2_with fail
          refine (l09Words_any _).mono ?_
          rintro e w' ⟨rfl, hq⟩
          subst hq
          rw [hg]
          generalize ((wr.alloc (.cells wc 9)).alloc (.cells wc 9)) = W at *
          go_wp2
          go_ret
          exact ⟨ret_bool HF.out.symm, B2⟩
        | false =>
          have HN : Hid (∀ j, j < k + 1 → ((wordAt j).toList == s.toList) = false) := all_step HA.out hw
          generalize wordAt k = x at *
          generalize hg : wordCells = wc at *
          go_wp2_with fail
          refine (l09Words_any _).mono ?_
          rintro e w' ⟨rfl, hq⟩
          subst hq
          rw [hg]
          go_wp2_with fail
          refine (l09Words_any _).mono ?_
          rintro e w' ⟨rfl, hq⟩
          subst hq
          rw [hg]
          generalize ((wr.alloc (.cells wc 9)).alloc (.cells wc 9)) = W at *
          go_wp2
          go_roundw
          case rel => exact ⟨k + 1, by omega, by go_num, HN, B2⟩
          case measure => simp [intOf]; omega
      · obtain rfl : k = 28 := by omega
        have HF : Hid (givenB s = true) := by show givenB s = true; rw [H.out, wordB_false HA.out]; rfl
        go_wp2_with fail
        refine (l09Words_any _).mono ?_
        rintro e w' ⟨rfl, hq⟩
        subst hq
        go_wp2
        go_ret
        exact ⟨ret_bool HF.out.symm, B1⟩
end Go.Proofs.YteejkmcljokloaaGreatDoor
