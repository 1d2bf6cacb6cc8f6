/- The choices that a drawn history makes (stage 8). -/
import Derived.Test.YtlcgmifibekegaaSsB
import Derived.Test.YtlcgmifibekegaaEnA
import Derived.Test.YtlcgmifibekegaaHoM
namespace Go.Proofs.Ytlcgmifibekegaa
open Go.RowKit

theorem next_one {w : World} {b : Nat} (n : Int) (h1 : n ≤ 1) : Calls Try.prog 100 #[.pointer (some ⟨b, 0, none⟩), .int .i64 n] w fun e w' => e = .returned (.int .i64 0) ∧ w' = w := by
  go_enter Try.func100, Try.ntmps100
  go_wp2
  go_ret
  exact ⟨rfl, rfl⟩
theorem next_all {w : World} {b : Nat} {a : Option Addr} {len cap m : Nat} (n : Int) (h : Src w b a len cap m) (hm : m ≤ 100000) (h1 : 1 ≤ n) (h2 : n ≤ 256) :
    Calls Try.prog 100 #[.pointer (some ⟨b, 0, none⟩), .int .i64 n] w fun e w' => ∃ r : Int, e = .returned (.int .i64 r) ∧ 0 ≤ r ∧ r < n ∧ Src w' b a len cap (m + 1) ∧ But b w w' := by
  by_cases h3 : n ≤ 1
  · refine (next_one n h3).mono fun e w' hh => ?_
    obtain ⟨he, rfl⟩ := hh
    exact ⟨0, he, by omega, by omega, h.mono (by omega), But.refl _ _⟩
  · exact next_any n h hm (by omega) h2
set_option maxRecDepth 100000 in
theorem chance_any {w : World} {b : Nat} {a : Option Addr} {len cap m : Nat} (h : Src w b a len cap m) (hm : m ≤ 100000) :
    Calls Try.prog 103 #[.pointer (some ⟨b, 0, none⟩), .int .i64 6] w fun e w' => ∃ r : Bool, e = .returned (.bool r) ∧ Src w' b a len cap (m + 1) ∧ But b w w' := by
  have hc := next_any 6 h hm (by omega) (by omega)
  clear h
  go_enter Try.func103, Try.ntmps103
  go_wp2_with fail
  refine hc.mono ?_
  rintro e w1 ⟨r, rfl, r0, r1, hs, hb⟩
  have HS : Hid (Src w1 b a len cap (m + 1) ∧ But b w w1) := ⟨hs, hb⟩
  clear hs hb hc
  go_wp2
  go_ret
  exact ⟨_, rfl, HS.out.1, HS.out.2⟩
set_option maxRecDepth 100000 in
theorem size_any {w : World} {b : Nat} {a : Option Addr} {len cap m : Nat} (h : Src w b a len cap m) :
    Calls Try.prog 101 #[.pointer (some ⟨b, 0, none⟩), .int .i64 16] w fun e w' => ∃ r : Int, e = .returned (.int .i64 r) ∧ 1 ≤ r ∧ r ≤ 16 ∧ w' = w := by
  have hl := h.lenle
  have c0 := h.c0
  clear h
  have hq : (len : Int).tdiv 12 = (len : Int) / 12 := Int.tdiv_eq_ediv_of_nonneg (by omega)
  by_cases h16 : (len : Int) / 12 < 15
  · go_enter Try.func101, Try.ntmps101
    go_wp2
    go_ret
    refine ⟨_, rfl, ?_, ?_, rfl⟩ <;> omega
  · go_enter Try.func101, Try.ntmps101
    go_wp2
    go_ret
    refine ⟨_, rfl, ?_, ?_, rfl⟩ <;> omega
set_option maxRecDepth 100000 in
set_option maxHeartbeats 1000000 in
theorem pick_any {w : World} {b : Nat} {a : Option Addr} {len cap m : Nat} (h : Src w b a len cap m) (hm : m ≤ 100000) (g : Nat) (s0 s1 s2 : ByteArray) (hg : w.heap[g]? = some (.cells #[.string s0, .string s1, .string s2] 9 (0, 0))) (hgb : g ≠ b) (z0 : s0.size = 1) (z1 : s1.size = 1) (z2 : s2.size = 1) :
    Calls Try.prog 102 #[.pointer (some ⟨b, 0, none⟩), .slice (some ⟨g, 0, none⟩) 3 3] w fun e w' => ∃ s : ByteArray, e = .returned (.string s) ∧ s.size = 1 ∧ Src w' b a len cap (m + 1) ∧ But b w w' := by
  have hc := next_any 3 h hm (by omega) (by omega)
  clear h
  go_enter Try.func102, Try.ntmps102
  go_wp2_with fail
  refine hc.mono ?_
  rintro e w1 ⟨r, rfl, r0, r1, hs, hb⟩
  have HS : Hid (Src w1 b a len cap (m + 1) ∧ But b w w1) := ⟨hs, hb⟩
  have hg1 := (hb.block g (slab_lt hg) hgb).trans hg
  have y0 : w1.cell? ⟨g, 0, none⟩ = some (.string s0) := slab_cell hg1
  have y1 : w1.cell? ⟨g, 1, none⟩ = some (.string s1) := slab_cell hg1
  have y2 : w1.cell? ⟨g, 2, none⟩ = some (.string s2) := slab_cell hg1
  clear hs hb hc hg hg1
  have hr : r = 0 ∨ r = 1 ∨ r = 2 := by omega
  rcases hr with rfl | rfl | rfl
  · go_wp2
    go_ret
    exact ⟨_, rfl, z0, HS.out.1, HS.out.2⟩
  · go_wp2
    go_ret
    exact ⟨_, rfl, z1, HS.out.1, HS.out.2⟩
  · go_wp2
    go_ret
    exact ⟨_, rfl, z2, HS.out.1, HS.out.2⟩

/-- A history as far as it goes: acts of n transactions, none after its end. -/
def PreP (n : Int) (ss : List TH) : Prop := ∀ i, i < ss.length → OpP (nthH ss i) ∧ (0 ≤ (nthH ss i).1 ∧ (nthH ss i).1 < n) ∧ ∀ j, j < i → ¬ EndAt ss (nthH ss i).1 j
theorem nthH_left {ss : List TH} {x : TH} {i : Nat} (h : i < ss.length) : nthH (ss ++ [x]) i = nthH ss i := by
  rw [nthH_get (by simp; omega), nthH_get h, List.getElem_append_left h]
theorem nthH_last (ss : List TH) (x : TH) : nthH (ss ++ [x]) ss.length = x := by
  rw [nthH_get (by simp)]; simp
theorem PreP.nil (n : Int) : PreP n [] := fun i hi => absurd hi (Nat.not_lt_zero i)
theorem PreP.snoc {n : Int} {ss : List TH} {x : TH} (h : PreP n ss) (hx : OpP x) (h0 : 0 ≤ x.1) (h1 : x.1 < n) (hd : ∀ i, i < ss.length → ¬ EndAt ss x.1 i) : PreP n (ss ++ [x]) := fun i hi => by
  have hi' : i < ss.length + 1 := by simpa using hi
  by_cases e : i < ss.length
  · rw [nthH_left e]
    obtain ⟨q1, q2, q3⟩ := h i e
    refine ⟨q1, q2, fun j hj => ?_⟩
    unfold EndAt
    rw [nthH_left (by omega)]
    exact q3 j hj
  · obtain rfl : i = ss.length := by omega
    rw [nthH_last]
    refine ⟨hx, ⟨h0, h1⟩, fun j hj => ?_⟩
    unfold EndAt
    rw [nthH_left hj]
    exact hd j hj
theorem PreP.small {n : Int} {ss : List TH} (h : PreP n ss) : ∀ i, i < ss.length → (nthH ss i).2.2.1.size ≤ maxLen ∧ (nthH ss i).2.2.2.size ≤ maxLen := fun i hi => by
  obtain ⟨_, q⟩ := (h i hi).1
  unfold KeyP at q
  unfold maxLen
  rcases q with q | q | q <;> exact ⟨by omega, by omega⟩
theorem PreP.hist {n : Int} {ss : List TH} (h : PreP n ss) (hl : ss.length ≤ 60) (he : ∀ t : Int, 0 ≤ t → t < n → ∃ j, j < ss.length ∧ EndAt ss t j) : HistP ss :=
  ⟨hl, fun i hi => ⟨⟨(h i hi).1, (h i hi).2.2⟩, he _ (h i hi).2.1.1 (h i hi).2.1.2⟩⟩
theorem end_left {ss : List TH} {x : TH} {t : Int} (h : ∃ j, j < ss.length ∧ EndAt ss t j) : ∃ j, j < (ss ++ [x]).length ∧ EndAt (ss ++ [x]) t j := by
  obtain ⟨j, hj, e⟩ := h
  exact ⟨j, by simp; omega, by unfold EndAt; rw [nthH_left hj]; exact e⟩
theorem end_last (ss : List TH) {x : TH} (h : 3 ≤ x.2.1) : ∃ j, j < (ss ++ [x]).length ∧ EndAt (ss ++ [x]) x.1 j := ⟨ss.length, by simp, by unfold EndAt; rw [nthH_last]; exact ⟨rfl, h⟩⟩
theorem DoneIs.no {ss : List TH} {t r : Int} (h : DoneIs ss t r) (hr : r < 0) : ∀ i, i < ss.length → ¬ EndAt ss t i := by
  rcases h with ⟨_, h⟩ | ⟨k, e, _⟩
  · exact h
  · omega
theorem DoneIs.yes {ss : List TH} {t r : Int} (h : DoneIs ss t r) (hr : ¬ r < 0) : ∃ j, j < ss.length ∧ EndAt ss t j := by
  rcases h with ⟨e, h⟩ | ⟨k, e, h1, h2, _⟩
  · omega
  · exact ⟨k, h1, h2⟩
/-- The end that a law's history has come to by its last acts. -/
theorem done_own {w : World} {B : Nat} {v : Value} {n : Int} {ss : List TH} (t : Int) (h : OwnH w B v ss) (hp : PreP n ss) (hl : ss.length ≤ 60) : Calls Try.prog 87 #[v, .int .i64 t] w fun e w' => ∃ r, e = .returned (.int .i64 r) ∧ DoneIs ss t r ∧ w' = w := by
  obtain ⟨a, c, rfl, r⟩ := h.row hp.small
  exact l08Done_any a c ss t w r (by omega)
end Go.Proofs.Ytlcgmifibekegaa
