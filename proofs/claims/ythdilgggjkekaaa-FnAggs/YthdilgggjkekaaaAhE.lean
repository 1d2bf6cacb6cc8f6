/- impl's aggregateOf and AggValue over ints and null (towards FnAggs, stage 12). -/
import Derived.Test.YthdilgggjkekaaaAhD
namespace Go.Proofs.Ythdilgggjkekaaa
open Go.RowKit

set_option maxRecDepth 100000 in
set_option maxHeartbeats 2000000 in
theorem clone_some (vs : List V3) (b off cap : Nat) (w : World) (hrow : RowV w (some ⟨b, off, none⟩) vs) (hlen : vs.length ≤ 4096) :
    Calls Try.prog 21 #[.slice (some ⟨b, off, none⟩) vs.length cap] w fun e w' => ∃ v, e = .returned v ∧ OwnV w' w.heap.size v vs ∧ Below w.heap.size w w' := by
  have B0 : Below w.heap.size w (w.alloc (.cells #[] 27)) := (Below.refl _ _).alloc (Nat.le_refl _) _
  have O0 : OwnV (w.alloc (.cells #[] 27)) w.heap.size (.slice (some ⟨w.heap.size, 0, none⟩) 0 0) [] := OwnV.empty (Nat.le_refl _)
  obtain ⟨v', w', hrun, O1, hg⟩ := app_V (.slice (some ⟨w.heap.size, 0, none⟩) 0 0) [] vs (w.alloc (.cells #[] 27)) w.heap.size b off cap O0 (by simp; omega) (hrow.below B0) B0.size
  have HO : Hid (OwnV w' w.heap.size v' vs ∧ Below w.heap.size w w') := ⟨by simpa using O1, own_grown B0 B0.size O0 hg⟩
  clear hrow O0 O1 hg B0
  generalize vs.length = len at *
  have hq : ∀ W, (binOp .eql 25 (.slice (some ⟨b, off, none⟩) len cap) (.slice none 0 0)).run Try.prog W = .ok (.bool false) W := fun W => by
    simp only [binOp]
    simp [run_equal_slice_nil W 25 27 _ len cap Try.underlying25]
  go_enter Try.func21, Try.ntmps21
  go_wp2_with (at_builtin; refine Lib.wpList_append_run _ rfl _ _ _ _ rfl _ _ rfl rfl _ _ hrun ?_)
  go_ret
  exact ⟨_, rfl, HO.out.1, HO.out.2⟩

/-- What a callee made: its block. -/
theorem OwnV.blk {w : World} {B : Nat} {v : Value} {l : List V3} (h : OwnV w B v l) (h0 : 0 < l.length) : ∃ g cap, v = .slice (some ⟨g, 0, none⟩) l.length cap ∧ B ≤ g ∧ BlkO w g cap l := by
  obtain ⟨hl, ⟨_, h⟩ | ⟨g, cap, cur, rfl, hB, hh, hc, _, hs, ht⟩⟩ := h
  · omega
  · refine ⟨g, cap, rfl, hB, cur, hh, hs, hc, fun i hi => ?_⟩
    have get : ∀ o, o < l.length * 3 → cur[o]? = (cellsV l)[o]? := fun o ho => by
      rw [← ht, List.getElem?_take, if_pos ho, Array.getElem?_toList]
    obtain ⟨a, b, c⟩ := cellsV_get l i hi
    exact ⟨by rw [get _ (by omega)]; exact a, by rw [get _ (by omega)]; exact b, by rw [get _ (by omega)]; exact c⟩
theorem OwnV.len {w : World} {B : Nat} {v : Value} {l : List V3} (h : OwnV w B v l) : ∃ a cap, v = .slice a l.length cap := by
  obtain ⟨_, ⟨rfl, e⟩ | ⟨g, cap, cur, rfl, _⟩⟩ := h
  · exact ⟨none, 0, by rw [e]⟩
  · exact ⟨_, cap, rfl⟩

set_option maxRecDepth 100000 in
set_option maxHeartbeats 2000000 in
theorem del_zero (a : Option Addr) (cap : Nat) (w : World) :
    Calls Try.prog 20 #[.slice a 0 cap, fnV 22] w fun e w' => e = .returned (.slice a 0 cap) ∧ Below w.heap.size w w' := by
  have G := indexFunc_is [] (fun v => v.1 == 0) 22 #[] a cap w (fun i hi => absurd hi (Nat.not_lt_zero _)) (Nat.zero_le _) ⟨ent22, fun w' _ k n t => nul_any k n t w'⟩
  go_enter Try.func20, Try.ntmps20
  go_wp2_with fail
  refine G.mono ?_
  rintro e w1 ⟨⟨k, hk, _⟩ | ⟨rfl, _⟩, b1⟩
  · exact absurd hk (Nat.not_lt_zero _)
  · clear G
    go_wp2
    go_ret
    exact ⟨by simp, b1⟩

/-- The clone with what is null deleted. -/
theorem del_own (os : List (Option Int)) (v : Value) (B : Nat) (w : World) (h : OwnV w B v (os.map ov)) (hlen : os.length ≤ 4096) (hB : B ≤ w.heap.size) :
    Calls Try.prog 20 #[v, fnV 22] w fun e w' => ∃ a cap, e = .returned (.slice a (vals os).length cap) ∧ RowV w' a ((vals os).map iv) ∧ Below B w w' := by
  by_cases h0 : os.length = 0
  · obtain rfl : os = [] := List.length_eq_zero_iff.mp h0
    obtain ⟨a, cap, rfl⟩ := h.len
    exact (del_zero a cap w).mono fun e w' ⟨he, hb⟩ => ⟨a, cap, he, fun i hi => absurd hi (Nat.not_lt_zero _), hb.mono hB⟩
  · obtain ⟨g, cap, rfl, hg, hb⟩ := h.blk (by simp; omega)
    rw [List.length_map]
    exact (del_any os g cap w hb hlen).mono fun e w' ⟨he, hr, hbl⟩ => ⟨_, cap, he, hr, hbl.mono hg⟩
end Go.Proofs.Ythdilgggjkekaaa
