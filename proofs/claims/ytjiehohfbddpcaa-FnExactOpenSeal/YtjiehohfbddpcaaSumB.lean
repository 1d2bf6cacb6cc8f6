/- The table of sums of half bytes. -/
import Derived.Test.YtjiehohfbddpcaaSumA
import Derived.Deep.MidRow
namespace Go.Proofs.Ytjiehohfbddpcaa
open Go.RowKit

def tabI (i : Nat) : Int := ((bitK 4 i : Nat) : Int)
/-- A block of 16 numbers, of which the first k are the table's. -/
def TabK (w : World) (g k : Nat) : Prop :=
  ∃ cur, w.heap[g]? = some (.cells cur 49 (0, 0)) ∧ cur.size = 16 ∧ ∀ i, i < k → cur[i]? = some (.int .u32 (tabI i))
theorem TabK.step {w : World} {g k : Nat} (h : TabK w g k) (hk : k < 16) (v : Int) (hv : v = tabI k) : TabK (w.setCell ⟨g, k, none⟩ (.int .u32 v)) g (k + 1) := by
  subst hv
  obtain ⟨cur, hh, hs, hc⟩ := h
  refine ⟨_, slab_set hh _, by simpa using hs, fun i hi => ?_⟩
  by_cases e : i = k
  · subst e
    rw [Array.getElem?_setIfInBounds_self_of_lt (by omega)]
  · rw [Array.getElem?_setIfInBounds_ne (by omega)]
    exact hc i (by omega)
def tabL : List Value := (List.range 16).map fun i => .int .u32 (tabI i)
theorem TabK.whole {w : World} {g : Nat} (h : TabK w g 16) : w.rangeAt g 0 tabL := fun j v hv => by
  obtain ⟨cur, hh, hs, hc⟩ := h
  rw [slab_cell hh, Nat.zero_add]
  unfold tabL at hv
  rw [List.getElem?_map] at hv
  have hj : j < 16 := by
    rcases Nat.lt_or_ge j 16 with h | h
    · exact h
    · rw [List.getElem?_eq_none (by simpa using h)] at hv; cases hv
  rw [List.getElem?_range hj] at hv
  rw [hc j hj, ← hv]; rfl

theorem heap_new' (w : World) (o : Obj) (g : Nat) (h : g = w.heap.size) : (w.alloc o).heap[g]? = some o := by
  subst h
  show (w.heap.push o)[w.heap.size]? = _
  simp
theorem heap_old (w : World) (o : Obj) (g : Nat) (h : g < w.heap.size) : (w.alloc o).heap[g]? = w.heap[g]? := by
  show (w.heap.push o)[g]? = _
  rw [Array.getElem?_push, if_neg (by omega)]

theorem u32_xor' (x y : Int) (a b : Nat) (hx : x = a) (hy : y = b) (ha : a < 4294967296) (hb : b < 4294967296) : bits .xor .u32 x y = ((a ^^^ b : Nat) : Int) := by
  subst hx hy
  exact u32_xor_nat a b ha hb

theorem info49 : (Try.prog.info? 49).map (·.size) = some tabL.length := by kernel_rfl
theorem there_tab {w : World} {g : Nat} (h : TabK w g 0) : w.there g 0 tabL.length := fun j hj => by
  obtain ⟨cur, hh, hs, _⟩ := h
  have hj' : j < 16 := by simpa [tabL] using hj
  rw [slab_cell hh, slab_free hh, Nat.zero_add, Array.getElem?_eq_getElem (by omega)]
  exact ⟨rfl, rfl⟩

theorem cell_tab {w : World} {g : Nat} (h : TabK w g 0) (j : Nat) (hj : j < 16) : ∃ v, w.cell? ⟨g, j, none⟩ = some v := by
  obtain ⟨cur, hh, hs, _⟩ := h
  exact ⟨cur[j]'(by omega), by rw [slab_cell hh]; exact Array.getElem?_eq_getElem _⟩

set_option maxRecDepth 100000 in
set_option maxHeartbeats 4000000 in
theorem halfSums_any (w : World) : Calls Try.prog 30 #[] w fun e w' => e = .returned (.agg tabL.toArray) ∧ Below w.heap.size w w' := by
  go_enter Try.func30, Try.ntmps30
  go_wp2
  go_loopw [2, 3, 4, 5, 10] (fun _ _ _ i _ wr => ∃ k : Nat, k ≤ 16 ∧ i = .int .i64 k ∧ TabK wr (w.heap.size + 1) k ∧ wr.heap.size = w.heap.size + 2 ∧ Below w.heap.size w wr ∧ TabK wr w.heap.size 0) (fun _ _ _ i _ _ => 16 - (intOf i).toNat)
  case atStart =>
    refine ⟨0, by omega, rfl, ?_, by simp, ((Below.refl _ _).alloc (Nat.le_refl _) _).alloc (by simp) _, ?_⟩
    · exact ⟨_, heap_new' _ _ _ (by simp), rfl, fun i hi => by omega⟩
    · exact ⟨_, (heap_old _ _ _ (by simp)).trans (heap_new' _ _ _ rfl), rfl, fun i hi => by omega⟩
  case round =>
    obtain ⟨k, hk, rfl, hT, hz, hb, hT0⟩ := hrel
    have HT : Hid (TabK wr (w.heap.size + 1) k) := hT
    have HT0 : Hid (TabK wr w.heap.size 0) := hT0
    clear hT hT0
    by_cases hlt : k < 16
    · have hltI : (k : Int) < 16 := by omega
      go_wp2
      go_loop [3, 4, 10] (fun r _ j => ∃ m : Nat, m ≤ 4 ∧ j = .int .i64 m ∧ r = .int .u32 (bitK m k)) (fun _ _ j => 4 - (intOf j).toNat)
      case atStart => exact ⟨0, by omega, rfl, congrArg (Value.int .u32) (by show _ = (k : Int); first | rfl | omega)⟩
      case round =>
        obtain ⟨m, hm, rfl, rfl⟩ := hrel
        by_cases hm4 : m < 4
        · have hmI : (m : Int) < 4 := by omega
          have hb := bitK_lt m (n := k) (by omega)
          have HB : Hid (bitK (m + 1) k = bit1 (bitK m k)) := rfl
          generalize bitK m k = q at *
          by_cases hodd : q % 2 = 1
          · have ho : bits .and .u32 (q : Int) 1 = 1 := by
              have := u32_and_nat q 1 hb (by decide)
              rw [nat_mask1, hodd] at this
              exact this
            have HE : Hid (bit1 q = q / 2 ^^^ 3988292384) := by show _ = _; unfold bit1; rw [if_pos hodd]
            go_wp2
            go_round
            case rel =>
              refine ⟨m + 1, by omega, by go_num, ?_⟩
              rw [HB.out, HE.out]
              exact congrArg (Value.int .u32) (u32_xor' _ _ (q / 2) 3988292384 (by omega) rfl (by omega) (by decide))
            case measure => simp [intOf]; omega
          · have ho : bits .and .u32 (q : Int) 1 = 0 := by
              have := u32_and_nat q 1 hb (by decide)
              rw [nat_mask1, show q % 2 = 0 by omega] at this
              exact this
            have HE : Hid (bit1 q = q / 2) := by show _ = _; unfold bit1; rw [if_neg hodd]
            go_wp2
            go_round
            case rel =>
              refine ⟨m + 1, by omega, by go_num, ?_⟩
              rw [HB.out, HE.out]
              exact congrArg (Value.int .u32) (by omega)
            case measure => simp [intOf]; omega
        · obtain rfl : m = 4 := by omega
          have hcell : ∃ v, wr.cell? ⟨w.heap.size + 1, k, none⟩ = some v := by
            obtain ⟨cur, hh, hs, _⟩ := HT.out
            exact ⟨cur[k]'(by omega), by rw [slab_cell hh]; exact Array.getElem?_eq_getElem _⟩
          obtain ⟨v, hv⟩ := hcell
          have hf : wr.frozen? ⟨w.heap.size + 1, k, none⟩ = false := by obtain ⟨cur, hh, _⟩ := HT.out; exact slab_free hh
          have HV : Hid (((bitK 4 k : Nat) : Int) = tabI k) := rfl
          generalize ((bitK 4 k : Nat) : Int) = q at *
          go_wp2
          go_roundw
          case rel =>
            refine ⟨k + 1, by omega, by go_num, HT.out.step hlt _ HV.out, by simpa [World.setCell] using hz, hb.setCell (p := ⟨w.heap.size + 1, k, none⟩) (by simp) _, ?_⟩
            obtain ⟨cur, hh, hs, _⟩ := HT0.out
            exact ⟨cur, (Below.heap_setCell _ _ _ _ (by simp)).trans hh, hs, fun i hi => by omega⟩
          case measure => simp [intOf]; omega
    · have hltI : ¬ (k : Int) < 16 := by omega
      have HR : Hid (wr.rangeAt (w.heap.size + 1) 0 tabL) := by
        have e : k = 16 := by omega
        subst e
        exact HT.out.whole
      have c0 : wr.cell? ⟨w.heap.size + 1, 0, none⟩ = some (.int .u32 (tabI 0)) := HR.out 0 _ rfl
      have c1 : wr.cell? ⟨w.heap.size + 1, 1, none⟩ = some (.int .u32 (tabI 1)) := HR.out 1 _ rfl
      have c2 : wr.cell? ⟨w.heap.size + 1, 2, none⟩ = some (.int .u32 (tabI 2)) := HR.out 2 _ rfl
      have c3 : wr.cell? ⟨w.heap.size + 1, 3, none⟩ = some (.int .u32 (tabI 3)) := HR.out 3 _ rfl
      have c4 : wr.cell? ⟨w.heap.size + 1, 4, none⟩ = some (.int .u32 (tabI 4)) := HR.out 4 _ rfl
      have c5 : wr.cell? ⟨w.heap.size + 1, 5, none⟩ = some (.int .u32 (tabI 5)) := HR.out 5 _ rfl
      have c6 : wr.cell? ⟨w.heap.size + 1, 6, none⟩ = some (.int .u32 (tabI 6)) := HR.out 6 _ rfl
      have c7 : wr.cell? ⟨w.heap.size + 1, 7, none⟩ = some (.int .u32 (tabI 7)) := HR.out 7 _ rfl
      have c8 : wr.cell? ⟨w.heap.size + 1, 8, none⟩ = some (.int .u32 (tabI 8)) := HR.out 8 _ rfl
      have c9 : wr.cell? ⟨w.heap.size + 1, 9, none⟩ = some (.int .u32 (tabI 9)) := HR.out 9 _ rfl
      have c10 : wr.cell? ⟨w.heap.size + 1, 10, none⟩ = some (.int .u32 (tabI 10)) := HR.out 10 _ rfl
      have c11 : wr.cell? ⟨w.heap.size + 1, 11, none⟩ = some (.int .u32 (tabI 11)) := HR.out 11 _ rfl
      have c12 : wr.cell? ⟨w.heap.size + 1, 12, none⟩ = some (.int .u32 (tabI 12)) := HR.out 12 _ rfl
      have c13 : wr.cell? ⟨w.heap.size + 1, 13, none⟩ = some (.int .u32 (tabI 13)) := HR.out 13 _ rfl
      have c14 : wr.cell? ⟨w.heap.size + 1, 14, none⟩ = some (.int .u32 (tabI 14)) := HR.out 14 _ rfl
      have c15 : wr.cell? ⟨w.heap.size + 1, 15, none⟩ = some (.int .u32 (tabI 15)) := HR.out 15 _ rfl
      obtain ⟨d0, hd0⟩ := cell_tab HT0.out 0 (by decide)
      obtain ⟨d1, hd1⟩ := cell_tab HT0.out 1 (by decide)
      obtain ⟨d2, hd2⟩ := cell_tab HT0.out 2 (by decide)
      obtain ⟨d3, hd3⟩ := cell_tab HT0.out 3 (by decide)
      obtain ⟨d4, hd4⟩ := cell_tab HT0.out 4 (by decide)
      obtain ⟨d5, hd5⟩ := cell_tab HT0.out 5 (by decide)
      obtain ⟨d6, hd6⟩ := cell_tab HT0.out 6 (by decide)
      obtain ⟨d7, hd7⟩ := cell_tab HT0.out 7 (by decide)
      obtain ⟨d8, hd8⟩ := cell_tab HT0.out 8 (by decide)
      obtain ⟨d9, hd9⟩ := cell_tab HT0.out 9 (by decide)
      obtain ⟨d10, hd10⟩ := cell_tab HT0.out 10 (by decide)
      obtain ⟨d11, hd11⟩ := cell_tab HT0.out 11 (by decide)
      obtain ⟨d12, hd12⟩ := cell_tab HT0.out 12 (by decide)
      obtain ⟨d13, hd13⟩ := cell_tab HT0.out 13 (by decide)
      obtain ⟨d14, hd14⟩ := cell_tab HT0.out 14 (by decide)
      obtain ⟨d15, hd15⟩ := cell_tab HT0.out 15 (by decide)
      have hf : ∀ o, wr.frozen? ⟨w.heap.size, o, none⟩ = false := fun o => by obtain ⟨cur, hh, _⟩ := HT0.out; exact slab_free hh
      have HB : Hid (Below w.heap.size w wr) := hb
      have HV : Hid (Value.agg tabL.toArray = .agg #[.int .u32 (tabI 0), .int .u32 (tabI 1), .int .u32 (tabI 2), .int .u32 (tabI 3), .int .u32 (tabI 4), .int .u32 (tabI 5), .int .u32 (tabI 6), .int .u32 (tabI 7), .int .u32 (tabI 8), .int .u32 (tabI 9), .int .u32 (tabI 10), .int .u32 (tabI 11), .int .u32 (tabI 12), .int .u32 (tabI 13), .int .u32 (tabI 14), .int .u32 (tabI 15)]) := rfl
      clear hb HR HT HT0
      go_wp2
      rw [HV.out]
      refine bodyPost_ret (v := .agg #[.int .u32 (tabI 0), .int .u32 (tabI 1), .int .u32 (tabI 2), .int .u32 (tabI 3), .int .u32 (tabI 4), .int .u32 (tabI 5), .int .u32 (tabI 6), .int .u32 (tabI 7), .int .u32 (tabI 8), .int .u32 (tabI 9), .int .u32 (tabI 10), .int .u32 (tabI 11), .int .u32 (tabI 12), .int .u32 (tabI 13), .int .u32 (tabI 14), .int .u32 (tabI 15)]) (by simp [results, Try.results30, go_sem, hd0, hd1, hd2, hd3, hd4, hd5, hd6, hd7, hd8, hd9, hd10, hd11, hd12, hd13, hd14, hd15]) rfl ⟨rfl, ?_⟩
      exact (((((((((((((((HB.out.setCell (p := ⟨w.heap.size, 0, none⟩) (Nat.le_refl _) _).setCell (p := ⟨w.heap.size, 1, none⟩) (Nat.le_refl _) _).setCell (p := ⟨w.heap.size, 2, none⟩) (Nat.le_refl _) _).setCell (p := ⟨w.heap.size, 3, none⟩) (Nat.le_refl _) _).setCell (p := ⟨w.heap.size, 4, none⟩) (Nat.le_refl _) _).setCell (p := ⟨w.heap.size, 5, none⟩) (Nat.le_refl _) _).setCell (p := ⟨w.heap.size, 6, none⟩) (Nat.le_refl _) _).setCell (p := ⟨w.heap.size, 7, none⟩) (Nat.le_refl _) _).setCell (p := ⟨w.heap.size, 8, none⟩) (Nat.le_refl _) _).setCell (p := ⟨w.heap.size, 9, none⟩) (Nat.le_refl _) _).setCell (p := ⟨w.heap.size, 10, none⟩) (Nat.le_refl _) _).setCell (p := ⟨w.heap.size, 11, none⟩) (Nat.le_refl _) _).setCell (p := ⟨w.heap.size, 12, none⟩) (Nat.le_refl _) _).setCell (p := ⟨w.heap.size, 13, none⟩) (Nat.le_refl _) _).setCell (p := ⟨w.heap.size, 14, none⟩) (Nat.le_refl _) _).setCell (p := ⟨w.heap.size, 15, none⟩) (Nat.le_refl _) _
end Go.Proofs.Ytjiehohfbddpcaa
