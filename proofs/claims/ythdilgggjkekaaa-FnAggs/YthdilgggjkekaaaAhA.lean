/- A row of values in a block, changed in place; slices.IndexFunc and DeleteFunc by what is null (towards FnAggs, stage 12). -/
import Derived.Test.YthdilgggjkekaaaAgG
import Derived.Test.YthdilgggjkekaaaAgM
namespace Go.Proofs.Ythdilgggjkekaaa
open Go.RowKit

theorem slab_cell {w : World} {g o : Nat} {cur : Array Value} {e : TypeId} (h : w.heap[g]? = some (.cells cur e (0, 0))) : w.cell? ⟨g, o, none⟩ = cur[o]? := by
  simp [World.cell?, h]
theorem slab_free {w : World} {g o : Nat} {cur : Array Value} {e : TypeId} (h : w.heap[g]? = some (.cells cur e (0, 0))) : w.frozen? ⟨g, o, none⟩ = false := by
  simp [World.frozen?, h]
theorem slab_lt {w : World} {g : Nat} {o : Obj} (h : w.heap[g]? = some o) : g < w.heap.size := by
  rcases Nat.lt_or_ge g w.heap.size with h' | h'
  · exact h'
  · rw [Array.getElem?_eq_none h'] at h; cases h
/-- The values us lie in a block from its head on. -/
def BlkO (w : World) (g cap : Nat) (us : List V3) : Prop :=
  ∃ cur, w.heap[g]? = some (.cells cur 27 (0, 0)) ∧ cur.size = cap * 3 ∧ us.length ≤ cap ∧ ∀ i, i < us.length → cur[i * 3]? = some (.int .i64 (nthV us i).1) ∧ cur[i * 3 + 1]? = some (.int .i64 (nthV us i).2.1) ∧ cur[i * 3 + 2]? = some (.string (nthV us i).2.2)
theorem BlkO.lt {w : World} {g cap : Nat} {us : List V3} (h : BlkO w g cap us) : g < w.heap.size := by
  obtain ⟨cur, hh, _⟩ := h
  exact slab_lt hh
theorem BlkO.below {w w' : World} {g cap : Nat} {us : List V3} (h : BlkO w g cap us) (hb : Below w.heap.size w w') : BlkO w' g cap us := by
  have hl := h.lt
  obtain ⟨cur, hh, r⟩ := h
  exact ⟨cur, (hb.block g hl).trans hh, r⟩
theorem BlkO.free {w : World} {g cap : Nat} {us : List V3} (h : BlkO w g cap us) (o : Nat) : w.frozen? ⟨g, o, none⟩ = false := by
  obtain ⟨cur, hh, _⟩ := h
  exact slab_free hh
theorem BlkO.cells {w : World} {g cap i : Nat} {us : List V3} (h : BlkO w g cap us) (hi : i < us.length) : w.cell? ⟨g, i * 3, none⟩ = some (.int .i64 (nthV us i).1) ∧ w.cell? ⟨g, i * 3 + 1, none⟩ = some (.int .i64 (nthV us i).2.1) ∧ w.cell? ⟨g, i * 3 + 2, none⟩ = some (.string (nthV us i).2.2) := by
  obtain ⟨cur, hh, _, _, hc⟩ := h
  obtain ⟨a, b, c⟩ := hc i hi
  exact ⟨by rw [slab_cell hh]; exact a, by rw [slab_cell hh]; exact b, by rw [slab_cell hh]; exact c⟩
theorem nthV_set (us : List V3) (i j : Nat) (v : V3) (hi : i < us.length) : nthV (us.set i v) j = if j = i then v else nthV us j := by
  unfold nthV
  by_cases h : j = i
  · subst h
    simp [List.getD_eq_getElem?_getD, hi]
  · rw [if_neg h]
    rw [List.getD_eq_getElem?_getD, List.getElem?_set_ne (fun e => h e.symm), ← List.getD_eq_getElem?_getD]
theorem BlkO.set {w : World} {g cap i : Nat} {us : List V3} (h : BlkO w g cap us) (hi : i < us.length) (v : V3) :
    BlkO (((w.setCell ⟨g, i * 3, none⟩ (.int .i64 v.1)).setCell ⟨g, i * 3 + 1, none⟩ (.int .i64 v.2.1)).setCell ⟨g, i * 3 + 2, none⟩ (.string v.2.2)) g cap (us.set i v) := by
  obtain ⟨cur, hh, hs, hl, hc⟩ := h
  refine ⟨_, slab_set (slab_set (slab_set hh _) _) _, by simpa using hs, by simpa using hl, fun j hj => ?_⟩
  rw [List.length_set] at hj
  rw [nthV_set us i j v hi]
  obtain ⟨a, b, c⟩ := hc j hj
  have hb : i * 3 + 2 < cur.size := by rw [hs]; omega
  by_cases e : j = i
  · subst e
    simp [Array.getElem?_setIfInBounds]
    omega
  · rw [if_neg e]
    refine ⟨?_, ?_, ?_⟩
    · rw [Array.getElem?_setIfInBounds_ne (by omega), Array.getElem?_setIfInBounds_ne (by omega), Array.getElem?_setIfInBounds_ne (by omega)]; exact a
    · rw [Array.getElem?_setIfInBounds_ne (by omega), Array.getElem?_setIfInBounds_ne (by omega), Array.getElem?_setIfInBounds_ne (by omega)]; exact b
    · rw [Array.getElem?_setIfInBounds_ne (by omega), Array.getElem?_setIfInBounds_ne (by omega), Array.getElem?_setIfInBounds_ne (by omega)]; exact c

theorem nul_any (k n : Int) (t : ByteArray) (w : World) : Calls Try.prog 22 #[VV k n t] w fun e w' => e = .returned (.bool (k == 0)) ∧ Below w.heap.size w w' := by
  go_enter Try.func22, Try.ntmps22
  go_wp2
  go_ret
  exact ⟨rfl, (Below.refl _ _).alloc (Nat.le_refl _) _⟩
theorem ent22 : Ent 22 := enters_of Try.func22 (by kernel_rfl) rfl
theorem nul_ov (o : Option Int) : ((ov o).1 == 0) = o.isNone := by cases o <;> rfl
set_option maxRecDepth 100000 in
set_option maxHeartbeats 2000000 in
theorem indexFunc_is (vs : List V3) (p : V3 → Bool) (g : Nat) (cp : Array Value) (a : Option Addr) (cap : Nat) (w : World) (hrow : RowV w a vs) (hlen : vs.length ≤ maxLen) (hP : PredW w g cp p) :
    Calls Try.prog 34 #[.slice a vs.length cap, .func (.func g) #[] cp] w fun e w' => ((∃ k : Nat, k < vs.length ∧ e = .returned (.int .i64 k) ∧ p (nthV vs k) = true ∧ ∀ i, i < k → p (nthV vs i) = false) ∨ (e = .returned (.int .i64 (-1)) ∧ ∀ i, i < vs.length → p (nthV vs i) = false)) ∧ Below w.heap.size w w' := by
  have HR : Hid (RowV w a vs) := hrow
  obtain ⟨hE, hP⟩ := hP
  have HP : Hid (∀ w', Below w.heap.size w w' → ∀ k n t, Calls Try.prog g (#[VV k n t] ++ cp) w' fun e w'' => e = .returned (.bool (p (k, n, t))) ∧ Below w'.heap.size w' w'') := hP
  unfold Ent at hE
  clear hrow hP
  unfold maxLen at hlen
  obtain ⟨len, hL⟩ : ∃ m, vs.length = m := ⟨_, rfl⟩
  have HL : Hid (vs.length = len) := hL
  rw [hL] at hlen ⊢
  clear hL
  go_enter Try.func34, Try.ntmps34
  go_wp2
  go_loopw [8] (fun i wr => ∃ k' : Nat, k' ≤ len ∧ i = .int .i64 k' ∧ Hid (∀ i, i < k' → p (nthV vs i) = false) ∧ Below w.heap.size w wr) (fun i _ => len - (intOf i).toNat)
  case atStart => exact ⟨0, by omega, rfl, fun i hi => by omega, Below.refl _ _⟩
  case round =>
    obtain ⟨j, hj, rfl, HS, hbl⟩ := hrel
    by_cases hjl : j < len
    · obtain ⟨b, off, rfl, hb, ⟨c0, c1, c2⟩, hs⟩ := (HR.out.below hbl) j (by rw [HL.out]; exact hjl)
      have hc := HP.out wr hbl (nthV vs j).1 (nthV vs j).2.1 (nthV vs j).2.2
      go_wp2_with fail
      refine hc.mono ?_
      rintro e w1 ⟨rfl, b1⟩
      have B1 := below_step hbl (Nat.le_refl _) b1
      clear b1 hbl hc c0 c1 c2
      cases hn : p ((nthV vs j).1, (nthV vs j).2.1, (nthV vs j).2.2) with
      | true =>
        have HT : Hid (p (nthV vs j) = true ∧ ∀ i, i < j → p (nthV vs i) = false) := ⟨hn, HS.out⟩
        clear hn HS
        go_wp2
        go_ret
        exact ⟨.inl ⟨j, hjl, rfl, HT.out.1, HT.out.2⟩, B1⟩
      | false =>
        have HS' : Hid (∀ i, i < j + 1 → p (nthV vs i) = false) := fun i hi => by
          rcases Nat.lt_or_ge i j with h | h
          · exact HS.out i h
          · obtain rfl : i = j := by omega
            exact hn
        clear hn HS
        go_wp2
        go_roundw
        case rel => exact ⟨j + 1, by omega, by go_num, HS', B1⟩
        case measure => simp [intOf]; omega
    · obtain rfl : j = len := by omega
      go_wp2
      go_ret
      exact ⟨.inr ⟨rfl, HS.out⟩, hbl⟩
end Go.Proofs.Ythdilgggjkekaaa
