/- spec's l09Row (stage 11). -/
import Derived.Test.YtepkdodicglilaaGreatDoorCrA
namespace Go.Proofs.YtepkdodicglilaaGreatDoor
open Go.RowKit

/-- The code of a row of values in a table's columns, and the column at fault. -/
def rowR (cs : List TC) (vs : List V3) : Int × Int := if vs.length ≠ cs.length then (12, 0) else rowF cs vs 0
/-- What stands while a cell is looked at. -/
abbrev StR (W : World) (tb : Nat) (cv : Value) (b1 o1 : Nat) (c : TC) (b2 o2 : Nat) (v : V3) (w' : World) : Prop := w'.cell? ⟨tb, 1, none⟩ = some cv ∧ CellC w' b1 o1 c ∧ CellV w' b2 o2 v ∧ tb < w'.heap.size ∧ b1 < w'.heap.size ∧ b2 < w'.heap.size ∧ Below W.heap.size W w'
theorem StR.keep {W : World} {tb : Nat} {cv : Value} {b1 o1 : Nat} {c : TC} {b2 o2 : Nat} {v : V3} {w1 w2 : World} (h : StR W tb cv b1 o1 c b2 o2 v w1) (hb : Below w1.heap.size w1 w2) : StR W tb cv b1 o1 c b2 o2 v w2 :=
  ⟨(hb.cell (p := ⟨tb, 1, none⟩) h.2.2.2.1).trans h.1, h.2.1.below h.2.2.2.2.1 hb, h.2.2.1.below h.2.2.2.2.2.1 hb, Nat.lt_of_lt_of_le h.2.2.2.1 hb.size, Nat.lt_of_lt_of_le h.2.2.2.2.1 hb.size, Nat.lt_of_lt_of_le h.2.2.2.2.2.1 hb.size, below_step h.2.2.2.2.2.2 (Nat.le_refl _) hb⟩
set_option maxRecDepth 100000 in
set_option maxHeartbeats 4000000 in
theorem l09Row_any (nm : ByteArray) (ca : Option Addr) (cc : Nat) (cs : List TC) (key : Int) (xv : Value) (a : Option Addr) (cap : Nat) (vs : List V3) (w : World) (hC : RowC w ca cs) (hV : RowV w a vs) (lc : cs.length ≤ 1048576) (lv : vs.length ≤ 1048576) :
    Calls Tryz.prog 28 #[.agg #[.string nm, .slice ca cs.length cc, .int .i64 key, xv], .slice a vs.length cap] w fun e w' => e = .returned (.tuple #[.int .i64 (rowR cs vs).1, .int .i64 (rowR cs vs).2]) ∧ Below w.heap.size w w' := by
  have HR : Hid (RowC w ca cs ∧ RowV w a vs) := ⟨hC, hV⟩
  clear hC hV
  obtain ⟨n, hn⟩ : ∃ m, cs.length = m := ⟨_, rfl⟩
  obtain ⟨m, hm⟩ : ∃ m, vs.length = m := ⟨_, rfl⟩
  have HN : Hid (cs.length = n ∧ vs.length = m) := ⟨hn, hm⟩
  have HP : Hid (rowR cs vs = if m ≠ n then (12, 0) else rowF cs vs 0) := by show _ = _; rw [← hn, ← hm]; rfl
  rw [hn] at lc ⊢
  rw [hm] at lv ⊢
  clear hn hm
  obtain ⟨W0, hW0⟩ : ∃ W0, w.alloc (.cells #[.string nm, .slice ca n cc, .int .i64 key, xv] 34) = W0 := ⟨_, rfl⟩
  have B0 : Below w.heap.size w W0 := hW0 ▸ (Below.refl _ _).alloc (Nat.le_refl _) _
  have c1 : W0.cell? ⟨w.heap.size, 1, none⟩ = some (.slice ca n cc) := hW0 ▸ slab_cell (heap_new' _ _ _ rfl)
  have l0 : w.heap.size < W0.heap.size := by rw [← hW0]; simp
  by_cases hmn : m = n
  · subst hmn
    have HQ : Hid (rowR cs vs = rowF cs vs 0) := by show _ = _; rw [HP.out, if_neg (by simp)]
    go_enter Tryz.func28, Tryz.ntmps28
    go_wp2
    go_loopw [6, 7] (fun i _ wr => ∃ k : Nat, k ≤ m ∧ i = .int .i64 k ∧ Hid (∀ j, j < k → ccV (nthC cs j) (nthV vs j) = 0) ∧ Below W0.heap.size W0 wr) (fun i _ _ => m - (intOf i).toNat)
    case atStart => exact ⟨0, by omega, rfl, fun i hi => by omega, Below.refl _ _⟩
    case round =>
      obtain ⟨k, hk, rfl, HA, hbl⟩ := hrel
      have hB := B0.trans (hbl.mono B0.size)
      by_cases hlt : k < m
      · obtain ⟨b1, o1, rfl, hlb1, hc1, _⟩ := (HR.out.1.below hB) k (by rw [HN.out.1]; exact hlt)
        obtain ⟨b2, o2, rfl, hlb2, hc2, _⟩ := (HR.out.2.below hB) k (by rw [HN.out.2]; exact hlt)
        have HH : Hid (ccV (nthC cs k) (nthV vs k) ≠ 0 → rowF cs vs 0 = (ccV (nthC cs k) (nthV vs k), (k : Int))) := fun h => by
          have := rowF_hit k cs vs 0 HA.out (by rw [HN.out.1]; exact hlt) (by rw [HN.out.2]; exact hlt) h
          rwa [Int.zero_add] at this
        have HA' : Hid (ccV (nthC cs k) (nthV vs k) = 0 → ∀ j, j < k + 1 → ccV (nthC cs j) (nthV vs j) = 0) := fun h j hj => by
          by_cases e : j = k
          · rw [e]; exact h
          · exact HA.out j (by omega)
        clear HA
        generalize nthC cs k = x at *
        generalize nthV vs k = y at *
        have hP : StR W0 w.heap.size (.slice (some ⟨b1, o1, none⟩) m cc) b1 (o1 + k * 3) x b2 (o2 + k * 3) y wr.drew := ⟨(hbl.cell (p := ⟨w.heap.size, 1, none⟩) l0).trans c1, hc1, hc2, Nat.lt_of_lt_of_le l0 hbl.size, hlb1, hlb2, hbl.drew⟩
        have hltI : (k : Int) < (m : Int) := by omega
        clear hc1 hc2 c1
        obtain ⟨nx, tx, ux⟩ := x
        obtain ⟨ky, ny, ty⟩ := y
        go_wp2_with fail
        go_region_held3 (StR W0 w.heap.size (.slice (some ⟨b1, o1, none⟩) m cc) b1 (o1 + k * 3) (nx, tx, ux) b2 (o2 + k * 3) (ky, ny, ty)) (first | exact hP | exact StR.keep (by assumption) hb) (first | (go_at_call 53; refine (l09Cell_any nx tx ux ky ny ty _).mono ?_; rintro e wA ⟨rfl, hb⟩) | fail)
        rename_i hPL
        have hbl1 := hPL.2.2.2.2.2.2
        have hB1 := B0.trans (hbl1.mono B0.size)
        clear hP hPL hbl hB
        by_cases hz : ccV (nx, tx, ux) (ky, ny, ty) = 0
        · have HT : Hid (∀ j, j < k + 1 → ccV (nthC cs j) (nthV vs j) = 0) := HA'.out hz
          clear HA' HH
          rw [hz]
          go_wp2
          go_roundw
          case rel => exact ⟨k + 1, by omega, by go_num, HT, hbl1⟩
          case measure => simp [intOf]; omega
        · have HT : Hid (rowF cs vs 0 = (ccV (nx, tx, ux) (ky, ny, ty), (k : Int))) := HH.out hz
          clear HA' HH
          generalize ccV (nx, tx, ux) (ky, ny, ty) = q at *
          go_wp2
          go_ret2
          exact ⟨by rw [HQ.out, HT.out]; rfl, hB1⟩
      · obtain rfl : k = m := by omega
        have HF : Hid (rowF cs vs 0 = (0, 0)) := rowF_none cs vs 0 (by rw [HN.out.1, HN.out.2]) (by rw [HN.out.2]; exact HA.out)
        go_wp2
        go_ret2
        exact ⟨by rw [HQ.out, HF.out]; rfl, hB⟩
  · have HQ : Hid (rowR cs vs = (12, 0)) := by show _ = _; rw [HP.out, if_pos hmn]
    have hmnI : ¬ (m : Int) = (n : Int) := by omega
    go_enter Tryz.func28, Tryz.ntmps28
    go_wp2
    go_ret2
    exact ⟨by rw [HQ.out]; rfl, B0⟩
end Go.Proofs.YtepkdodicglilaaGreatDoor
