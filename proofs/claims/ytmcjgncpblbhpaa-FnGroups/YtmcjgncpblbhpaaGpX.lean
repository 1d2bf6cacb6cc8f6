/- Marks on lists of rows that lie in some blocks, and what is held of them (stage 13). -/
import Derived.Test.YtmcjgncpblbhpaaPrC
namespace Go.Proofs.Ytmcjgncpblbhpaa
open Go.RowKit

def RgS (S T : Nat → Prop) (j : Nat) : Prop := S j ∧ T j
/-- Rows that lie in blocks of their own, all within S and T; of each block P holds. -/
def OwnY (w : World) (S T : Nat → Prop) (a : Option Addr) (rs : Rs) (P : Nat → Nat → Nat → Prop) : Prop :=
  rs.length = 0 ∨ ∃ (g : Nat) (cur : Array Value) (gs ns cs : Nat → Nat) (ax : Nat → Option Addr), a = some ⟨g, 0, none⟩ ∧ S g ∧ T g ∧ w.heap[g]? = some (.cells cur 28 (0, 0)) ∧
    (∀ i, i < rs.length → cur[i]? = some (.slice (ax i) (nthR rs i).length (cs i)) ∧ (0 < (nthR rs i).length → ax i = some ⟨gs i, 0, none⟩ ∧ gs i ≠ g ∧ S (gs i) ∧ T (gs i) ∧ (nthR rs i).length ≤ ns i ∧ P i (gs i) (ns i))) ∧
    ∀ i j, i < j → j < rs.length → 0 < (nthR rs i).length → 0 < (nthR rs j).length → gs i ≠ gs j
theorem OwnY.map {w w' : World} {S T : Nat → Prop} {a : Option Addr} {rs : Rs} {P Q : Nat → Nat → Nat → Prop} (h : OwnY w S T a rs P) (hb : ∀ g, S g → T g → g < w.heap.size → w'.heap[g]? = w.heap[g]?)
    (hP : ∀ i g n, i < rs.length → S g → T g → P i g n → Q i g n) : OwnY w' S T a rs Q := by
  rcases h with h | ⟨g, cur, gs, ns, cs, ax, e, h1, h2, hh, hc, hd⟩
  · exact .inl h
  · refine .inr ⟨g, cur, gs, ns, cs, ax, e, h1, h2, (hb g h1 h2 (slab_lt hh)).trans hh, fun i hi' => ⟨(hc i hi').1, fun h0 => ?_⟩, hd⟩
    obtain ⟨q1, q2, q3, q4, q5, q6⟩ := (hc i hi').2 h0
    exact ⟨q1, q2, q3, q4, q5, hP i _ _ hi' q3 q4 q6⟩
/-- Rows of the call's own, with their values. -/
def OwnS (w : World) (S T : Nat → Prop) (a : Option Addr) (rs : Rs) : Prop := OwnY w S T a rs (fun i g n => SlabK w g n (nthR rs i) (nthR rs i).length)
theorem OwnS.block {w w' : World} {S T : Nat → Prop} {a : Option Addr} {rs : Rs} (h : OwnS w S T a rs) (hb : ∀ g, S g → T g → g < w.heap.size → w'.heap[g]? = w.heap[g]?) : OwnS w' S T a rs :=
  OwnY.map h hb (fun _ g _ _ h1 h2 hS => hS.at (hb g h1 h2 hS.lt))
theorem OwnS.below {w w' : World} {S T : Nat → Prop} {a : Option Addr} {rs : Rs} (h : OwnS w S T a rs) (hb : Below w.heap.size w w') : OwnS w' S T a rs := h.block fun g _ _ hg => hb.block g hg
theorem OwnS.shp {w : World} {S T : Nat → Prop} {a : Option Addr} {rs : Rs} (h : OwnS w S T a rs) : OwnY w S T a rs (fun _ g n => MkV w g n 0 0) :=
  OwnY.map h (fun _ _ _ _ => rfl) (fun _ _ _ _ _ _ hS => hS.shp)
theorem OwnS.row {w : World} {S T : Nat → Prop} {a : Option Addr} {rs : Rs} (h : OwnS w S T a rs) (ht : TextR rs) (hs : SmallR rs) : RowR w a rs := fun i hi' => by
  rcases h with h | ⟨g, cur, gs, ns, cs, ax, e, h1, h2, hh, hc, hd⟩
  · omega
  · obtain ⟨e1, e2⟩ := hc i hi'
    refine ⟨g, 0, ax i, cs i, e, slab_lt hh, by rw [slab_cell hh, Nat.zero_add]; exact e1, ?_, small_max (hs.2 i hi')⟩
    intro j hj
    obtain ⟨q1, q2, q3, q4, q5, cu, qh, _, qc⟩ := e2 (by omega)
    have := qc j hj
    refine ⟨gs i, 0, q1, slab_lt qh, ⟨?_, ?_, ?_⟩, ht i hi' j hj⟩
    · rw [slab_cell qh, Nat.zero_add]; exact this.1
    · rw [slab_cell qh, Nat.zero_add]; exact this.2.1
    · rw [slab_cell qh, Nat.zero_add]; exact this.2.2
/-- Rows that are marked from k on. -/
def MkS (w : World) (S T : Nat → Prop) (a : Option Addr) (rs : Rs) (k : Int) : Prop := OwnY w S T a rs (fun i g n => MkV w g n (kAt k rs i) (nthR rs i).length)
theorem MkS.below {w w' : World} {S T : Nat → Prop} {a : Option Addr} {rs : Rs} {k : Int} (h : MkS w S T a rs k) (hb : Below w.heap.size w w') : MkS w' S T a rs k :=
  OwnY.map h (fun g _ _ hg => hb.block g hg) (fun _ _ _ _ _ _ hM => hM.below hb)
set_option maxRecDepth 100000 in
set_option maxHeartbeats 4000000 in
theorem markS_any (S T : Nat → Prop) (a : Option Addr) (c : Nat) (rs : Rs) (k : Int) (w : World) (h : OwnY w S T a rs (fun _ g n => MkV w g n 0 0)) (hs : SmallR rs) (k0 : 0 ≤ k) (k1 : k ≤ 1125899906842624) :
    Calls Try.prog 25 #[.slice a rs.length c, .int .i64 k] w fun r w' => r = .returned (.int .i64 (kAt k rs rs.length)) ∧ MkS w' S T a rs k ∧ Kept (RgS S T) w w' := by
  rcases h with h | ⟨g, cur, gs, ns, cs, ax, rfl, h1, h2, hh, hc, hd⟩
  · rw [h]
    refine (markR_nil a c k w).mono ?_
    rintro e w' ⟨rfl, rfl⟩
    exact ⟨rfl, .inl h, Kept.refl _ _⟩
  have HC : Hid (∀ i, i < rs.length → cur[i]? = some (.slice (ax i) (nthR rs i).length (cs i)) ∧ (0 < (nthR rs i).length → ax i = some ⟨gs i, 0, none⟩ ∧ gs i ≠ g ∧ S (gs i) ∧ T (gs i) ∧ (nthR rs i).length ≤ ns i)) := fun i hi => ⟨(hc i hi).1, fun h0 => by obtain ⟨q1, q2, q3, q4, q5, _⟩ := (hc i hi).2 h0; exact ⟨q1, q2, q3, q4, q5⟩⟩
  have HM : Hid (MkJ w rs gs ns k 0) := fun i hi h0 => ⟨fun h => by omega, fun _ => by obtain ⟨q1, q2, q3, q4, q5, q6⟩ := (hc i hi).2 h0; exact q6⟩
  have HD : Hid (∀ i j, i < j → j < rs.length → 0 < (nthR rs i).length → 0 < (nthR rs j).length → gs i ≠ gs j) := hd
  have HS : Hid (SmallR rs) := hs
  have HH : Hid (w.heap[g]? = some (.cells cur 28 (0, 0))) := hh
  have HG : Hid (S g ∧ T g) := ⟨h1, h2⟩
  have hlen := hs.1
  clear hc hd hs hh h1 h2
  obtain ⟨len, hL⟩ : ∃ m, rs.length = m := ⟨_, rfl⟩
  have HL : Hid (rs.length = len) := hL
  rw [hL] at hlen ⊢
  clear hL
  go_enter Try.func25, Try.ntmps25
  go_wp2
  go_loopw [1, 5] (fun m i wr => ∃ j : Nat, j ≤ len ∧ i = .int .i64 j ∧ m = .int .i64 (kAt k rs j) ∧ Hid (wr.heap[g]? = some (.cells cur 28 (0, 0)) ∧ MkJ wr rs gs ns k j ∧ Kept (RgS S T) w wr)) (fun _ i _ => len - (intOf i).toNat)
  case atStart => exact ⟨0, by omega, rfl, rfl, HH.out, HM.out, Kept.refl _ _⟩
  case round =>
    obtain ⟨j, hj, rfl, rfl, HW⟩ := hrel
    by_cases hlt : j < len
    · have hltI : (j : Int) < (len : Int) := by omega
      have hjl : j < rs.length := by rw [HL.out]; exact hlt
      obtain ⟨hc1, hc2⟩ := HC.out j hjl
      obtain ⟨kb1, kb2⟩ := kAt_bd (k := k) HS.out j (by omega)
      have hsj := HS.out.2 j hjl
      have cell : wr.cell? ⟨g, j, none⟩ = some (.slice (ax j) (nthR rs j).length (cs j)) := by rw [slab_cell HW.out.1]; exact hc1
      have hK : Hid (kAt k rs (j + 1) = kAt k rs j + 3 * ((nthR rs j).length : Int)) := rfl
      by_cases h0 : (nthR rs j).length = 0
      · have HW2 : Hid (wr.heap[g]? = some (.cells cur 28 (0, 0)) ∧ MkJ wr rs gs ns k (j + 1) ∧ Kept (RgS S T) w wr) := ⟨HW.out.1, HW.out.2.1.skip h0, HW.out.2.2⟩
        have hK2 : Hid (kAt k rs (j + 1) = kAt k rs j) := by show _ = _; rw [hK.out, h0]; simp
        rw [h0] at cell
        clear hc1 hc2 HW hK
        generalize kAt k rs j = kj at *
        go_wp2_with fail
        refine (markV_nil _ _ _ _).mono ?_
        rintro e w1 ⟨rfl, hq⟩
        obtain rfl := hq.symm
        go_wp2
        go_roundw
        case rel => exact ⟨j + 1, by omega, by go_num, by rw [hK2.out], HW2⟩
        case measure => simp [intOf]; omega
      · obtain ⟨q1, q2, q3, q4, q5⟩ := hc2 (by omega)
        have HN : Hid (0 < (nthR rs j).length) := by show _ < _; omega
        have HQ : Hid (gs j ≠ g ∧ S (gs j) ∧ T (gs j)) := ⟨q2, q3, q4⟩
        have M := markV_any (gs j) (nthR rs j).length (cs j) (ns j) (kAt k rs j) 0 wr ((HW.out.2.1 j hjl HN.out).2 (Nat.le_refl _)) q5 (by omega) (by omega) (by omega)
        rw [q1] at cell
        clear hc1 hc2 q1 q2 q3 q4 q5 h0
        go_wp2_with fail
        refine M.mono ?_
        rintro e w1 ⟨rfl, hM, hK1⟩
        have HW2 : Hid (w1.heap[g]? = some (.cells cur 28 (0, 0)) ∧ MkJ w1 rs gs ns k (j + 1) ∧ Kept (RgS S T) w w1) := ⟨(hK1.block g (slab_lt HW.out.1) (fun e => HQ.out.1 e.symm)).trans HW.out.1, HW.out.2.1.step hjl HN.out HD.out hK1 hM, HW.out.2.2.trans (hK1.mono (fun x hx => by subst hx; exact HQ.out.2))⟩
        clear M hM hK1 HW cell
        rw [← hK.out]
        clear hK
        go_wp2
        go_roundw
        case rel => exact ⟨j + 1, by omega, by go_num, rfl, HW2⟩
        case measure => simp [intOf]; omega
    · obtain rfl : j = len := by omega
      have HE : Hid (MkS wr S T (some ⟨g, 0, none⟩) rs k ∧ Kept (RgS S T) w wr) := ⟨.inr ⟨g, cur, gs, ns, cs, ax, rfl, HG.out.1, HG.out.2, HW.out.1, fun i hi' => ⟨(HC.out i hi').1, fun h0 => by obtain ⟨q1, q2, q3, q4, q5⟩ := (HC.out i hi').2 h0; exact ⟨q1, q2, q3, q4, q5, (HW.out.2.1 i hi' h0).1 (by rw [← HL.out]; exact hi')⟩⟩, HD.out⟩, HW.out.2.2⟩
      clear HW
      go_wp2
      go_ret
      exact ⟨rfl, HE.out.1, HE.out.2⟩
set_option maxRecDepth 100000 in
set_option maxHeartbeats 4000000 in
theorem heldS_any (S T : Nat → Prop) (a : Option Addr) (c : Nat) (rs : Rs) (k : Int) (w : World) (h : MkS w S T a rs k) (hs : SmallR rs) (k0 : 0 ≤ k) (k1 : k ≤ 1125899906842624) :
    Calls Try.prog 26 #[.slice a rs.length c, .int .i64 k] w fun r w' => r = .returned (.int .i64 (kAt k rs rs.length)) ∧ Below w.heap.size w w' := by
  rcases h with h | ⟨g, cur, gs, ns, cs, ax, rfl, h1, h2, hh, hc, hd⟩
  · rw [h]
    refine (heldR_nil a c k w).mono ?_
    rintro e w' ⟨rfl, rfl⟩
    exact ⟨rfl, Below.refl _ _⟩
  have HC : Hid (∀ i, i < rs.length → cur[i]? = some (.slice (ax i) (nthR rs i).length (cs i)) ∧ (0 < (nthR rs i).length → ax i = some ⟨gs i, 0, none⟩ ∧ (nthR rs i).length ≤ ns i ∧ MkV w (gs i) (ns i) (kAt k rs i) (nthR rs i).length)) := fun i hi => ⟨(hc i hi).1, fun h0 => by obtain ⟨q1, q2, q3, q4, q5, q6⟩ := (hc i hi).2 h0; exact ⟨q1, q5, q6⟩⟩
  have HS : Hid (SmallR rs) := hs
  have HH : Hid (w.heap[g]? = some (.cells cur 28 (0, 0))) := hh
  have hlen := hs.1
  clear hc hd hs hh h1 h2
  obtain ⟨len, hL⟩ : ∃ m, rs.length = m := ⟨_, rfl⟩
  have HL : Hid (rs.length = len) := hL
  rw [hL] at hlen ⊢
  clear hL
  go_enter Try.func26, Try.ntmps26
  go_wp2
  go_loopw [1, 5] (fun m i wr => ∃ j : Nat, j ≤ len ∧ i = .int .i64 j ∧ m = .int .i64 (kAt k rs j) ∧ Hid (Below w.heap.size w wr)) (fun _ i _ => len - (intOf i).toNat)
  case atStart => exact ⟨0, by omega, rfl, rfl, Below.refl _ _⟩
  case round =>
    obtain ⟨j, hj, rfl, rfl, HW⟩ := hrel
    by_cases hlt : j < len
    · have hltI : (j : Int) < (len : Int) := by omega
      have hjl : j < rs.length := by rw [HL.out]; exact hlt
      obtain ⟨hc1, hc2⟩ := HC.out j hjl
      obtain ⟨kb1, kb2⟩ := kAt_bd (k := k) HS.out j (by omega)
      have hsj := HS.out.2 j hjl
      have cell : wr.cell? ⟨g, j, none⟩ = some (.slice (ax j) (nthR rs j).length (cs j)) := by rw [HW.out.cell (p := ⟨g, j, none⟩) (slab_lt HH.out), slab_cell HH.out]; exact hc1
      have hK : Hid (kAt k rs (j + 1) = kAt k rs j + 3 * ((nthR rs j).length : Int)) := rfl
      by_cases h0 : (nthR rs j).length = 0
      · have hK2 : Hid (kAt k rs (j + 1) = kAt k rs j) := by show _ = _; rw [hK.out, h0]; simp
        rw [h0] at cell
        clear hc1 hc2 hK
        generalize kAt k rs j = kj at *
        go_wp2_with fail
        refine (heldV_nil _ _ _ _).mono ?_
        rintro e w1 ⟨rfl, hq⟩
        obtain rfl := hq.symm
        have hng : ¬ kj < 0 := by omega
        go_wp2
        go_roundw
        case rel => exact ⟨j + 1, by omega, by go_num, by rw [hK2.out], HW⟩
        case measure => simp [intOf]; omega
      · obtain ⟨q1, q5, q6⟩ := hc2 (by omega)
        have M := heldV_any (gs j) (nthR rs j).length (cs j) (ns j) (kAt k rs j) wr (q6.below HW.out) q5 (by omega) (by omega) (by omega)
        rw [q1] at cell
        clear hc1 hc2 q1 q5 q6 h0
        go_wp2_with fail
        refine M.mono ?_
        rintro e w1 ⟨rfl, hb1⟩
        have HW2 : Hid (Below w.heap.size w w1) := below_step HW.out (Nat.le_refl _) hb1
        clear M hb1 HW cell
        have hng : ¬ kAt k rs (j + 1) < 0 := by rw [hK.out]; omega
        rw [← hK.out]
        clear hK
        go_wp2
        go_roundw
        case rel => exact ⟨j + 1, by omega, by go_num, rfl, HW2⟩
        case measure => simp [intOf]; omega
    · obtain rfl : j = len := by omega
      go_wp2
      go_ret
      exact ⟨rfl, HW.out⟩
end Go.Proofs.Ytmcjgncpblbhpaa
