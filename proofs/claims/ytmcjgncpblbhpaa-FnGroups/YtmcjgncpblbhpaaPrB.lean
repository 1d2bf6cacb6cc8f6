/- Marks on lists of rows that own their memory, and what is held of them (stage 13). -/
import Derived.Test.YtmcjgncpblbhpaaPrA
namespace Go.Proofs.Ytmcjgncpblbhpaa
open Go.RowKit

def Rng (lo hi : Nat) (j : Nat) : Prop := lo ≤ j ∧ j < hi
/-- Rows that lie in blocks of their own, all within lo and hi; of each block P holds. -/
def OwnX (w : World) (lo hi : Nat) (a : Option Addr) (rs : Rs) (P : Nat → Nat → Nat → Prop) : Prop :=
  rs.length = 0 ∨ ∃ (g : Nat) (cur : Array Value) (gs ns cs : Nat → Nat) (ax : Nat → Option Addr), a = some ⟨g, 0, none⟩ ∧ lo ≤ g ∧ g < hi ∧ w.heap[g]? = some (.cells cur 28 (0, 0)) ∧
    (∀ i, i < rs.length → cur[i]? = some (.slice (ax i) (nthR rs i).length (cs i)) ∧ (0 < (nthR rs i).length → ax i = some ⟨gs i, 0, none⟩ ∧ gs i ≠ g ∧ lo ≤ gs i ∧ gs i < hi ∧ (nthR rs i).length ≤ ns i ∧ P i (gs i) (ns i))) ∧
    ∀ i j, i < j → j < rs.length → 0 < (nthR rs i).length → 0 < (nthR rs j).length → gs i ≠ gs j
theorem OwnX.map {w w' : World} {lo hi : Nat} {a : Option Addr} {rs : Rs} {P Q : Nat → Nat → Nat → Prop} (h : OwnX w lo hi a rs P) (hb : ∀ g, lo ≤ g → g < hi → g < w.heap.size → w'.heap[g]? = w.heap[g]?)
    (hP : ∀ i g n, i < rs.length → lo ≤ g → g < hi → P i g n → Q i g n) : OwnX w' lo hi a rs Q := by
  rcases h with h | ⟨g, cur, gs, ns, cs, ax, e, h1, h2, hh, hc, hd⟩
  · exact .inl h
  · refine .inr ⟨g, cur, gs, ns, cs, ax, e, h1, h2, (hb g h1 h2 (slab_lt hh)).trans hh, fun i hi' => ⟨(hc i hi').1, fun h0 => ?_⟩, hd⟩
    obtain ⟨q1, q2, q3, q4, q5, q6⟩ := (hc i hi').2 h0
    exact ⟨q1, q2, q3, q4, q5, hP i _ _ hi' q3 q4 q6⟩
/-- Rows of the call's own, with their values. -/
def OwnR (w : World) (lo hi : Nat) (a : Option Addr) (rs : Rs) : Prop := OwnX w lo hi a rs (fun i g n => SlabK w g n (nthR rs i) (nthR rs i).length)
theorem SlabK.at {w w' : World} {g n k : Nat} {vs : List V3} (h : SlabK w g n vs k) (hb : w'.heap[g]? = w.heap[g]?) : SlabK w' g n vs k := by
  obtain ⟨cur, hh, r⟩ := h
  exact ⟨cur, hb.trans hh, r⟩
theorem OwnR.block {w w' : World} {lo hi : Nat} {a : Option Addr} {rs : Rs} (h : OwnR w lo hi a rs) (hb : ∀ g, lo ≤ g → g < hi → g < w.heap.size → w'.heap[g]? = w.heap[g]?) : OwnR w' lo hi a rs :=
  OwnX.map h hb (fun _ g _ _ h1 h2 hS => hS.at (hb g h1 h2 hS.lt))
theorem OwnR.below {w w' : World} {lo hi : Nat} {a : Option Addr} {rs : Rs} (h : OwnR w lo hi a rs) (hb : Below w.heap.size w w') : OwnR w' lo hi a rs := h.block fun g _ _ hg => hb.block g hg
theorem OwnR.shp {w : World} {lo hi : Nat} {a : Option Addr} {rs : Rs} (h : OwnR w lo hi a rs) : OwnX w lo hi a rs (fun _ g n => MkV w g n 0 0) :=
  OwnX.map h (fun _ _ _ _ => rfl) (fun _ _ _ _ _ _ hS => hS.shp)
theorem OwnR.row {w : World} {lo hi : Nat} {a : Option Addr} {rs : Rs} (h : OwnR w lo hi a rs) (ht : TextR rs) (hs : SmallR rs) : RowR w a rs := fun i hi' => by
  rcases h with h | ⟨g, cur, gs, ns, cs, ax, e, h1, h2, hh, hc, hd⟩
  · omega
  · obtain ⟨e1, e2⟩ := hc i hi'
    refine ⟨g, 0, ax i, cs i, e, slab_lt hh, by rw [slab_cell hh, Nat.zero_add]; exact e1, ?_, small_max (hs.2 i hi')⟩
    intro j hj
    obtain ⟨q1, q2, q3, q4, q5, cu, qh, _, qc⟩ := e2 (by omega)
    have := qc j hj
    refine ⟨gs i, 0, q1, slab_lt qh, ⟨?_, ?_, ?_⟩, ht i hi' j hj⟩
    · rw [slab_cell qh, Nat.zero_add]; exact this.1
    · rw [slab_cell qh, Nat.zero_add]; exact this.2.1
    · rw [slab_cell qh, Nat.zero_add]; exact this.2.2
theorem SlabR.own {w : World} {g lo : Nat} {rs : Rs} (h : SlabR w g rs.length rs rs.length) (hlo : lo ≤ g) : OwnR w lo w.heap.size (some ⟨g, 0, none⟩) rs := by
  have hl := h.lt
  obtain ⟨cur, gs, hh, hn, hc, hm⟩ := h
  refine .inr ⟨g, cur, gs, fun i => (nthR rs i).length, fun i => (nthR rs i).length, fun i => some ⟨gs i, 0, none⟩, rfl, hlo, hl, hh, fun i hi => ⟨(hc i hi).1, fun _ => ⟨rfl, ?_, ?_, (hc i hi).2.2.lt, Nat.le_refl _, (hc i hi).2.2⟩⟩, fun i j hij hj _ _ => ?_⟩
  · have := (hc i hi).2.1; omega
  · have := (hc i hi).2.1; omega
  · have := hm i j hij hj; omega

/-- The mark at which row i begins. -/
def kAt (k : Int) (rs : Rs) : Nat → Int
  | 0 => k
  | i + 1 => kAt k rs i + 3 * (nthR rs i).length
theorem kAt_bd {k : Int} {rs : Rs} (hs : SmallR rs) : ∀ i, i ≤ rs.length → k ≤ kAt k rs i ∧ kAt k rs i ≤ k + 3145728 * i
  | 0, _ => ⟨Int.le_refl _, by simp [kAt]⟩
  | i + 1, h => by
    obtain ⟨h1, h2⟩ := kAt_bd (k := k) hs i (by omega)
    have := hs.2 i (by omega)
    simp only [kAt]
    push_cast
    omega
/-- Rows that are marked from k on. -/
def MkR (w : World) (lo hi : Nat) (a : Option Addr) (rs : Rs) (k : Int) : Prop := OwnX w lo hi a rs (fun i g n => MkV w g n (kAt k rs i) (nthR rs i).length)
theorem MkV.at {w w' : World} {g n m : Nat} {k : Int} (h : MkV w g n k m) (hb : w'.heap[g]? = w.heap[g]?) : MkV w' g n k m := by
  obtain ⟨cur, hh, r⟩ := h
  exact ⟨cur, hb.trans hh, r⟩
theorem MkR.below {w w' : World} {lo hi : Nat} {a : Option Addr} {rs : Rs} {k : Int} (h : MkR w lo hi a rs k) (hb : Below w.heap.size w w') : MkR w' lo hi a rs k :=
  OwnX.map h (fun g _ _ hg => hb.block g hg) (fun _ _ _ _ _ _ hM => hM.below hb)
/-- The first j rows are marked. -/
def MkJ (w : World) (rs : Rs) (gs ns : Nat → Nat) (k : Int) (j : Nat) : Prop := ∀ i, i < rs.length → 0 < (nthR rs i).length → (i < j → MkV w (gs i) (ns i) (kAt k rs i) (nthR rs i).length) ∧ (j ≤ i → MkV w (gs i) (ns i) 0 0)
theorem MkJ.skip {w : World} {rs : Rs} {gs ns : Nat → Nat} {k : Int} {j : Nat} (h : MkJ w rs gs ns k j) (h0 : (nthR rs j).length = 0) : MkJ w rs gs ns k (j + 1) := fun i hi hp => by
  obtain ⟨h1, h2⟩ := h i hi hp
  have hne : i ≠ j := fun e => by subst e; omega
  exact ⟨fun h => h1 (by omega), fun h => h2 (by omega)⟩
theorem MkJ.step {w w' : World} {rs : Rs} {gs ns : Nat → Nat} {k : Int} {j : Nat} (h : MkJ w rs gs ns k j) (hj : j < rs.length) (h0 : 0 < (nthR rs j).length)
    (hd : ∀ i j, i < j → j < rs.length → 0 < (nthR rs i).length → 0 < (nthR rs j).length → gs i ≠ gs j) (hK : Kept (fun x => x = gs j) w w') (hM : MkV w' (gs j) (ns j) (kAt k rs j) (nthR rs j).length) : MkJ w' rs gs ns k (j + 1) := fun i hi hp => by
  obtain ⟨h1, h2⟩ := h i hi hp
  rcases Nat.lt_trichotomy i j with hij | rfl | hij
  · exact ⟨fun _ => (h1 hij).kept hK (hd i j hij hj hp h0), fun h => by omega⟩
  · exact ⟨fun _ => hM, fun h => by omega⟩
  · exact ⟨fun h => by omega, fun _ => (h2 (by omega)).kept hK (fun e => hd j i hij hi h0 hp e.symm)⟩
set_option maxRecDepth 100000 in
theorem markR_nil (a : Option Addr) (c : Nat) (k : Int) (w : World) : Calls Try.prog 25 #[.slice a 0 c, .int .i64 k] w fun e w' => e = .returned (.int .i64 k) ∧ w' = w := by
  go_enter Try.func25, Try.ntmps25
  go_wp2
  go_loop [1, 5] (fun m i => m = .int .i64 k ∧ i = .int .i64 0) (fun _ _ => 0)
  case atStart => exact ⟨rfl, rfl⟩
  case round =>
    obtain ⟨rfl, rfl⟩ := hrel
    go_wp2
    go_ret
    exact ⟨rfl, rfl⟩
set_option maxRecDepth 100000 in
theorem heldR_nil (a : Option Addr) (c : Nat) (k : Int) (w : World) : Calls Try.prog 26 #[.slice a 0 c, .int .i64 k] w fun e w' => e = .returned (.int .i64 k) ∧ w' = w := by
  go_enter Try.func26, Try.ntmps26
  go_wp2
  go_loop [1, 5] (fun m i => m = .int .i64 k ∧ i = .int .i64 0) (fun _ _ => 0)
  case atStart => exact ⟨rfl, rfl⟩
  case round =>
    obtain ⟨rfl, rfl⟩ := hrel
    go_wp2
    go_ret
    exact ⟨rfl, rfl⟩
set_option maxRecDepth 100000 in
set_option maxHeartbeats 4000000 in
theorem markR_any (lo hi : Nat) (a : Option Addr) (c : Nat) (rs : Rs) (k : Int) (w : World) (h : OwnX w lo hi a rs (fun _ g n => MkV w g n 0 0)) (hs : SmallR rs) (k0 : 0 ≤ k) (k1 : k ≤ 1125899906842624) :
    Calls Try.prog 25 #[.slice a rs.length c, .int .i64 k] w fun r w' => r = .returned (.int .i64 (kAt k rs rs.length)) ∧ MkR w' lo hi a rs k ∧ Kept (Rng lo hi) w w' := by
  rcases h with h | ⟨g, cur, gs, ns, cs, ax, rfl, h1, h2, hh, hc, hd⟩
  · rw [h]
    refine (markR_nil a c k w).mono ?_
    rintro e w' ⟨rfl, rfl⟩
    exact ⟨rfl, .inl h, Kept.refl _ _⟩
  have HC : Hid (∀ i, i < rs.length → cur[i]? = some (.slice (ax i) (nthR rs i).length (cs i)) ∧ (0 < (nthR rs i).length → ax i = some ⟨gs i, 0, none⟩ ∧ gs i ≠ g ∧ lo ≤ gs i ∧ gs i < hi ∧ (nthR rs i).length ≤ ns i)) := fun i hi => ⟨(hc i hi).1, fun h0 => by obtain ⟨q1, q2, q3, q4, q5, _⟩ := (hc i hi).2 h0; exact ⟨q1, q2, q3, q4, q5⟩⟩
  have HM : Hid (MkJ w rs gs ns k 0) := fun i hi h0 => ⟨fun h => by omega, fun _ => by obtain ⟨q1, q2, q3, q4, q5, q6⟩ := (hc i hi).2 h0; exact q6⟩
  have HD : Hid (∀ i j, i < j → j < rs.length → 0 < (nthR rs i).length → 0 < (nthR rs j).length → gs i ≠ gs j) := hd
  have HS : Hid (SmallR rs) := hs
  have HH : Hid (w.heap[g]? = some (.cells cur 28 (0, 0))) := hh
  have HG : Hid (lo ≤ g ∧ g < hi) := ⟨h1, h2⟩
  have hlen := hs.1
  clear hc hd hs hh h1 h2
  obtain ⟨len, hL⟩ : ∃ m, rs.length = m := ⟨_, rfl⟩
  have HL : Hid (rs.length = len) := hL
  rw [hL] at hlen ⊢
  clear hL
  go_enter Try.func25, Try.ntmps25
  go_wp2
  go_loopw [1, 5] (fun m i wr => ∃ j : Nat, j ≤ len ∧ i = .int .i64 j ∧ m = .int .i64 (kAt k rs j) ∧ Hid (wr.heap[g]? = some (.cells cur 28 (0, 0)) ∧ MkJ wr rs gs ns k j ∧ Kept (Rng lo hi) w wr)) (fun _ i _ => len - (intOf i).toNat)
  case atStart => exact ⟨0, by omega, rfl, rfl, HH.out, HM.out, Kept.refl _ _⟩
  case round =>
    obtain ⟨j, hj, rfl, rfl, HW⟩ := hrel
    by_cases hlt : j < len
    · have hltI : (j : Int) < (len : Int) := by omega
      have hjl : j < rs.length := by rw [HL.out]; exact hlt
      obtain ⟨hc1, hc2⟩ := HC.out j hjl
      obtain ⟨kb1, kb2⟩ := kAt_bd (k := k) HS.out j (by omega)
      have hsj := HS.out.2 j hjl
      have cell : wr.cell? ⟨g, j, none⟩ = some (.slice (ax j) (nthR rs j).length (cs j)) := by rw [slab_cell HW.out.1]; exact hc1
      have hK : Hid (kAt k rs (j + 1) = kAt k rs j + 3 * ((nthR rs j).length : Int)) := rfl
      by_cases h0 : (nthR rs j).length = 0
      · have HW2 : Hid (wr.heap[g]? = some (.cells cur 28 (0, 0)) ∧ MkJ wr rs gs ns k (j + 1) ∧ Kept (Rng lo hi) w wr) := ⟨HW.out.1, HW.out.2.1.skip h0, HW.out.2.2⟩
        have hK2 : Hid (kAt k rs (j + 1) = kAt k rs j) := by show _ = _; rw [hK.out, h0]; simp
        rw [h0] at cell
        clear hc1 hc2 HW hK
        generalize kAt k rs j = kj at *
        go_wp2_with fail
        refine (markV_nil _ _ _ _).mono ?_
        rintro e w1 ⟨rfl, hq⟩
        obtain rfl := hq.symm
        go_wp2
        go_roundw
        case rel => exact ⟨j + 1, by omega, by go_num, by rw [hK2.out], HW2⟩
        case measure => simp [intOf]; omega
      · obtain ⟨q1, q2, q3, q4, q5⟩ := hc2 (by omega)
        have HN : Hid (0 < (nthR rs j).length) := by show _ < _; omega
        have HQ : Hid (gs j ≠ g ∧ lo ≤ gs j ∧ gs j < hi) := ⟨q2, q3, q4⟩
        have M := markV_any (gs j) (nthR rs j).length (cs j) (ns j) (kAt k rs j) 0 wr ((HW.out.2.1 j hjl HN.out).2 (Nat.le_refl _)) q5 (by omega) (by omega) (by omega)
        rw [q1] at cell
        clear hc1 hc2 q1 q2 q3 q4 q5 h0
        go_wp2_with fail
        refine M.mono ?_
        rintro e w1 ⟨rfl, hM, hK1⟩
        have HW2 : Hid (w1.heap[g]? = some (.cells cur 28 (0, 0)) ∧ MkJ w1 rs gs ns k (j + 1) ∧ Kept (Rng lo hi) w w1) := ⟨(hK1.block g (slab_lt HW.out.1) (fun e => HQ.out.1 e.symm)).trans HW.out.1, HW.out.2.1.step hjl HN.out HD.out hK1 hM, HW.out.2.2.trans (hK1.mono (fun x hx => by subst hx; exact HQ.out.2))⟩
        clear M hM hK1 HW cell
        rw [← hK.out]
        clear hK
        go_wp2
        go_roundw
        case rel => exact ⟨j + 1, by omega, by go_num, rfl, HW2⟩
        case measure => simp [intOf]; omega
    · obtain rfl : j = len := by omega
      have HE : Hid (MkR wr lo hi (some ⟨g, 0, none⟩) rs k ∧ Kept (Rng lo hi) w wr) := ⟨.inr ⟨g, cur, gs, ns, cs, ax, rfl, HG.out.1, HG.out.2, HW.out.1, fun i hi' => ⟨(HC.out i hi').1, fun h0 => by obtain ⟨q1, q2, q3, q4, q5⟩ := (HC.out i hi').2 h0; exact ⟨q1, q2, q3, q4, q5, (HW.out.2.1 i hi' h0).1 (by rw [← HL.out]; exact hi')⟩⟩, HD.out⟩, HW.out.2.2⟩
      clear HW
      go_wp2
      go_ret
      exact ⟨rfl, HE.out.1, HE.out.2⟩
set_option maxRecDepth 100000 in
set_option maxHeartbeats 4000000 in
theorem heldR_any (lo hi : Nat) (a : Option Addr) (c : Nat) (rs : Rs) (k : Int) (w : World) (h : MkR w lo hi a rs k) (hs : SmallR rs) (k0 : 0 ≤ k) (k1 : k ≤ 1125899906842624) :
    Calls Try.prog 26 #[.slice a rs.length c, .int .i64 k] w fun r w' => r = .returned (.int .i64 (kAt k rs rs.length)) ∧ Below w.heap.size w w' := by
  rcases h with h | ⟨g, cur, gs, ns, cs, ax, rfl, h1, h2, hh, hc, hd⟩
  · rw [h]
    refine (heldR_nil a c k w).mono ?_
    rintro e w' ⟨rfl, rfl⟩
    exact ⟨rfl, Below.refl _ _⟩
  have HC : Hid (∀ i, i < rs.length → cur[i]? = some (.slice (ax i) (nthR rs i).length (cs i)) ∧ (0 < (nthR rs i).length → ax i = some ⟨gs i, 0, none⟩ ∧ (nthR rs i).length ≤ ns i ∧ MkV w (gs i) (ns i) (kAt k rs i) (nthR rs i).length)) := fun i hi => ⟨(hc i hi).1, fun h0 => by obtain ⟨q1, q2, q3, q4, q5, q6⟩ := (hc i hi).2 h0; exact ⟨q1, q5, q6⟩⟩
  have HS : Hid (SmallR rs) := hs
  have HH : Hid (w.heap[g]? = some (.cells cur 28 (0, 0))) := hh
  have hlen := hs.1
  clear hc hd hs hh h1 h2
  obtain ⟨len, hL⟩ : ∃ m, rs.length = m := ⟨_, rfl⟩
  have HL : Hid (rs.length = len) := hL
  rw [hL] at hlen ⊢
  clear hL
  go_enter Try.func26, Try.ntmps26
  go_wp2
  go_loopw [1, 5] (fun m i wr => ∃ j : Nat, j ≤ len ∧ i = .int .i64 j ∧ m = .int .i64 (kAt k rs j) ∧ Hid (Below w.heap.size w wr)) (fun _ i _ => len - (intOf i).toNat)
  case atStart => exact ⟨0, by omega, rfl, rfl, Below.refl _ _⟩
  case round =>
    obtain ⟨j, hj, rfl, rfl, HW⟩ := hrel
    by_cases hlt : j < len
    · have hltI : (j : Int) < (len : Int) := by omega
      have hjl : j < rs.length := by rw [HL.out]; exact hlt
      obtain ⟨hc1, hc2⟩ := HC.out j hjl
      obtain ⟨kb1, kb2⟩ := kAt_bd (k := k) HS.out j (by omega)
      have hsj := HS.out.2 j hjl
      have cell : wr.cell? ⟨g, j, none⟩ = some (.slice (ax j) (nthR rs j).length (cs j)) := by rw [HW.out.cell (p := ⟨g, j, none⟩) (slab_lt HH.out), slab_cell HH.out]; exact hc1
      have hK : Hid (kAt k rs (j + 1) = kAt k rs j + 3 * ((nthR rs j).length : Int)) := rfl
      by_cases h0 : (nthR rs j).length = 0
      · have hK2 : Hid (kAt k rs (j + 1) = kAt k rs j) := by show _ = _; rw [hK.out, h0]; simp
        rw [h0] at cell
        clear hc1 hc2 hK
        generalize kAt k rs j = kj at *
        go_wp2_with fail
        refine (heldV_nil _ _ _ _).mono ?_
        rintro e w1 ⟨rfl, hq⟩
        obtain rfl := hq.symm
        have hng : ¬ kj < 0 := by omega
        go_wp2
        go_roundw
        case rel => exact ⟨j + 1, by omega, by go_num, by rw [hK2.out], HW⟩
        case measure => simp [intOf]; omega
      · obtain ⟨q1, q5, q6⟩ := hc2 (by omega)
        have M := heldV_any (gs j) (nthR rs j).length (cs j) (ns j) (kAt k rs j) wr (q6.below HW.out) q5 (by omega) (by omega) (by omega)
        rw [q1] at cell
        clear hc1 hc2 q1 q5 q6 h0
        go_wp2_with fail
        refine M.mono ?_
        rintro e w1 ⟨rfl, hb1⟩
        have HW2 : Hid (Below w.heap.size w w1) := below_step HW.out (Nat.le_refl _) hb1
        clear M hb1 HW cell
        have hng : ¬ kAt k rs (j + 1) < 0 := by rw [hK.out]; omega
        rw [← hK.out]
        clear hK
        go_wp2
        go_roundw
        case rel => exact ⟨j + 1, by omega, by go_num, rfl, HW2⟩
        case measure => simp [intOf]; omega
    · obtain rfl : j = len := by omega
      go_wp2
      go_ret
      exact ⟨rfl, HW.out⟩
end Go.Proofs.Ytmcjgncpblbhpaa
