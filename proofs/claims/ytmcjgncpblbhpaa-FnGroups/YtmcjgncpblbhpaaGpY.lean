/- Lists of groups of rows: compared, marked, held (stage 13). -/
import Derived.Test.YtmcjgncpblbhpaaGpX
import Derived.Test.YtmcjgncpblbhpaaSbB
namespace Go.Proofs.Ytmcjgncpblbhpaa
open Go.RowKit

/-- Groups of rows. -/
abbrev Gs : Type := List Rs
def nthG (gs : Gs) (i : Nat) : Rs := gs.getD i []
theorem nthG_get {gs : Gs} {i : Nat} (h : i < gs.length) : nthG gs i = gs[i] := by unfold nthG; simp [h]
theorem nthG_left {gs hs : Gs} {i : Nat} (h : i < gs.length) : nthG (gs ++ hs) i = nthG gs i := by unfold nthG; rw [List.getD_eq_getElem?_getD, List.getD_eq_getElem?_getD, List.getElem?_append_left h]
theorem nthG_last {gs : Gs} {rs : Rs} : nthG (gs ++ [rs]) gs.length = rs := by unfold nthG; rw [List.getD_eq_getElem?_getD, List.getElem?_append_right (Nat.le_refl _)]; simp
/-- A slice of groups can be read. -/
def RowG (w : World) (a : Option Addr) (gs : Gs) : Prop :=
  ∀ i, i < gs.length → ∃ b off ai ci, a = some ⟨b, off, none⟩ ∧ b < w.heap.size ∧ w.cell? ⟨b, off + i, none⟩ = some (.slice ai (nthG gs i).length ci) ∧ RowR w ai (nthG gs i)
theorem RowG.below {w w' : World} {a : Option Addr} {gs : Gs} (h : RowG w a gs) (hb : Below w.heap.size w w') : RowG w' a gs := fun i hi => by
  obtain ⟨b, off, ai, ci, e, hlt, hc, hr⟩ := h i hi
  exact ⟨b, off, ai, ci, e, Nat.lt_of_lt_of_le hlt hb.size, (hb.cell (p := ⟨b, off + i, none⟩) hlt).trans hc, hr.below hb⟩
/-- Few groups of few rows. -/
def FewG (gs : Gs) : Prop := gs.length ≤ 400 ∧ ∀ i, i < gs.length → (nthG gs i).length ≤ 400 ∧ SmallR (nthG gs i) ∧ TextR (nthG gs i)
/-- Two groups; what lay in w lies there still. -/
abbrev PairG (w : World) (b1 o1 : Nat) (x1 : Option Addr) (c1 : Nat) (b2 o2 : Nat) (x2 : Option Addr) (c2 : Nat) (rs : Rs) (w' : World) : Prop :=
  w'.cell? ⟨b1, o1, none⟩ = some (.slice x1 rs.length c1) ∧ w'.cell? ⟨b2, o2, none⟩ = some (.slice x2 rs.length c2) ∧ (RowR w' x1 rs ∧ RowR w' x2 rs) ∧ b1 < w'.heap.size ∧ b2 < w'.heap.size ∧ Below w.heap.size w w'
theorem PairG.keep {w : World} {b1 o1 : Nat} {x1 : Option Addr} {c1 b2 o2 : Nat} {x2 : Option Addr} {c2 : Nat} {rs : Rs} {w1 w2 : World} (h : PairG w b1 o1 x1 c1 b2 o2 x2 c2 rs w1) (hb : Below w1.heap.size w1 w2) : PairG w b1 o1 x1 c1 b2 o2 x2 c2 rs w2 :=
  ⟨(hb.cell (p := ⟨b1, o1, none⟩) h.2.2.2.1).trans h.1, (hb.cell (p := ⟨b2, o2, none⟩) h.2.2.2.2.1).trans h.2.1, ⟨h.2.2.1.1.below hb, h.2.2.1.2.below hb⟩, Nat.lt_of_lt_of_le h.2.2.2.1 hb.size, Nat.lt_of_lt_of_le h.2.2.2.2.1 hb.size, below_step h.2.2.2.2.2 (Nat.le_refl _) hb⟩
set_option maxHeartbeats 2000000 in
theorem eqG_same (a1 a2 : Option Addr) (c1 c2 : Nat) (gs : Gs) (w : World) (h1 : RowG w a1 gs) (h2 : RowG w a2 gs) (hf : FewG gs) :
    Calls Try.prog 31 #[.slice a1 gs.length c1, .slice a2 gs.length c2] w fun e w' => e = .returned (.bool true) ∧ Below w.heap.size w w' := by
  have H1 : Hid (RowG w a1 gs) := h1
  have H2 : Hid (RowG w a2 gs) := h2
  have HM : Hid (∀ i, i < gs.length → SmallR (nthG gs i)) := fun i hi => (hf.2 i hi).2.1
  have hlen := hf.1
  clear h1 h2 hf
  generalize hL : gs.length = len at *
  have HL : Hid (gs.length = len) := hL
  clear hL
  go_enter Try.func31, Try.ntmps31
  go_wp2
  go_loopw [5] (fun i wr => ∃ k : Nat, k ≤ len ∧ i = .int .i64 k ∧ Below w.heap.size w wr) (fun i _ => len - (intOf i).toNat)
  case atStart => exact ⟨0, by omega, rfl, Below.refl _ _⟩
  case round =>
    obtain ⟨k, hk, rfl, hbl⟩ := hrel
    by_cases hlt : k < len
    · obtain ⟨b1, o1, x1, d1, rfl, hlb1, hc1, hr1⟩ := (H1.out.below hbl) k (by rw [HL.out]; exact hlt)
      obtain ⟨b2, o2, x2, d2, rfl, hlb2, hc2, hr2⟩ := (H2.out.below hbl) k (by rw [HL.out]; exact hlt)
      have HS : Hid (∀ W, RowR W x1 (nthG gs k) → RowR W x2 (nthG gs k) → Calls Try.prog 24 #[.slice x1 (nthG gs k).length d1, .slice x2 (nthG gs k).length d2] W fun e w' => e = .returned (.bool true) ∧ Below W.heap.size W w') := fun W p1 p2 => eqR_same x1 x2 d1 d2 (nthG gs k) W p1 p2 (HM.out k hlt)
      generalize nthG gs k = vs at *
      have hP : PairG w b1 (o1 + k) x1 d1 b2 (o2 + k) x2 d2 vs wr.drew := ⟨hc1, hc2, ⟨hr1.below (Below.refl _ _).drew, hr2.below (Below.refl _ _).drew⟩, hlb1, hlb2, hbl.drew⟩
      clear hc1 hc2 hr1 hr2 hlb1 hlb2
      go_wp2_with fail
      go_region_held3 (PairG w b1 (o1 + k) x1 d1 b2 (o2 + k) x2 d2 vs) (first | exact hP | exact PairG.keep (by assumption) hb) (first | (go_at_call 24; refine (HS.out _ (show PairG w b1 (o1 + k) x1 d1 b2 (o2 + k) x2 d2 vs _ by assumption).2.2.1.1 (show PairG w b1 (o1 + k) x1 d1 b2 (o2 + k) x2 d2 vs _ by assumption).2.2.1.2).mono ?_; rintro e wA ⟨rfl, hb⟩))
      all_goals
        have hE : Below w.heap.size w wA := below_step hbl (Nat.le_refl _) ((Below.refl _ _).drew.trans hb)
        go_wp2
        go_roundw
        case rel => exact ⟨k + 1, by omega, by go_num, hE⟩
        case measure => simp [intOf]; omega
    · go_wp2
      go_ret
      exact ⟨rfl, hbl⟩
/-- Groups that lie in blocks of their own within lo and hi; of each group Q holds. -/
def OwnZ (w : World) (lo hi : Nat) (a : Option Addr) (gs : Gs) (Q : Nat → (Nat → Prop) → Option Addr → Prop) : Prop :=
  gs.length = 0 ∨ ∃ (g : Nat) (cur : Array Value) (cs : Nat → Nat) (ax : Nat → Option Addr) (S : Nat → Nat → Prop), a = some ⟨g, 0, none⟩ ∧ lo ≤ g ∧ g < hi ∧ w.heap[g]? = some (.cells cur 23 (0, 0)) ∧
    (∀ i, i < gs.length → cur[i]? = some (.slice (ax i) (nthG gs i).length (cs i)) ∧ Q i (S i) (ax i) ∧ ¬ S i g) ∧ ∀ i j x, i < j → j < gs.length → S i x → ¬ S j x
/-- Groups with their rows. -/
def OwnG (w : World) (lo hi : Nat) (a : Option Addr) (gs : Gs) : Prop := OwnZ w lo hi a gs (fun i S ai => OwnS w S (Rng lo hi) ai (nthG gs i))
theorem OwnZ.map {w w' : World} {lo hi : Nat} {a : Option Addr} {gs : Gs} {Q R : Nat → (Nat → Prop) → Option Addr → Prop} (h : OwnZ w lo hi a gs Q) (hb : ∀ g, lo ≤ g → g < hi → g < w.heap.size → w'.heap[g]? = w.heap[g]?) (hQ : ∀ i S ai, i < gs.length → Q i S ai → R i S ai) : OwnZ w' lo hi a gs R := by
  rcases h with h | ⟨g, cur, cs, ax, S, e, h1, h2, hh, hc, hd⟩
  · exact .inl h
  · exact .inr ⟨g, cur, cs, ax, S, e, h1, h2, (hb g h1 h2 (slab_lt hh)).trans hh, fun i hi' => ⟨(hc i hi').1, hQ i _ _ hi' (hc i hi').2.1, (hc i hi').2.2⟩, hd⟩
theorem OwnG.block {w w' : World} {lo hi : Nat} {a : Option Addr} {gs : Gs} (h : OwnG w lo hi a gs) (hb : ∀ g, lo ≤ g → g < hi → g < w.heap.size → w'.heap[g]? = w.heap[g]?) : OwnG w' lo hi a gs :=
  OwnZ.map h hb (fun _ _ _ _ hS => hS.block fun g _ ht hg => hb g ht.1 ht.2 hg)
theorem OwnG.below {w w' : World} {lo hi : Nat} {a : Option Addr} {gs : Gs} (h : OwnG w lo hi a gs) (hb : Below w.heap.size w w') : OwnG w' lo hi a gs := h.block fun g _ _ hg => hb.block g hg
theorem OwnG.row {w : World} {lo hi : Nat} {a : Option Addr} {gs : Gs} (h : OwnG w lo hi a gs) (hf : FewG gs) : RowG w a gs := fun i hi' => by
  rcases h with h | ⟨g, cur, cs, ax, S, e, h1, h2, hh, hc, hd⟩
  · omega
  · obtain ⟨e1, e2, _⟩ := hc i hi'
    exact ⟨g, 0, ax i, cs i, e, slab_lt hh, by rw [slab_cell hh, Nat.zero_add]; exact e1, e2.row (hf.2 i hi').2.2 (hf.2 i hi').2.1⟩
/-- The mark at which group i begins. -/
def kG (k : Int) (gs : Gs) : Nat → Int
  | 0 => k
  | i + 1 => kAt (kG k gs i) (nthG gs i) (nthG gs i).length
theorem kG_bd {k : Int} {gs : Gs} (hf : FewG gs) : ∀ i, i ≤ gs.length → k ≤ kG k gs i ∧ kG k gs i ≤ k + 1258291200 * i
  | 0, _ => ⟨Int.le_refl _, by simp [kG]⟩
  | i + 1, h => by
    obtain ⟨h1, h2⟩ := kG_bd (k := k) hf i (by omega)
    have hi := hf.2 i (by omega)
    obtain ⟨h3, h4⟩ := kAt_bd (k := kG k gs i) hi.2.1 (nthG gs i).length (Nat.le_refl _)
    have h5 := hi.1
    simp only [kG]
    push_cast
    omega
/-- Groups that are marked from k on. -/
def MkG (w : World) (lo hi : Nat) (a : Option Addr) (gs : Gs) (k : Int) : Prop := OwnZ w lo hi a gs (fun i S ai => MkS w S (Rng lo hi) ai (nthG gs i) (kG k gs i))
theorem MkS.block {w w' : World} {S T : Nat → Prop} {a : Option Addr} {rs : Rs} {k : Int} (h : MkS w S T a rs k) (hb : ∀ g, S g → T g → g < w.heap.size → w'.heap[g]? = w.heap[g]?) : MkS w' S T a rs k :=
  OwnY.map h hb (fun _ g _ _ h1 h2 hM => by
    have hl : g < w.heap.size := by obtain ⟨cur, hh, _⟩ := hM; exact slab_lt hh
    exact hM.at (hb g h1 h2 hl))
theorem shpS_block {w w' : World} {S T : Nat → Prop} {a : Option Addr} {rs : Rs} (h : OwnY w S T a rs (fun _ g n => MkV w g n 0 0)) (hb : ∀ g, S g → T g → g < w.heap.size → w'.heap[g]? = w.heap[g]?) : OwnY w' S T a rs (fun _ g n => MkV w' g n 0 0) :=
  OwnY.map h hb (fun _ g _ _ h1 h2 hM => by
    have hl : g < w.heap.size := by obtain ⟨cur, hh, _⟩ := hM; exact slab_lt hh
    exact hM.at (hb g h1 h2 hl))
theorem MkG.below {w w' : World} {lo hi : Nat} {a : Option Addr} {gs : Gs} {k : Int} (h : MkG w lo hi a gs k) (hb : Below w.heap.size w w') : MkG w' lo hi a gs k :=
  OwnZ.map h (fun g _ _ hg => hb.block g hg) (fun _ _ _ _ hM => hM.block fun g _ _ hg => hb.block g hg)
set_option maxRecDepth 100000 in
theorem markG_nil (a : Option Addr) (c : Nat) (k : Int) (w : World) : Calls Try.prog 34 #[.slice a 0 c, .int .i64 k] w fun e w' => e = .returned (.int .i64 k) ∧ w' = w := by
  go_enter Try.func34, Try.ntmps34
  go_wp2
  go_loop [1, 5] (fun m i => m = .int .i64 k ∧ i = .int .i64 0) (fun _ _ => 0)
  case atStart => exact ⟨rfl, rfl⟩
  case round =>
    obtain ⟨rfl, rfl⟩ := hrel
    go_wp2
    go_ret
    exact ⟨rfl, rfl⟩
set_option maxRecDepth 100000 in
theorem heldG_nil (a : Option Addr) (c : Nat) (k : Int) (w : World) : Calls Try.prog 35 #[.slice a 0 c, .int .i64 k] w fun e w' => e = .returned (.int .i64 k) ∧ w' = w := by
  go_enter Try.func35, Try.ntmps35
  go_wp2
  go_loop [1, 5] (fun m i => m = .int .i64 k ∧ i = .int .i64 0) (fun _ _ => 0)
  case atStart => exact ⟨rfl, rfl⟩
  case round =>
    obtain ⟨rfl, rfl⟩ := hrel
    go_wp2
    go_ret
    exact ⟨rfl, rfl⟩
/-- The first j groups are marked. -/
def MkH (w : World) (gs : Gs) (ax : Nat → Option Addr) (S : Nat → Nat → Prop) (T : Nat → Prop) (k : Int) (j : Nat) : Prop := ∀ i, i < gs.length → (i < j → MkS w (S i) T (ax i) (nthG gs i) (kG k gs i)) ∧ (j ≤ i → OwnY w (S i) T (ax i) (nthG gs i) (fun _ g n => MkV w g n 0 0))
theorem MkH.step {w w' : World} {gs : Gs} {ax : Nat → Option Addr} {S : Nat → Nat → Prop} {T : Nat → Prop} {k : Int} {j : Nat} (h : MkH w gs ax S T k j) (hj : j < gs.length) (hd : ∀ i j x, i < j → j < gs.length → S i x → ¬ S j x) (hK : Kept (RgS (S j) T) w w') (hM : MkS w' (S j) T (ax j) (nthG gs j) (kG k gs j)) : MkH w' gs ax S T k (j + 1) := fun i hi => by
  obtain ⟨h1, h2⟩ := h i hi
  rcases Nat.lt_trichotomy i j with hij | rfl | hij
  · exact ⟨fun _ => (h1 hij).block fun g hg _ hl => hK.block g hl (fun hr => hd i j g hij hj hg hr.1), fun h => by omega⟩
  · exact ⟨fun _ => hM, fun h => by omega⟩
  · exact ⟨fun h => by omega, fun _ => shpS_block (h2 (by omega)) fun g hg _ hl => hK.block g hl (fun hr => hd j i g hij hi hr.1 hg)⟩
set_option maxRecDepth 100000 in
set_option maxHeartbeats 4000000 in
theorem markG_any (lo hi : Nat) (a : Option Addr) (c : Nat) (gs : Gs) (k : Int) (w : World) (h : OwnG w lo hi a gs) (hf : FewG gs) (k0 : 0 ≤ k) (k1 : k ≤ 1048576) :
    Calls Try.prog 34 #[.slice a gs.length c, .int .i64 k] w fun r w' => r = .returned (.int .i64 (kG k gs gs.length)) ∧ MkG w' lo hi a gs k ∧ Kept (Rng lo hi) w w' := by
  rcases h with h | ⟨g, cur, cs, ax, S, rfl, h1, h2, hh, hc, hd⟩
  · rw [h]
    refine (markG_nil a c k w).mono ?_
    rintro e w' ⟨rfl, rfl⟩
    exact ⟨rfl, .inl h, Kept.refl _ _⟩
  have HC : Hid (∀ i, i < gs.length → cur[i]? = some (.slice (ax i) (nthG gs i).length (cs i)) ∧ ¬ S i g) := fun i hi => ⟨(hc i hi).1, (hc i hi).2.2⟩
  have HM : Hid (MkH w gs ax S (Rng lo hi) k 0) := fun i hi => ⟨fun h => by omega, fun _ => OwnS.shp (hc i hi).2.1⟩
  have HD : Hid (∀ i j x, i < j → j < gs.length → S i x → ¬ S j x) := hd
  have HS : Hid (FewG gs) := hf
  have HH : Hid (w.heap[g]? = some (.cells cur 23 (0, 0))) := hh
  have HG : Hid (lo ≤ g ∧ g < hi) := ⟨h1, h2⟩
  have hlen := hf.1
  clear hc hd hf hh h1 h2
  obtain ⟨len, hL⟩ : ∃ m, gs.length = m := ⟨_, rfl⟩
  have HL : Hid (gs.length = len) := hL
  rw [hL] at hlen ⊢
  clear hL
  go_enter Try.func34, Try.ntmps34
  go_wp2
  go_loopw [1, 5] (fun m i wr => ∃ j : Nat, j ≤ len ∧ i = .int .i64 j ∧ m = .int .i64 (kG k gs j) ∧ Hid (wr.heap[g]? = some (.cells cur 23 (0, 0)) ∧ MkH wr gs ax S (Rng lo hi) k j ∧ Kept (Rng lo hi) w wr)) (fun _ i _ => len - (intOf i).toNat)
  case atStart => exact ⟨0, by omega, rfl, rfl, HH.out, HM.out, Kept.refl _ _⟩
  case round =>
    obtain ⟨j, hj, rfl, rfl, HW⟩ := hrel
    by_cases hlt : j < len
    · have hltI : (j : Int) < (len : Int) := by omega
      have hjl : j < gs.length := by rw [HL.out]; exact hlt
      obtain ⟨hc1, hc2⟩ := HC.out j hjl
      obtain ⟨kb1, kb2⟩ := kG_bd (k := k) HS.out j (by omega)
      have cell : wr.cell? ⟨g, j, none⟩ = some (.slice (ax j) (nthG gs j).length (cs j)) := by rw [slab_cell HW.out.1]; exact hc1
      have hK : Hid (kG k gs (j + 1) = kAt (kG k gs j) (nthG gs j) (nthG gs j).length) := rfl
      have HQ : Hid (¬ S j g) := hc2
      have M := markS_any (S j) (Rng lo hi) (ax j) (cs j) (nthG gs j) (kG k gs j) wr ((HW.out.2.1 j hjl).2 (Nat.le_refl _)) (HS.out.2 j hjl).2.1 (by omega) (by omega)
      clear hc1 hc2
      go_wp2_with fail
      refine M.mono ?_
      rintro e w1 ⟨rfl, hM, hK1⟩
      have HW2 : Hid (w1.heap[g]? = some (.cells cur 23 (0, 0)) ∧ MkH w1 gs ax S (Rng lo hi) k (j + 1) ∧ Kept (Rng lo hi) w w1) := ⟨(hK1.block g (slab_lt HW.out.1) (fun e => HQ.out e.1)).trans HW.out.1, HW.out.2.1.step hjl HD.out hK1 hM, HW.out.2.2.trans (hK1.mono (fun x hx => hx.2))⟩
      clear M hM hK1 HW cell
      rw [← hK.out]
      clear hK
      go_wp2
      go_roundw
      case rel => exact ⟨j + 1, by omega, by go_num, rfl, HW2⟩
      case measure => simp [intOf]; omega
    · obtain rfl : j = len := by omega
      have HE : Hid (MkG wr lo hi (some ⟨g, 0, none⟩) gs k ∧ Kept (Rng lo hi) w wr) := ⟨.inr ⟨g, cur, cs, ax, S, rfl, HG.out.1, HG.out.2, HW.out.1, fun i hi' => ⟨(HC.out i hi').1, (HW.out.2.1 i hi').1 (by rw [← HL.out]; exact hi'), (HC.out i hi').2⟩, HD.out⟩, HW.out.2.2⟩
      clear HW
      go_wp2
      go_ret
      exact ⟨rfl, HE.out.1, HE.out.2⟩
set_option maxRecDepth 100000 in
set_option maxHeartbeats 4000000 in
theorem heldG_any (lo hi : Nat) (a : Option Addr) (c : Nat) (gs : Gs) (k : Int) (w : World) (h : MkG w lo hi a gs k) (hf : FewG gs) (k0 : 0 ≤ k) (k1 : k ≤ 1048576) :
    Calls Try.prog 35 #[.slice a gs.length c, .int .i64 k] w fun r w' => r = .returned (.int .i64 (kG k gs gs.length)) ∧ Below w.heap.size w w' := by
  rcases h with h | ⟨g, cur, cs, ax, S, rfl, h1, h2, hh, hc, hd⟩
  · rw [h]
    refine (heldG_nil a c k w).mono ?_
    rintro e w' ⟨rfl, rfl⟩
    exact ⟨rfl, Below.refl _ _⟩
  have HC : Hid (∀ i, i < gs.length → cur[i]? = some (.slice (ax i) (nthG gs i).length (cs i)) ∧ MkS w (S i) (Rng lo hi) (ax i) (nthG gs i) (kG k gs i)) := fun i hi => ⟨(hc i hi).1, (hc i hi).2.1⟩
  have HS : Hid (FewG gs) := hf
  have HH : Hid (w.heap[g]? = some (.cells cur 23 (0, 0))) := hh
  have hlen := hf.1
  clear hc hd hf hh h1 h2
  obtain ⟨len, hL⟩ : ∃ m, gs.length = m := ⟨_, rfl⟩
  have HL : Hid (gs.length = len) := hL
  rw [hL] at hlen ⊢
  clear hL
  go_enter Try.func35, Try.ntmps35
  go_wp2
  go_loopw [1, 5] (fun m i wr => ∃ j : Nat, j ≤ len ∧ i = .int .i64 j ∧ m = .int .i64 (kG k gs j) ∧ Hid (Below w.heap.size w wr)) (fun _ i _ => len - (intOf i).toNat)
  case atStart => exact ⟨0, by omega, rfl, rfl, Below.refl _ _⟩
  case round =>
    obtain ⟨j, hj, rfl, rfl, HW⟩ := hrel
    by_cases hlt : j < len
    · have hltI : (j : Int) < (len : Int) := by omega
      have hjl : j < gs.length := by rw [HL.out]; exact hlt
      obtain ⟨hc1, hc2⟩ := HC.out j hjl
      obtain ⟨kb1, kb2⟩ := kG_bd (k := k) HS.out j (by omega)
      obtain ⟨kd1, kd2⟩ := kG_bd (k := k) HS.out (j + 1) (by omega)
      have cell : wr.cell? ⟨g, j, none⟩ = some (.slice (ax j) (nthG gs j).length (cs j)) := by rw [HW.out.cell (p := ⟨g, j, none⟩) (slab_lt HH.out), slab_cell HH.out]; exact hc1
      have hK : Hid (kG k gs (j + 1) = kAt (kG k gs j) (nthG gs j) (nthG gs j).length) := rfl
      have M := heldS_any (S j) (Rng lo hi) (ax j) (cs j) (nthG gs j) (kG k gs j) wr (hc2.block fun g _ _ hg => HW.out.block g hg) (HS.out.2 j hjl).2.1 (by omega) (by omega)
      clear hc1 hc2
      go_wp2_with fail
      refine M.mono ?_
      rintro e w1 ⟨rfl, hb1⟩
      have HW2 : Hid (Below w.heap.size w w1) := below_step HW.out (Nat.le_refl _) hb1
      clear M hb1 HW cell
      have hng : ¬ kG k gs (j + 1) < 0 := by omega
      rw [← hK.out]
      clear hK
      go_wp2
      go_roundw
      case rel => exact ⟨j + 1, by omega, by go_num, rfl, HW2⟩
      case measure => simp [intOf]; omega
    · obtain rfl : j = len := by omega
      go_wp2
      go_ret
      exact ⟨rfl, HW.out⟩
end Go.Proofs.Ytmcjgncpblbhpaa
