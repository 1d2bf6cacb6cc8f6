/- Lists of replies; impl's SpaceRun (stage 4). -/
import Derived.Test.YtaklphoplfofbaaLwB
import Derived.Test.YtaklphoplfofbaaRgA
import Derived.Test.YtaklphoplfofbaaStK
import Derived.Test.YtaklphoplfofbaaNewA
namespace Go.Proofs.Ytaklphoplfofbaa
open Go.RowKit

/-- A reply as it lies: its code, its list. -/
abbrev Rp : Type := Int × Value
/-- A reply as it is meant. -/
abbrev Rl : Type := Int × List Int
def nthR (us : List Rp) (i : Nat) : Rp := us.getD i (0, .slice none 0 0)
def nthL (rs : List Rl) (i : Nat) : Rl := rs.getD i (0, [])
def cellsR (us : List Rp) : List Value := us.flatMap fun p => [.int .i64 p.1, p.2]
abbrev OwnR (w : World) (B : Nat) (v : Value) (us : List Rp) : Prop := w.ownsRow B 37 2 v us.length (cellsR us)
theorem cellsR_len (us : List Rp) : (cellsR us).length = us.length * 2 := by
  induction us with
  | nil => rfl
  | cons p us ih =>
    have e : cellsR (p :: us) = .int .i64 p.1 :: p.2 :: cellsR us := rfl
    rw [e, List.length_cons, List.length_cons, ih, List.length_cons]
    omega
theorem cellsR_get : ∀ (us : List Rp) (i : Nat), i < us.length → (cellsR us)[i * 2]? = some (.int .i64 (nthR us i).1) ∧ (cellsR us)[i * 2 + 1]? = some (nthR us i).2
  | [], i, h => by simp at h
  | p :: us, 0, _ => ⟨rfl, rfl⟩
  | p :: us, i + 1, h => by
    have ih := cellsR_get us i (by simpa using h)
    have e : cellsR (p :: us) = .int .i64 p.1 :: p.2 :: cellsR us := rfl
    have en : nthR (p :: us) (i + 1) = nthR us i := by simp [nthR]
    have e0 : (i + 1) * 2 = i * 2 + 2 := by omega
    rw [e, en, e0]
    exact ih
/-- The replies us can be read at a. -/
def RowR (w : World) (a : Option Addr) (us : List Rp) : Prop :=
  ∀ i, i < us.length → ∃ b off, a = some ⟨b, off, none⟩ ∧ b < w.heap.size ∧ w.cell? ⟨b, off + i * 2, none⟩ = some (.int .i64 (nthR us i).1) ∧ w.cell? ⟨b, off + i * 2 + 1, none⟩ = some (nthR us i).2
theorem RowR.below {w w' : World} {a : Option Addr} {us : List Rp} (h : RowR w a us) (hb : Below w.heap.size w w') : RowR w' a us := fun i hi => by
  obtain ⟨b, off, e, hlt, h0, h1⟩ := h i hi
  exact ⟨b, off, e, Nat.lt_of_lt_of_le hlt hb.size, (hb.cell (p := ⟨b, off + i * 2, none⟩) hlt).trans h0, (hb.cell (p := ⟨b, off + i * 2 + 1, none⟩) hlt).trans h1⟩
theorem OwnR.row {w : World} {B : Nat} {v : Value} {us : List Rp} (h : OwnR w B v us) : ∃ a cap, v = .slice a us.length cap ∧ RowR w a us := by
  rcases h.2 with ⟨rfl, hn⟩ | ⟨g, cap, cur, rfl, hB, hh, hc, hm, hs, ht⟩
  · exact ⟨none, 0, by rw [hn], fun i hi => by omega⟩
  · refine ⟨_, cap, rfl, fun i hi => ⟨g, 0, rfl, slab_lt hh, ?_⟩⟩
    obtain ⟨g0, g1⟩ := cellsR_get us i hi
    have key : ∀ j u, j < us.length * 2 → (cellsR us)[j]? = some u → w.cell? ⟨g, 0 + j, none⟩ = some u := fun j u hj hu => by
      rw [slab_cell hh, Nat.zero_add]
      have := congrArg (fun q => q[j]?) ht
      rw [List.getElem?_take_of_lt hj, hu] at this
      rw [← Array.getElem?_toList, this]
    refine ⟨key _ _ (by omega) g0, ?_⟩
    rw [Nat.add_assoc]
    exact key _ _ (by omega) g1
/-- What lies is what is meant. -/
def Reps (w : World) (B : Nat) (us : List Rp) (rs : List Rl) : Prop := us.length = rs.length ∧ ∀ i, i < rs.length → (nthR us i).1 = (nthL rs i).1 ∧ OwnI w B (nthR us i).2 (nthL rs i).2
theorem Reps.keep {w w' : World} {B : Nat} {us : List Rp} {rs : List Rl} (h : Reps w B us rs) (hk : ∀ g, B ≤ g → g < w.heap.size → w'.heap[g]? = w.heap[g]?) : Reps w' B us rs := ⟨h.1, fun i hi => ⟨(h.2 i hi).1, own_keep (h.2 i hi).2 hk⟩⟩
/-- Two replies in two rows, their lists the same. -/
abbrev PairR (w : World) (c : Int) (l : List Int) (B B' b1 o1 : Nat) (u1 : Value) (b2 o2 : Nat) (u2 : Value) (w' : World) : Prop :=
  (w'.cell? ⟨b1, o1, none⟩ = some (.int .i64 c) ∧ w'.cell? ⟨b1, o1 + 1, none⟩ = some u1) ∧ (w'.cell? ⟨b2, o2, none⟩ = some (.int .i64 c) ∧ w'.cell? ⟨b2, o2 + 1, none⟩ = some u2) ∧ b1 < w'.heap.size ∧ b2 < w'.heap.size ∧ OwnI w' B u1 l ∧ OwnI w' B' u2 l ∧ Below w.heap.size w w'
theorem PairR.keep {w : World} {c : Int} {l : List Int} {B B' b1 o1 : Nat} {u1 : Value} {b2 o2 : Nat} {u2 : Value} {w1 w2 : World} (h : PairR w c l B B' b1 o1 u1 b2 o2 u2 w1) (hb : Below w1.heap.size w1 w2) : PairR w c l B B' b1 o1 u1 b2 o2 u2 w2 :=
  ⟨⟨(hb.cell (p := ⟨b1, o1, none⟩) h.2.2.1).trans h.1.1, (hb.cell (p := ⟨b1, o1 + 1, none⟩) h.2.2.1).trans h.1.2⟩, ⟨(hb.cell (p := ⟨b2, o2, none⟩) h.2.2.2.1).trans h.2.1.1, (hb.cell (p := ⟨b2, o2 + 1, none⟩) h.2.2.2.1).trans h.2.1.2⟩, Nat.lt_of_lt_of_le h.2.2.1 hb.size, Nat.lt_of_lt_of_le h.2.2.2.1 hb.size, own_keep h.2.2.2.2.1 fun j _ hl => hb.block j hl, own_keep h.2.2.2.2.2.1 fun j _ hl => hb.block j hl, below_step h.2.2.2.2.2.2 (Nat.le_refl _) hb⟩

set_option maxRecDepth 100000 in
set_option maxHeartbeats 2000000 in
theorem eqR_own (v v' : Value) (us us' : List Rp) (rs : List Rl) (B B' : Nat) (w : World) (h : OwnR w B v us) (h' : OwnR w B' v' us') (r : Reps w B us rs) (r' : Reps w B' us' rs) (hl : rs.length ≤ 4096) (hp : ∀ i, i < rs.length → (nthL rs i).2.length ≤ 64) :
    Calls Try.prog 37 #[v, v'] w fun e w' => e = .returned (.bool true) ∧ Below w.heap.size w w' := by
  obtain ⟨a1, c1, rfl, R1⟩ := OwnR.row h
  obtain ⟨a2, c2, rfl, R2⟩ := OwnR.row h'
  have H1 : Hid (RowR w a1 us) := R1
  have H2 : Hid (RowR w a2 us') := R2
  have HR : Hid (Reps w B us rs) := r
  have HR' : Hid (Reps w B' us' rs) := r'
  have HP : Hid (∀ i, i < rs.length → (nthL rs i).2.length ≤ 64) := hp
  clear h h' R1 R2 hp
  rw [r.1, r'.1]
  clear r r'
  generalize hL : rs.length = len at *
  have HL : Hid (rs.length = len) := hL
  clear hL
  go_enter Try.func37, Try.ntmps37
  go_wp2
  go_loopw [5] (fun i wr => ∃ k : Nat, k ≤ len ∧ i = .int .i64 k ∧ Below w.heap.size w wr) (fun i _ => len - (intOf i).toNat)
  case atStart => exact ⟨0, by omega, rfl, Below.refl _ _⟩
  case round =>
    obtain ⟨k, hk, rfl, hbl⟩ := hrel
    by_cases hlt : k < len
    · have hkL : k < rs.length := by rw [HL.out]; exact hlt
      obtain ⟨b1, o1, rfl, hlb1, hc1⟩ := (H1.out.below hbl) k (by rw [HR.out.1]; exact hkL)
      obtain ⟨b2, o2, rfl, hlb2, hc2⟩ := (H2.out.below hbl) k (by rw [HR'.out.1]; exact hkL)
      have q1 := HR.out.2 k hkL
      have q2 := HR'.out.2 k hkL
      have q3 : Hid ((nthL rs k).2.length ≤ 64) := HP.out k (by rw [← HL.out]; exact hkL)
      rw [q1.1] at hc1
      rw [q2.1] at hc2
      have hP : PairR w (nthL rs k).1 (nthL rs k).2 B B' b1 (o1 + k * 2) (nthR us k).2 b2 (o2 + k * 2) (nthR us' k).2 wr.drew := ⟨hc1, hc2, hlb1, hlb2, own_keep q1.2 fun j _ hl => hbl.block j hl, own_keep q2.2 fun j _ hl => hbl.block j hl, hbl.drew⟩
      have hltI : (k : Int) < (len : Int) := by omega
      clear hc1 hc2 q1 q2 hkL
      generalize nthR us k = x1 at *
      generalize nthR us' k = x2 at *
      generalize nthL rs k = y at *
      obtain ⟨cc, l⟩ := y
      obtain ⟨_, y1⟩ := x1
      obtain ⟨_, y2⟩ := x2
      replace hP : PairR w cc l B B' b1 (o1 + k * 2) y1 b2 (o2 + k * 2) y2 wr.drew := hP
      go_wp2_with fail
      go_region_held3 (PairR w cc l B B' b1 (o1 + k * 2) y1 b2 (o2 + k * 2) y2) (first | exact hP | exact PairR.keep (by assumption) hb) (first | (go_at_call 32; refine (eqReply_own cc (show PairR w cc l B B' b1 (o1 + k * 2) y1 b2 (o2 + k * 2) y2 _ by assumption).2.2.2.2.1 (show PairR w cc l B B' b1 (o1 + k * 2) y1 b2 (o2 + k * 2) y2 _ by assumption).2.2.2.2.2.1 q3.out).mono ?_; rintro e wA ⟨rfl, hb⟩))
      rename_i hPL
      have hB := hPL.2.2.2.2.2.2
      clear hP hPL
      go_wp2
      go_roundw
      case rel => exact ⟨k + 1, by omega, by go_num, hB⟩
      case measure => simp [intOf]; omega
    · go_wp2
      go_ret
      exact ⟨rfl, hbl⟩

/-- The mark at reply i, if the first has k. -/
def mkN (k : Int) (ls : Nat → Nat) : Nat → Int
  | 0 => k
  | i + 1 => mkN k ls i + 1 + ls i
theorem mkN_le (k : Int) (ls : Nat → Nat) (n : Nat) (hl : ∀ i, i < n → ls i ≤ 64) : ∀ i, i ≤ n → k ≤ mkN k ls i ∧ mkN k ls i ≤ k + 65 * i
  | 0, _ => ⟨Int.le_refl _, by unfold mkN; omega⟩
  | i + 1, h => by
    have ih := mkN_le k ls n hl i (by omega)
    have := hl i (by omega)
    unfold mkN
    omega
/-- Replies that bear marks from k on. -/
def MRep (w : World) (B : Nat) (v : Value) (us : List Rp) (k : Int) (ls : Nat → Nat) : Prop :=
  OwnR w B v us ∧ ∀ i, i < us.length → (nthR us i).1 = mkN k ls i ∧ OwnI w B (nthR us i).2 (marksL (mkN k ls i + 1) (ls i))
theorem MRep.keep {w w' : World} {B : Nat} {v : Value} {us : List Rp} {k : Int} {ls : Nat → Nat} (h : MRep w B v us k ls) (hk : ∀ g, B ≤ g → g < w.heap.size → w'.heap[g]? = w.heap[g]?) : MRep w' B v us k ls := ⟨own_keep h.1 hk, fun i hi => ⟨(h.2 i hi).1, own_keep (h.2 i hi).2 hk⟩⟩

set_option maxRecDepth 100000 in
set_option maxHeartbeats 2000000 in
theorem heldR_own (v : Value) (us : List Rp) (k : Int) (ls : Nat → Nat) (B : Nat) (w : World) (h : MRep w B v us k ls) (k0 : 0 ≤ k) (k1 : k ≤ 10000000) (hn : us.length ≤ 4096) (hl : ∀ i, i < us.length → ls i ≤ 64) :
    Calls Try.prog 41 #[v, .int .i64 k] w fun r w' => r = .returned (.int .i64 (mkN k ls us.length)) ∧ w' = w := by
  obtain ⟨a, c, rfl, R⟩ := OwnR.row h.1
  have H : Hid (RowR w a us) := R
  have HM : Hid (∀ i, i < us.length → (nthR us i).1 = mkN k ls i ∧ OwnI w B (nthR us i).2 (marksL (mkN k ls i + 1) (ls i))) := h.2
  have HB : Hid (∀ i, i ≤ us.length → k ≤ mkN k ls i ∧ mkN k ls i ≤ k + 65 * i) := mkN_le k ls us.length hl
  have HLS : Hid (∀ i, i < us.length → ls i ≤ 64) := hl
  clear h R hl
  generalize hL : us.length = len at *
  have HL : Hid (us.length = len) := hL
  clear hL
  go_enter Try.func41, Try.ntmps41
  go_wp2
  go_loop [1, 5] (fun m i => ∃ j : Nat, j ≤ len ∧ i = .int .i64 j ∧ m = .int .i64 (mkN k ls j)) (fun _ i => len - (intOf i).toNat)
  case atStart => exact ⟨0, by omega, rfl, rfl⟩
  case round =>
    obtain ⟨j, hj, rfl, rfl⟩ := hrel
    by_cases hlt : j < len
    · obtain ⟨b, off, rfl, hlb, hc0, hc1⟩ := H.out j (by rw [HL.out]; exact hlt)
      have q := HM.out j hlt
      have q2 : Hid (OwnI w B (nthR us j).2 (marksL (mkN k ls j + 1) (ls j))) := q.2
      have bj := HB.out j hj
      have lj := HLS.out j hlt
      have hS : Hid (mkN k ls (j + 1) = mkN k ls j + 1 + ls j) := rfl
      rw [q.1] at hc0
      clear q
      generalize mkN k ls j = x at *
      generalize nthR us j = y at *
      generalize ls j = z at *
      obtain ⟨_, y⟩ := y
      go_wp2_with fail
      refine (heldI_ownK q2.out (by omega) (by omega) (by omega)).mono ?_
      rintro r w' ⟨rfl, hq⟩
      obtain rfl := hq.symm
      have hx : ¬ x + 1 + (z : Int) < 0 := by omega
      go_wp2
      go_round
      case rel => exact ⟨j + 1, by omega, by go_num, by rw [hS.out]⟩
      case measure => simp [intOf]; omega
    · obtain rfl : j = len := by omega
      go_wp2
      go_ret
      exact ⟨rfl, rfl⟩
end Go.Proofs.Ytaklphoplfofbaa
namespace Go.Proofs.Ytaklphoplfofbaa
open Go.RowKit

theorem own_neq {w : World} {B e m n : Nat} {v : Value} {xs : List Value} (h : w.ownsRow B e m v n xs) {Y : Nat} {cs : Array Value} {ty : TypeId} (hY : w.heap[Y]? = some (.cells cs ty (0, 0))) (hne : e ≠ ty) {j : Nat} (hj : v.ownBlock = some j) : j ≠ Y := by
  rcases h.2 with ⟨rfl, _⟩ | ⟨g, cap, cur, rfl, _, hh, _⟩
  · cases hj
  · cases hj
    rintro rfl
    rw [hY] at hh
    injection hh with hh
    injection hh with _ h2
    exact hne h2.symm
theorem take_cellsR {cur : Array Value} {us : List Rp} (h : ∀ i, i < us.length → cur[i * 2]? = some (.int .i64 (nthR us i).1) ∧ cur[i * 2 + 1]? = some (nthR us i).2) : cur.toList.take (us.length * 2) = cellsR us := by
  apply List.ext_getElem?
  intro j
  by_cases hj : j < us.length * 2
  · rw [List.getElem?_take_of_lt hj, Array.getElem?_toList]
    obtain ⟨g0, g1⟩ := cellsR_get us (j / 2) (by omega)
    obtain ⟨h0, h1⟩ := h (j / 2) (by omega)
    rcases (show j = j / 2 * 2 ∨ j = j / 2 * 2 + 1 by omega) with e | e
    · rw [e, h0, ← g0]
    · rw [e, h1, ← g1]
  · rw [List.getElem?_eq_none (by rw [List.length_take]; omega), List.getElem?_eq_none (by rw [cellsR_len]; omega)]
theorem nthR_map (n : Nat) (f : Nat → Rp) (i : Nat) (h : i < n) : nthR ((List.range n).map f) i = f i := by
  simp [nthR, List.getD_eq_getElem?_getD, List.getElem?_map, List.getElem?_range h]
theorem nthL_map (n : Nat) (f : Nat → Rl) (i : Nat) (h : i < n) : nthL ((List.range n).map f) i = f i := by
  simp [nthL, List.getD_eq_getElem?_getD, List.getElem?_map, List.getElem?_range h]

/-- Marks on the first j replies. -/
def InvM (w : World) (g N n B : Nat) (k : Int) (ls : Nat → Nat) (us : List Rp) (rs : List Rl) (S : Nat → Prop) (j : Nat) (wr : World) : Prop :=
  (∃ cur : Array Value, wr.heap[g]? = some (.cells cur 37 (0, 0)) ∧ cur.size = N ∧ ∀ i, i < n → cur[i * 2]? = some (.int .i64 (if i < j then mkN k ls i else (nthL rs i).1)) ∧ cur[i * 2 + 1]? = some (nthR us i).2) ∧
  (∀ i, i < n → OwnI wr B (nthR us i).2 (if i < j then marksL (mkN k ls i + 1) (ls i) else (nthL rs i).2)) ∧ Kept S w wr
theorem InvM.step {w : World} {g N n B : Nat} {k : Int} {ls : Nat → Nat} {us : List Rp} {rs : List Rl} {S : Nat → Prop} {j : Nat} {wr w2 : World} (h : InvM w g N n B k ls us rs S j wr) (hj : j < n) (hN : n * 2 ≤ N) (hS : S g) (hSu : ∀ q, (nthR us j).2.ownBlock = some q → S q)
    (sep : ∀ i i', i < i' → i' < n → SepN 0 (nthR us i).2 (nthR us i').2)
    (om : OwnI w2 B (nthR us j).2 (marksL (mkN k ls j + 1) (ls j))) (k2 : Kept (fun q => (nthR us j).2.ownBlock = some q) (wr.setCell ⟨g, j * 2, none⟩ (.int .i64 (mkN k ls j))) w2) : InvM w g N n B k ls us rs S (j + 1) w2 := by
  obtain ⟨⟨cur, hh, hs, hc⟩, ho, hK⟩ := h
  have h1 := slab_set (o := j * 2) hh (.int .i64 (mkN k ls j))
  have up : ∀ i, i < n → OwnI (wr.setCell ⟨g, j * 2, none⟩ (.int .i64 (mkN k ls j))) B (nthR us i).2 (if i < j then marksL (mkN k ls i + 1) (ls i) else (nthL rs i).2) := fun i hi => own_at (ho i hi) fun q hq => set_other _ fun e => own_neq (ho i hi) hh (by decide) hq e.symm
  have gne : ∀ i, i < n → ¬ (nthR us i).2.ownBlock = some g := fun i hi hq => own_neq (ho i hi) hh (by decide) hq rfl
  refine ⟨⟨_, (k2.block g (slab_lt h1) (gne j hj)).trans h1, by simpa using hs, fun i hi => ?_⟩, fun i hi => ?_, (hK.set _ hS).trans (k2.mono fun q hq => hSu q hq)⟩
  · have := hc i hi
    refine ⟨?_, ?_⟩
    · by_cases e : i = j
      · subst e
        rw [Array.getElem?_setIfInBounds_self_of_lt (by omega), if_pos (by omega)]
      · rw [Array.getElem?_setIfInBounds_ne (by omega), this.1]
        by_cases hlt : i < j
        · rw [if_pos hlt, if_pos (by omega)]
        · rw [if_neg hlt, if_neg (by omega)]
    · rw [Array.getElem?_setIfInBounds_ne (by omega)]; exact this.2
  · by_cases e : i = j
    · subst e
      rw [if_pos (by omega)]
      exact om
    · have hu := up i hi
      have : (if i < j + 1 then marksL (mkN k ls i + 1) (ls i) else (nthL rs i).2) = (if i < j then marksL (mkN k ls i + 1) (ls i) else (nthL rs i).2) := by
        by_cases hlt : i < j
        · rw [if_pos hlt, if_pos (by omega)]
        · rw [if_neg hlt, if_neg (by omega)]
      rw [this]
      refine own_at hu fun q hq => k2.block q (own_lt hu hq).2 fun hq' => ?_
      rcases Nat.lt_or_ge i j with hlt | hge
      · exact sep i j hlt hj q (Nat.zero_le _) hq hq'
      · exact sep j i (by omega) hi q (Nat.zero_le _) hq' hq

set_option maxRecDepth 100000 in
theorem markR_nil (a : Option Addr) (c : Nat) (k : Int) (w : World) : Calls Try.prog 40 #[.slice a 0 c, .int .i64 k] w fun e w' => e = .returned (.int .i64 k) ∧ w' = w := by
  go_enter Try.func40, Try.ntmps40
  go_wp2
  refine wp_loop_rounds 1 ?_
  rw [rounds_succ]
  go_wp2
  go_ret
  exact ⟨rfl, rfl⟩

set_option maxRecDepth 100000 in
set_option maxHeartbeats 4000000 in
theorem markR_slab (g N n c B : Nat) (k : Int) (ls : Nat → Nat) (us : List Rp) (rs : List Rl) (S : Nat → Prop) (w : World) (h : InvM w g N n B k ls us rs S 0 w) (hN : n * 2 ≤ N) (hS : S g) (hSu : ∀ i, i < n → ∀ q, (nthR us i).2.ownBlock = some q → S q) (sep : ∀ i i', i < i' → i' < n → SepN 0 (nthR us i).2 (nthR us i').2) (hl : ∀ i, i < n → ls i = (nthL rs i).2.length) (h64 : ∀ i, i < n → ls i ≤ 64) (k0 : 0 ≤ k) (k1 : k ≤ 10000000) (hn : n ≤ 4096) :
    Calls Try.prog 40 #[.slice (some ⟨g, 0, none⟩) n c, .int .i64 k] w fun r w' => r = .returned (.int .i64 (mkN k ls n)) ∧ InvM w g N n B k ls us rs S n w' := by
  have H0 : Hid (InvM w g N n B k ls us rs S 0 w) := h
  have SP : Hid (∀ i i', i < i' → i' < n → SepN 0 (nthR us i).2 (nthR us i').2) := sep
  have HSU : Hid (∀ i, i < n → ∀ q, (nthR us i).2.ownBlock = some q → S q) := hSu
  have HLS : Hid (∀ i, i < n → ls i = (nthL rs i).2.length) := hl
  have H64 : Hid (∀ i, i < n → ls i ≤ 64) := h64
  have HB : Hid (∀ i, i ≤ n → k ≤ mkN k ls i ∧ mkN k ls i ≤ k + 65 * i) := mkN_le k ls n h64
  have HSg : Hid (S g) := hS
  clear h sep hSu hl h64 hS
  go_enter Try.func40, Try.ntmps40
  go_wp2
  go_loopw [1, 5] (fun m i wr => ∃ j : Nat, j ≤ n ∧ i = .int .i64 j ∧ m = .int .i64 (mkN k ls j) ∧ InvM w g N n B k ls us rs S j wr) (fun _ i _ => n - (intOf i).toNat)
  case atStart => exact ⟨0, by omega, rfl, rfl, H0.out⟩
  case round =>
    obtain ⟨j, hj, rfl, rfl, inv⟩ := hrel
    have HI : Hid (InvM w g N n B k ls us rs S j wr) := inv
    clear inv
    by_cases hlt : j < n
    · have hcell : wr.cell? ⟨g, j * 2, none⟩ = some (.int .i64 (nthL rs j).1) ∧ wr.cell? ⟨g, j * 2 + 1, none⟩ = some (nthR us j).2 ∧ (∀ o, wr.frozen? ⟨g, o, none⟩ = false) := by
        obtain ⟨⟨cur, hh, hs, hc⟩, _, _⟩ := HI.out
        have := hc j hlt
        rw [if_neg (by omega)] at this
        exact ⟨by rw [slab_cell hh]; exact this.1, by rw [slab_cell hh]; exact this.2, fun o => slab_free hh⟩
      obtain ⟨hc0, hc1, hf⟩ := hcell
      have bj := HB.out j hj
      have lj := H64.out j hlt
      have hO : OwnI (wr.setCell ⟨g, j * 2, none⟩ (.int .i64 (mkN k ls j))) B (nthR us j).2 (nthL rs j).2 := by
        obtain ⟨⟨cur, hh, hs, hc⟩, ho, _⟩ := HI.out
        have := ho j hlt
        rw [if_neg (by omega)] at this
        exact own_at this fun q hq => set_other _ fun e => own_neq this hh (by decide) hq e.symm
      have HO : Hid (OwnI (wr.setCell ⟨g, j * 2, none⟩ (.int .i64 (mkN k ls j))) B (nthR us j).2 (nthL rs j).2) := hO
      have hlj := HLS.out j hlt
      have HLJ : Hid (ls j = (nthL rs j).2.length) := hlj
      have HN : Hid (∀ w2, OwnI w2 B (nthR us j).2 (marksL (mkN k ls j + 1) (ls j)) → Kept (fun q => (nthR us j).2.ownBlock = some q) (wr.setCell ⟨g, j * 2, none⟩ (.int .i64 (mkN k ls j))) w2 → InvM w g N n B k ls us rs S (j + 1) w2) := fun w2 om k2 => HI.out.step hlt hN HSg.out (HSU.out j hlt) SP.out om k2
      have hS1 : Hid (mkN k ls (j + 1) = mkN k ls j + 1 + ls j) := rfl
      clear hO hlj
      generalize mkN k ls j = x at *
      generalize ls j = z at *
      generalize (nthR us j).2 = y at *
      generalize nthL rs j = l at *
      go_wp2_with fail
      refine (markI_ownK HO.out (by rw [← HLJ.out]; omega) (x + 1) (by omega) (by omega)).mono ?_
      rintro r w2 ⟨rfl, om, k2⟩
      rw [← HLJ.out] at om ⊢
      have HN2 := HN.out w2 om k2
      have HN3 : Hid (InvM w g N n B k ls us rs S (j + 1) w2) := HN2
      clear om k2 HN2 hc0 hc1 hf
      go_wp2
      go_roundw
      case rel => exact ⟨j + 1, by omega, by go_num, by rw [hS1.out], HN3.out⟩
      case measure => simp [intOf]; omega
    · obtain rfl : j = n := by omega
      go_wp2
      go_ret
      exact ⟨rfl, HI.out⟩

theorem markR_own (v : Value) (us : List Rp) (rs : List Rl) (k : Int) (B : Nat) (w : World) (h : OwnR w B v us) (r : Reps w B us rs) (sep : ∀ i i', i < i' → i' < us.length → SepN 0 (nthR us i).2 (nthR us i').2) (h64 : ∀ i, i < rs.length → (nthL rs i).2.length ≤ 64) (k0 : 0 ≤ k) (k1 : k ≤ 10000000) (hn : rs.length ≤ 4096) :
    Calls Try.prog 40 #[v, .int .i64 k] w fun x w' => x = .returned (.int .i64 (mkN k (fun i => (nthL rs i).2.length) us.length)) ∧ (∃ us', us'.length = us.length ∧ MRep w' B v us' k (fun i => (nthL rs i).2.length)) ∧ Kept (fun q => v.ownBlock = some q ∨ ∃ i, i < us.length ∧ (nthR us i).2.ownBlock = some q) w w' := by
  rcases h.2 with ⟨rfl, hz⟩ | ⟨g, cap, cur, rfl, hB, hh, hc, hm, hs, ht⟩
  · refine (markR_nil none 0 k w).mono ?_
    rintro x w' ⟨rfl, rfl⟩
    exact ⟨by rw [hz]; rfl, ⟨us, rfl, h, fun i hi => by omega⟩, Kept.refl _ _⟩
  · have cell : ∀ i, i < us.length → cur[i * 2]? = some (.int .i64 (nthR us i).1) ∧ cur[i * 2 + 1]? = some (nthR us i).2 := fun i hi => by
      obtain ⟨g0, g1⟩ := cellsR_get us i hi
      have key : ∀ j u, j < us.length * 2 → (cellsR us)[j]? = some u → cur[j]? = some u := fun j u hj hu => by
        have := congrArg (fun q => q[j]?) ht
        rw [List.getElem?_take_of_lt hj, hu] at this
        rw [← Array.getElem?_toList, this]
      exact ⟨key _ _ (by omega) g0, key _ _ (by omega) g1⟩
    have inv : InvM w g (cap * 2) us.length B k (fun i => (nthL rs i).2.length) us rs (fun q => g = q ∨ ∃ i, i < us.length ∧ (nthR us i).2.ownBlock = some q) 0 w := by
      refine ⟨⟨cur, hh, hs, fun i hi => ?_⟩, fun i hi => ?_, Kept.refl _ _⟩
      · rw [if_neg (by omega), ← (r.2 i (by rw [← r.1]; exact hi)).1]
        exact cell i hi
      · rw [if_neg (by omega)]
        exact (r.2 i (by rw [← r.1]; exact hi)).2
    refine (markR_slab g (cap * 2) us.length cap B k (fun i => (nthL rs i).2.length) us rs _ w inv (by omega) (.inl rfl) (fun i hi q hq => .inr ⟨i, hi, hq⟩) sep (fun _ _ => rfl) (fun i hi => h64 i (by rw [← r.1]; exact hi)) k0 k1 (by rw [r.1]; exact hn)).mono ?_
    rintro x w' ⟨rfl, ⟨cur', hh', hs', hc'⟩, ho', hK⟩
    refine ⟨rfl, ⟨(List.range us.length).map fun i => (mkN k (fun i => (nthL rs i).2.length) i, (nthR us i).2), by simp, ⟨?_, ?_⟩⟩, hK.mono fun q hq => hq.imp (fun e => by rw [← e]; rfl) id⟩
    · refine ⟨by rw [cellsR_len], .inr ⟨g, cap, cur', by simp, hB, hh', by simpa using hc, hm, hs', ?_⟩⟩
      exact take_cellsR fun i hi => by
        have hi' : i < us.length := by simpa using hi
        have := hc' i hi'
        rw [if_pos hi'] at this
        rw [nthR_map _ _ _ hi']
        exact this
    · intro i hi
      have hi' : i < us.length := by simpa using hi
      rw [nthR_map _ _ _ hi']
      have := ho' i hi'
      rw [if_pos hi'] at this
      exact ⟨rfl, this⟩
end Go.Proofs.Ytaklphoplfofbaa
namespace Go.Proofs.Ytaklphoplfofbaa

theorem okSp_of {t e : Int} {ss : List Int} {ps : List P2} {qs : List Int} (ht : 1 ≤ t ∧ t ≤ 64) (he : 0 ≤ e ∧ e ≤ 1000000) (s1 : ss.Pairwise (· < ·)) (s2 : ∀ s ∈ ss, 0 ≤ s ∧ s < t) (p1 : Ris ps) (p2 : ∀ p ∈ ps, (0 ≤ p.1 ∧ p.1 < t) ∧ 0 ≤ p.2 ∧ p.2 < e) (d : ∀ s ∈ ss, ∀ p ∈ ps, s ≠ p.1) (q1 : qs.length ≤ 4) (q2 : ∀ q ∈ qs, 0 ≤ q ∧ q ≤ e) : OkSp t e ss ps qs := by
  refine ⟨ht, he, ⟨fun i hi => ?_, fun i hi => ?_⟩, ⟨fun i hi => ?_, fun i hi => ?_⟩, fun i hi j hj => ?_, q1, fun i hi => ?_⟩
  · rw [nthI_get hi]; exact s2 _ (List.getElem_mem hi)
  · rw [nthI_get (by omega), nthI_get hi]; exact (List.pairwise_iff_getElem.1 s1) i (i + 1) (by omega) hi (by omega)
  · rw [nthP_get hi]; exact p2 _ (List.getElem_mem hi)
  · rw [nthP_get (by omega), nthP_get hi]; exact (List.pairwise_iff_getElem.1 p1) i (i + 1) (by omega) hi (by omega)
  · rw [nthI_get hi, nthP_get hj]; exact d _ (List.getElem_mem hi) _ (List.getElem_mem hj)
  · rw [nthI_get hi]; exact q2 _ (List.getElem_mem hi)
theorem freeK_mem (u : Int → Bool) : ∀ (k : Nat) (x : Int), x ∈ freeK u k → (0 ≤ x ∧ x < k) ∧ u x = false
  | 0, x, h => by cases h
  | k + 1, x, h => by
    unfold freeK at h
    split at h
    · have := freeK_mem u k x h
      exact ⟨by omega, this.2⟩
    · rename_i hu
      rcases List.mem_append.mp h with h | h
      · have := freeK_mem u k x h
        exact ⟨by omega, this.2⟩
      · have e : x = (k : Int) := by simpa using h
        subst e
        exact ⟨by omega, by simpa using hu⟩
theorem freeK_pw (u : Int → Bool) : ∀ k : Nat, (freeK u k).Pairwise (· < ·)
  | 0 => List.Pairwise.nil
  | k + 1 => by
    unfold freeK
    split
    · exact freeK_pw u k
    · refine List.pairwise_append.mpr ⟨freeK_pw u k, List.pairwise_singleton _ _, fun a ha b hb => ?_⟩
      have e : b = (k : Int) := by simpa using hb
      have := (freeK_mem u k a ha).1
      omega
theorem ok_qs {t e : Int} {ss : List Int} {ps : List P2} {qs : List Int} (h : OkSp t e ss ps qs) : ∀ q ∈ qs, 0 ≤ q ∧ q ≤ e := fun q hq => by
  obtain ⟨i, hi, rfl⟩ := List.getElem_of_mem hq
  have := h.2.2.2.2.2.2 i hi
  rw [nthI_get hi] at this
  exact this
/-- Behind an act. -/
theorem stp_ok (t : Nat) (e : Int) (ss : List Int) (ps : List P2) (qs : List Int) (k n : Int) (ok : OkSp t e ss ps qs) : OkSp t (stp t e ss ps qs k n).e (stp t e ss ps qs k n).ss (stp t e ss ps qs k n).ps (stp t e ss ps qs k n).qs := by
  have e0 := ok.2.1
  have q0 := ok.2.2.2.2.2.1
  unfold stp
  split
  · split
    · split
      · exact ok
      · rename_i hn hf
        refine okSp_of ok.1 ⟨by show 0 ≤ e + 1; omega, by show e + 1 ≤ _; omega⟩ ?_ ?_ ?_ ?_ ?_ q0 ?_
        · exact List.Pairwise.sublist (List.take_sublist _ _) (freeK_pw _ _)
        · exact fun s hs => (freeK_mem _ _ s (List.mem_of_mem_take hs)).1
        · exact List.Pairwise.sublist (List.filter_sublist) (mer_ris e ss ps (riseI_pw ok.2.2.1) (riseP_pw ok.2.2.2.1) (ok_ne ok))
        · intro p hp
          have hp' : p ∈ mer e ss ps := (List.mem_filter.mp hp).1
          have hm := (mer_perm e ss ps).mem_iff.mp hp'
          unfold kvOf at hm
          rcases List.mem_append.mp hm with hm | hm
          · obtain ⟨a, ha, rfl⟩ := List.mem_map.mp hm
            exact ⟨ok_ss ok a ha, by show 0 ≤ e ∧ e < e + 1; omega⟩
          · have := ok_ps ok p hm
            exact ⟨this.1, this.2.1, by show p.2 < e + 1; omega⟩
        · intro s hs p hp hsp
          have hu := (freeK_mem _ _ s (List.mem_of_mem_take hs)).2
          have hp' : p ∈ mer e ss ps := (List.mem_filter.mp hp).1
          have hm := (mer_perm e ss ps).mem_iff.mp hp'
          have hk := kv_any e ss ps s
          rw [hu] at hk
          have : (kvOf e ss ps).any (fun x => x.1 == s) = true := List.any_eq_true.mpr ⟨p, hm, by simp [hsp]⟩
          rw [this] at hk
          cases hk
        · intro q hq
          have := ok_qs ok q hq
          exact ⟨this.1, by show q ≤ e + 1; omega⟩
    · exact ok
  · split
    · split
      · exact ok
      · refine okSp_of ok.1 ok.2.1 (riseI_pw ok.2.2.1) (ok_ss ok) (riseP_pw ok.2.2.2.1) (ok_ps ok) (ok_ne ok) ?_ ?_
        · show (qs ++ [e]).length ≤ 4
          rw [List.length_append]
          simp only [List.length_cons, List.length_nil]
          omega
        · intro q hq
          rcases List.mem_append.mp hq with hq | hq
          · exact ok_qs ok q hq
          · have e' : q = e := by simpa using hq
            subst e'
            exact ⟨e0.1, Int.le_refl _⟩
    · split
      · split
        · refine okSp_of ok.1 ok.2.1 (riseI_pw ok.2.2.1) (ok_ss ok) ?_ ?_ ?_ ?_ ?_
          · exact List.Pairwise.sublist (List.filter_sublist) (riseP_pw ok.2.2.2.1)
          · exact fun p hp => ok_ps ok p (List.mem_filter.mp hp).1
          · exact fun s hs p hp => ok_ne ok s hs p ((List.mem_filter.mp hp).1)
          · show (qs.eraseIdx n.toNat).length ≤ 4
            have := List.length_eraseIdx_le qs n.toNat
            omega
          · exact fun q hq => ok_qs ok q (List.mem_of_mem_eraseIdx hq)
        · exact ok
      · exact ok
end Go.Proofs.Ytaklphoplfofbaa
namespace Go.Proofs.Ytaklphoplfofbaa
open Go.RowKit Go.Maps Go.WideShapes Go.ChangeMaps Go.MapKept

/-- What stands behind the first k acts. -/
def stN (t : Nat) (acts : List P2) : Nat → SR
  | 0 => ⟨0, [], [], [], 0, []⟩
  | k + 1 => stp t (stN t acts k).e (stN t acts k).ss (stN t acts k).ps (stN t acts k).qs (nthP acts k).1 (nthP acts k).2
theorem stN_ok (t : Nat) (acts : List P2) (h : 1 ≤ t ∧ t ≤ 64) : ∀ k, OkSp t (stN t acts k).e (stN t acts k).ss (stN t acts k).ps (stN t acts k).qs
  | 0 => okSp_of ⟨by omega, by omega⟩ ⟨by show (0 : Int) ≤ 0; omega, by show (0 : Int) ≤ 1000000; omega⟩ List.Pairwise.nil (fun s hs => by cases hs) List.Pairwise.nil (fun p hp => by cases hp) (fun s hs => by cases hs) (Nat.zero_le _) (fun q hq => by cases hq)
  | k + 1 => stp_ok t _ _ _ _ _ _ (stN_ok t acts h k)
/-- The reply of act k. -/
def rpN (t : Nat) (acts : List P2) (k : Nat) : Rl := ((stN t acts (k + 1)).c, (stN t acts (k + 1)).pg)
theorem mapOf_at {w w' : World} {m n : Nat} {D : DU} (h : MapOf w m n D) (e : w'.heap[m]? = w.heap[m]?) : MapOf w' m n D := by
  obtain ⟨es, cl, hh, r⟩ := h
  exact ⟨es, cl, e.trans hh, r⟩
theorem blk_not_map {w : World} {m n b : Nat} {D : DU} {cs : Array Value} {ty : TypeId} (h : MapOf w m n D) (hc : w.heap[b]? = some (.cells cs ty (0, 0))) : b ≠ m := by
  rintro rfl
  obtain ⟨es, cl, hh, _⟩ := h
  rw [hc] at hh
  cases hh
theorem own_not_map {w : World} {B e q n : Nat} {v : Value} {xs : List Value} {m c : Nat} {D : DU} (h : w.ownsRow B e q v n xs) (hm : MapOf w m c D) {j : Nat} (hj : v.ownBlock = some j) : j ≠ m := by
  rcases h.2 with ⟨rfl, _⟩ | ⟨g, cap, cur, rfl, _, hh, _⟩
  · cases hj
  · cases hj
    exact blk_not_map hm hh

/-- k rounds of the run are done: the space in block Y, the replies in block g, the set in block m. -/
def InvR (w : World) (T : Nat) (acts : List P2) (L Y g m : Nat) (k : Nat) (wr : World) : Prop :=
  ∃ (v1 v2 v3 : Value) (f : Nat → Value) (cur : Array Value) (c : Nat) (D : DU),
  wr.heap[Y]? = some (.cells #[.int .i64 T, .int .i64 (stN T acts k).e, v1, v2, v3] 29 (0, 0)) ∧ wr.heap[w.heap.size]? = some (.cells #[.int .i64 0, .int .i64 0, .slice none 0 0, .slice none 0 0, .slice none 0 0] 29 (0, 0)) ∧
  (wr.heap[g]? = some (.cells cur 37 (0, 0)) ∧ cur.size = L * 2 ∧ ∀ i, i < k → cur[i * 2]? = some (.int .i64 (rpN T acts i).1) ∧ cur[i * 2 + 1]? = some (f i)) ∧
  (OwnI wr w.heap.size v1 (stN T acts k).ss ∧ OwnP wr w.heap.size v2 (stN T acts k).ps ∧ OwnI wr w.heap.size v3 (stN T acts k).qs ∧ SepN 0 v1 v3) ∧
  (∀ i, i < k → OwnI wr w.heap.size (f i) (rpN T acts i).2 ∧ SepN 0 v1 (f i) ∧ SepN 0 v3 (f i)) ∧ (∀ i i', i < i' → i' < k → SepN 0 (f i) (f i')) ∧
  MapOf wr m c D ∧ (w.heap.size < Y ∧ w.heap.size < g ∧ w.heap.size < m) ∧ Below w.heap.size w wr

/-- The world behind a round. -/
abbrev rndW (w2 : World) (Y g k : Nat) (a b c d e x y : Value) : World := (((((((w2.setCell ⟨Y, 0, none⟩ a).setCell ⟨Y, 1, none⟩ b).setCell ⟨Y, 2, none⟩ c).setCell ⟨Y, 3, none⟩ d).setCell ⟨Y, 4, none⟩ e).setCell ⟨g, k * 2, none⟩ x).setCell ⟨g, k * 2 + 1, none⟩ y)
theorem InvR.step {w : World} {T : Nat} {acts : List P2} {L Y g m k : Nat} {wr wa w2 : World} {v1 v2 v3 : Value} {f : Nat → Value} {cur : Array Value} {c c' : Nat} {D D' : DU} {u1 u2 u3 u4 : Value}
    (x1 : wr.heap[Y]? = some (.cells #[.int .i64 T, .int .i64 (stN T acts k).e, v1, v2, v3] 29 (0, 0))) (x2 : wr.heap[w.heap.size]? = some (.cells #[.int .i64 0, .int .i64 0, .slice none 0 0, .slice none 0 0, .slice none 0 0] 29 (0, 0)))
    (x3 : wr.heap[g]? = some (.cells cur 37 (0, 0)) ∧ cur.size = L * 2 ∧ ∀ i, i < k → cur[i * 2]? = some (.int .i64 (rpN T acts i).1) ∧ cur[i * 2 + 1]? = some (f i))
    (x4 : OwnI wr w.heap.size v1 (stN T acts k).ss ∧ OwnP wr w.heap.size v2 (stN T acts k).ps ∧ OwnI wr w.heap.size v3 (stN T acts k).qs ∧ SepN 0 v1 v3)
    (x5 : ∀ i, i < k → OwnI wr w.heap.size (f i) (rpN T acts i).2 ∧ SepN 0 v1 (f i) ∧ SepN 0 v3 (f i)) (x6 : ∀ i i', i < i' → i' < k → SepN 0 (f i) (f i'))
    (x7 : MapOf wr m c D) (x8 : w.heap.size < Y ∧ w.heap.size < g ∧ w.heap.size < m) (x9 : Below w.heap.size w wr)
    (hk : k < L) (ba : Below wr.heap.size wr wa) (hs : SV4 wa.heap.size v1 v2 v3 (stN T acts k).ss (stN T acts k).ps (stN T acts k).qs (stN T acts (k + 1)).ss (stN T acts (k + 1)).ps (stN T acts (k + 1)).qs (stN T acts (k + 1)).pg u1 u2 u3 u4 w2) (hK : Kept (fun j => j = m) wa w2) (hm : MapOf w2 m c' D') :
    InvR w T acts L Y g m (k + 1) (rndW w2 Y g k (.int .i64 T) (.int .i64 (stN T acts (k + 1)).e) u1 u2 u3 (.int .i64 (stN T acts (k + 1)).c) u4) := by
  have hle := ba.size
  have hle2 := x9.size
  -- all that lay in wr but the set lies in w2
  have kb : ∀ j : Nat, (∃ cs ty, wr.heap[j]? = some (Obj.cells cs ty (0, 0))) → w2.heap[j]? = wr.heap[j]? := fun j ⟨cs, ty, hj⟩ =>
    (hK.block j (Nat.lt_of_lt_of_le (slab_lt hj) hle) (fun e => blk_not_map x7 hj e)).trans (ba.block j (slab_lt hj))
  have ko : ∀ {e q n : Nat} {v : Value} {xs : List Value}, wr.ownsRow w.heap.size e q v n xs → w2.ownsRow w.heap.size e q v n xs := fun h => own_typ h fun j ⟨cs, hj⟩ => kb j ⟨cs, _, hj⟩
  have mne : ∀ {b : Nat} {cs : Array Value} {ty : TypeId}, wr.heap[b]? = some (.cells cs ty (0, 0)) → b ≠ m := fun h => blk_not_map x7 h
  obtain ⟨o1, o2, o3, sp⟩ := x4
  have hv : V4 wa w.heap.size v1 v2 v3 (stN T acts k).ss (stN T acts k).ps (stN T acts k).qs := ⟨own_keep o1 fun j _ hl => ba.block j hl, own_keep o2 fun j _ hl => ba.block j hl, own_keep o3 fun j _ hl => ba.block j hl, sp⟩
  obtain ⟨es, cl, hma, _⟩ := x7
  have hma' : wa.heap[m]? = some (.map es cl) := (ba.block m (slab_lt hma)).trans hma
  have U := sq_own hv hs hK hma' (by omega)
  obtain ⟨p1, p2, p3, p4, s13, s14, s34⟩ := U
  obtain ⟨y1, y2, y3, y4, _⟩ := hs
  -- old lists lie below, new ones from wa on
  have old : ∀ i, i < k → ∀ j, (f i).ownBlock = some j → j < wr.heap.size := fun i hi j hj => (own_lt (x5 i hi).1 hj).2
  have g1 : w2.heap[Y]? = some (.cells #[.int .i64 T, .int .i64 (stN T acts k).e, v1, v2, v3] 29 (0, 0)) := (kb Y ⟨_, _, x1⟩).trans x1
  have g2 : w2.heap[w.heap.size]? = some (.cells #[.int .i64 0, .int .i64 0, .slice none 0 0, .slice none 0 0, .slice none 0 0] 29 (0, 0)) := (kb _ ⟨_, _, x2⟩).trans x2
  have g3 : w2.heap[g]? = some (.cells cur 37 (0, 0)) := (kb g ⟨_, _, x3.1⟩).trans x3.1
  have hYg : g ≠ Y := fun e => by
    rw [e, x1] at x3
    have := x3.1
    injection this with this
    injection this with _ h2
    exact absurd h2 (by decide)
  have oth : ∀ j, j ≠ Y → j ≠ g → (rndW w2 Y g k (.int .i64 T) (.int .i64 (stN T acts (k + 1)).e) u1 u2 u3 (.int .i64 (stN T acts (k + 1)).c) u4).heap[j]? = w2.heap[j]? := fun j h1 h2 => by
    unfold rndW
    rw [Below.heap_setCell _ _ _ _ h2, Below.heap_setCell _ _ _ _ h2]
    exact five_other _ _ _ _ _ _ _ h1
  have fin : ∀ {e q n : Nat} {v : Value} {xs : List Value}, e ≠ 29 → e ≠ 37 → w2.ownsRow w.heap.size e q v n xs → (rndW w2 Y g k (.int .i64 T) (.int .i64 (stN T acts (k + 1)).e) u1 u2 u3 (.int .i64 (stN T acts (k + 1)).c) u4).ownsRow w.heap.size e q v n xs := fun h29 h37 h => own_at h fun j hj => oth j (own_neq h g1 h29 hj) (own_neq h g3 h37 hj)
  refine ⟨u1, u2, u3, fun i => if i = k then u4 else f i, (cur.setIfInBounds (k * 2) (.int .i64 (stN T acts (k + 1)).c)).setIfInBounds (k * 2 + 1) u4, c', D', ?_, ?_, ⟨?_, by simpa using x3.2.1, fun i hi => ?_⟩, ⟨fin (by decide) (by decide) p1, fin (by decide) (by decide) p2, fin (by decide) (by decide) p3, s13⟩, fun i hi => ?_, fun i i' hii hi' => ?_, ?_, x8, ?_⟩
  · unfold rndW
    rw [Below.heap_setCell _ _ _ _ (fun e => hYg e.symm), Below.heap_setCell _ _ _ _ (fun e => hYg e.symm)]
    exact five_at g1
  · exact (oth _ (by omega) (by omega)).trans g2
  · exact slab_set (slab_set ((five_other _ _ _ _ _ _ _ hYg).trans g3) _) _
  · have hsz := x3.2.1
    dsimp only
    by_cases e : i = k
    · subst e
      rw [if_pos rfl]
      refine ⟨?_, ?_⟩
      · rw [Array.getElem?_setIfInBounds_ne (by omega), Array.getElem?_setIfInBounds_self_of_lt (by omega)]
        rfl
      · rw [Array.getElem?_setIfInBounds_self_of_lt (by simp; omega)]
    · rw [if_neg e]
      have := x3.2.2 i (by omega)
      refine ⟨?_, ?_⟩
      · rw [Array.getElem?_setIfInBounds_ne (by omega), Array.getElem?_setIfInBounds_ne (by omega)]; exact this.1
      · rw [Array.getElem?_setIfInBounds_ne (by omega), Array.getElem?_setIfInBounds_ne (by omega)]; exact this.2
  · dsimp only
    by_cases e : i = k
    · subst e
      rw [if_pos rfl]
      exact ⟨fin (by decide) (by decide) p4, s14, s34⟩
    · rw [if_neg e]
      have hi' : i < k := by omega
      have q := x5 i hi'
      refine ⟨fin (by decide) (by decide) (ko q.1), ?_, ?_⟩
      · rcases y1 with ⟨e1, _⟩ | n1
        · rw [e1]; exact q.2.1
        · exact fun j _ a b => by
            have := (own_lt n1 a).1
            have := old i hi' j b
            omega
      · rcases y3 with ⟨e1, _⟩ | n1
        · rw [e1]; exact q.2.2
        · exact fun j _ a b => by
            have := (own_lt n1 a).1
            have := old i hi' j b
            omega
  · have hik : i < k := by omega
    dsimp only
    rw [if_neg (by omega)]
    by_cases e : i' = k
    · subst e
      rw [if_pos rfl]
      exact fun j _ a b => by
        have := old i hik j a
        have := (own_lt y4 b).1
        omega
    · rw [if_neg e]
      exact x6 i i' hii (by omega)
  · exact mapOf_at hm (oth m (fun e => mne x1 e.symm) (fun e => mne x3.1 e.symm))
  · have b2 : Below w.heap.size w w2 := (x9.trans (ba.mono hle2)).trans (hK.below (by omega) fun j hj => by have e : j = m := hj; omega)
    exact ((five_below b2 (by omega) _ _ _ _ _).setCell (p := ⟨g, k * 2, none⟩) (by show w.heap.size ≤ g; omega) _).setCell (p := ⟨g, k * 2 + 1, none⟩) (by show w.heap.size ≤ g; omega) _
end Go.Proofs.Ytaklphoplfofbaa
namespace Go.Proofs.Ytaklphoplfofbaa
open Go.RowKit Go.Maps Go.WideShapes Go.ChangeMaps Go.MapKept

theorem info37 : (Try.prog.info? 37).map (fun i => (i.zero, i.size, i.bytes)) = some (some (.agg #[.int .i64 0, .slice none 0 0]), 2, 32) := by kernel_rfl
/-- What SpaceRun answers; b: its lists of numbers lie apart. -/
def RetR (b : Bool) (w : World) (T : Int) (R : SR) (rs : List Rl) (d : Int) (r : Ending) (w' : World) : Prop :=
  ∃ u1 u2 u3 v us, r = .returned (.tuple #[SV T R.e u1 u2 u3, v, .int .i64 d]) ∧ OwnI w' w.heap.size u1 R.ss ∧ OwnP w' w.heap.size u2 R.ps ∧ OwnI w' w.heap.size u3 R.qs ∧ OwnR w' w.heap.size v us ∧ Reps w' w.heap.size us rs ∧ (b = true → SepN 0 u1 u3 ∧ (∀ i, i < us.length → SepN 0 u1 (nthR us i).2 ∧ SepN 0 u3 (nthR us i).2) ∧ ∀ i i', i < i' → i' < us.length → SepN 0 (nthR us i).2 (nthR us i').2) ∧ Below w.heap.size w w'
/-- A run that is not begun. -/
def zRun (d : Int) (b : Bool) (w : World) : Ending → World → Prop := RetR b w 0 zR [] d
theorem zRun_of {d : Int} {b : Bool} {w w' : World} {v : Value} (hv : OwnR w' w.heap.size v []) (hb : Below w.heap.size w w') : zRun d b w (.returned (.tuple #[SV 0 0 (.slice none 0 0) (.slice none 0 0) (.slice none 0 0), v, .int .i64 d])) w' :=
  ⟨_, _, _, _, [], rfl, OwnI.nil _ _, ⟨rfl, .inl ⟨rfl, rfl⟩⟩, OwnI.nil _ _, hv, ⟨rfl, fun i hi => by cases hi⟩, fun _ => ⟨SepN.none _ _ _ _, fun i hi => (by cases hi), fun i i' h hi => (by cases hi)⟩, hb⟩
theorem OwnR.nil (w : World) (B : Nat) : OwnR w B (.slice none 0 0) [] := ⟨rfl, .inl ⟨rfl, rfl⟩⟩
/-- The replies of a run. -/
def rsN (t : Nat) (acts : List P2) (n : Nat) : List Rl := (List.range n).map (rpN t acts)
theorem rsN_len (t : Nat) (acts : List P2) (n : Nat) : (rsN t acts n).length = n := by simp [rsN]
theorem rsN_nth (t : Nat) (acts : List P2) (n i : Nat) (h : i < n) : nthL (rsN t acts n) i = rpN t acts i := nthL_map n _ i h

set_option maxRecDepth 100000 in
theorem implNew_bad (n : Int) (w : World) (h : ¬ (1 ≤ n ∧ n ≤ 64)) : Calls Try.prog 18 #[.int .i64 n] w fun e w' => e = .returned (.tuple #[SV 0 0 (.slice none 0 0) (.slice none 0 0) (.slice none 0 0), .int .i64 4]) ∧ Below w.heap.size w w' := by
  by_cases h1 : n < 1
  · go_enter Try.func18, Try.ntmps18
    go_wp2
    exact bodyPost_ret (v := .tuple #[SV 0 0 (.slice none 0 0) (.slice none 0 0) (.slice none 0 0), .int .i64 4]) (by simp [results, Try.results18, go_sem]) rfl ⟨rfl, (Below.refl _ _).alloc (Nat.le_refl _) _⟩
  · have h2 : 64 < n := by omega
    clear h
    go_enter Try.func18, Try.ntmps18
    go_wp2
    exact bodyPost_ret (v := .tuple #[SV 0 0 (.slice none 0 0) (.slice none 0 0) (.slice none 0 0), .int .i64 4]) (by simp [results, Try.results18, go_sem]) rfl ⟨rfl, (Below.refl _ _).alloc (Nat.le_refl _) _⟩
set_option maxRecDepth 100000 in
theorem implNew_ok (n : Int) (w : World) (h : 1 ≤ n ∧ n ≤ 64) : Calls Try.prog 18 #[.int .i64 n] w fun e w' => e = .returned (.tuple #[SV n 0 (.slice none 0 0) (.slice none 0 0) (.slice none 0 0), .int .i64 0]) ∧ Below w.heap.size w w' := by
  have h1 : ¬ n < 1 := by omega
  have h2 : ¬ 64 < n := by omega
  clear h
  go_enter Try.func18, Try.ntmps18
  go_wp2
  exact bodyPost_ret (v := .tuple #[SV n 0 (.slice none 0 0) (.slice none 0 0) (.slice none 0 0), .int .i64 0]) (by simp [results, Try.results18, go_sem]) rfl ⟨rfl, (Below.refl _ _).alloc (Nat.le_refl _) _⟩

set_option maxRecDepth 100000 in
theorem implRun_long (tot : Int) (a : Option Addr) (n c : Nat) (w : World) (h1 : 4096 < n) (h2 : n ≤ 1048576) : Calls Try.prog 11 #[.int .i64 tot, .slice a n c] w (zRun 2 true w) := by
  have hI : (4096 : Int) < n := by omega
  have hB : Below w.heap.size w (w.alloc (.cells #[.int .i64 0, .int .i64 0, .slice none 0 0, .slice none 0 0, .slice none 0 0] 29)) := (Below.refl _ _).alloc (Nat.le_refl _) _
  go_enter Try.func11, Try.ntmps11
  go_wp2
  exact bodyPost_ret (v := .tuple #[SV 0 0 (.slice none 0 0) (.slice none 0 0) (.slice none 0 0), .slice none 0 0, .int .i64 2]) (by simp [results, Try.results11, go_sem]) rfl (zRun_of (OwnR.nil _ _) hB)

set_option maxRecDepth 100000 in
theorem implRun_range (tot : Int) (a : Option Addr) (n c : Nat) (w : World) (h1 : n ≤ 4096) (h2 : ¬ (1 ≤ tot ∧ tot ≤ 64)) : Calls Try.prog 11 #[.int .i64 tot, .slice a n c] w (zRun 4 true w) := by
  have hI : ¬ (4096 : Int) < n := by omega
  obtain ⟨W0, hW0⟩ : ∃ W0, w.alloc (.cells #[.int .i64 0, .int .i64 0, .slice none 0 0, .slice none 0 0, .slice none 0 0] 29) = W0 := ⟨_, rfl⟩
  have hB : Below w.heap.size w W0 := hW0 ▸ (Below.refl _ _).alloc (Nat.le_refl _) _
  have x0 : W0.heap[w.heap.size]? = some (.cells #[.int .i64 0, .int .i64 0, .slice none 0 0, .slice none 0 0, .slice none 0 0] 29 (0, 0)) := hW0 ▸ heap_new' _ _ _ rfl
  have X0 : Hid (W0.heap[w.heap.size]? = some (.cells #[.int .i64 0, .int .i64 0, .slice none 0 0, .slice none 0 0, .slice none 0 0] 29 (0, 0))) := x0
  clear x0
  go_enter Try.func11, Try.ntmps11
  go_wp2_with fail
  refine (implNew_bad tot W0 h2).mono ?_
  rintro r w1 ⟨rfl, b1⟩
  have x1 := keepBlk X0.out b1 (slab_lt X0.out)
  have cr0w1 : w1.cell? ⟨w.heap.size, 0, none⟩ = some (.int .i64 0) := (by simp [World.cell?, x1])
  have cr1w1 : w1.cell? ⟨w.heap.size, 1, none⟩ = some (.int .i64 0) := (by simp [World.cell?, x1])
  have cr2w1 : w1.cell? ⟨w.heap.size, 2, none⟩ = some (.slice none 0 0) := (by simp [World.cell?, x1])
  have cr3w1 : w1.cell? ⟨w.heap.size, 3, none⟩ = some (.slice none 0 0) := (by simp [World.cell?, x1])
  have cr4w1 : w1.cell? ⟨w.heap.size, 4, none⟩ = some (.slice none 0 0) := (by simp [World.cell?, x1])
  have frw1 : ∀ o, w1.frozen? ⟨w.heap.size, o, none⟩ = false := fun o => (by simp [World.frozen?, x1])
  have hB1 := hB.trans (b1.mono hB.size)
  have n1 := slab_lt x1
  have X1 : Hid (w1.heap[w.heap.size]? = some (.cells #[.int .i64 0, .int .i64 0, .slice none 0 0, .slice none 0 0, .slice none 0 0] 29 (0, 0))) := x1
  clear x1 X0 b1
  go_wp2
  obtain ⟨q0, q1, q2, q3, q4⟩ := box5_of (w := ((((((w1.setCell ⟨w.heap.size, 0, none⟩ (.int .i64 0)).setCell ⟨w.heap.size, 1, none⟩ (.int .i64 0)).setCell ⟨w.heap.size, 2, none⟩ (.slice none 0 0)).setCell ⟨w.heap.size, 3, none⟩ (.slice none 0 0)).setCell ⟨w.heap.size, 4, none⟩ (.slice none 0 0)).alloc (.cells #[.int .i64 0, .int .i64 0, .slice none 0 0, .slice none 0 0, .slice none 0 0] 29))) ((heap_old _ _ _ (by simp [World.setCell]; omega)).trans (five_at X1.out))
  exact bodyPost_ret (v := .tuple #[SV 0 0 (.slice none 0 0) (.slice none 0 0) (.slice none 0 0), .slice none 0 0, .int .i64 4]) (by go_simp; simp [results, Try.results11, go_sem, q0, q1, q2, q3, q4]) rfl (zRun_of (OwnR.nil _ _) ((five_below hB1 (Nat.le_refl _) _ _ _ _ _).alloc (by simp [World.setCell]; omega) _))

set_option maxRecDepth 100000 in
theorem implRun_many (tot : Int) (a : Option Addr) (n c : Nat) (w : World) (h1 : n ≤ 4096) (h3 : 200 < n) (h2 : 1 ≤ tot ∧ tot ≤ 64) : Calls Try.prog 11 #[.int .i64 tot, .slice a n c] w (zRun 6 true w) := by
  have hI : ¬ (4096 : Int) < n := by omega
  have hI2 : (200 : Int) < n := by omega
  obtain ⟨W0, hW0⟩ : ∃ W0, w.alloc (.cells #[.int .i64 0, .int .i64 0, .slice none 0 0, .slice none 0 0, .slice none 0 0] 29) = W0 := ⟨_, rfl⟩
  have hB : Below w.heap.size w W0 := hW0 ▸ (Below.refl _ _).alloc (Nat.le_refl _) _
  have x0 : W0.heap[w.heap.size]? = some (.cells #[.int .i64 0, .int .i64 0, .slice none 0 0, .slice none 0 0, .slice none 0 0] 29 (0, 0)) := hW0 ▸ heap_new' _ _ _ rfl
  have X0 : Hid (W0.heap[w.heap.size]? = some (.cells #[.int .i64 0, .int .i64 0, .slice none 0 0, .slice none 0 0, .slice none 0 0] 29 (0, 0))) := x0
  clear x0
  go_enter Try.func11, Try.ntmps11
  go_wp2_with fail
  refine (implNew_ok tot W0 h2).mono ?_
  rintro r w1 ⟨rfl, b1⟩
  have x1 := keepBlk X0.out b1 (slab_lt X0.out)
  have cr0w1 : w1.cell? ⟨w.heap.size, 0, none⟩ = some (.int .i64 0) := (by simp [World.cell?, x1])
  have cr1w1 : w1.cell? ⟨w.heap.size, 1, none⟩ = some (.int .i64 0) := (by simp [World.cell?, x1])
  have cr2w1 : w1.cell? ⟨w.heap.size, 2, none⟩ = some (.slice none 0 0) := (by simp [World.cell?, x1])
  have cr3w1 : w1.cell? ⟨w.heap.size, 3, none⟩ = some (.slice none 0 0) := (by simp [World.cell?, x1])
  have cr4w1 : w1.cell? ⟨w.heap.size, 4, none⟩ = some (.slice none 0 0) := (by simp [World.cell?, x1])
  have frw1 : ∀ o, w1.frozen? ⟨w.heap.size, o, none⟩ = false := fun o => (by simp [World.frozen?, x1])
  have hB1 := hB.trans (b1.mono hB.size)
  have n1 := slab_lt x1
  have X1 : Hid (w1.heap[w.heap.size]? = some (.cells #[.int .i64 0, .int .i64 0, .slice none 0 0, .slice none 0 0, .slice none 0 0] 29 (0, 0))) := x1
  clear x1 X0 b1
  go_wp2
  obtain ⟨q0, q1, q2, q3, q4⟩ := box5_of (w := ((((((w1.setCell ⟨w.heap.size, 0, none⟩ (.int .i64 0)).setCell ⟨w.heap.size, 1, none⟩ (.int .i64 0)).setCell ⟨w.heap.size, 2, none⟩ (.slice none 0 0)).setCell ⟨w.heap.size, 3, none⟩ (.slice none 0 0)).setCell ⟨w.heap.size, 4, none⟩ (.slice none 0 0)).alloc (.cells #[.int .i64 tot, .int .i64 0, .slice none 0 0, .slice none 0 0, .slice none 0 0] 29))) ((heap_old _ _ _ (by simp [World.setCell]; omega)).trans (five_at X1.out))
  exact bodyPost_ret (v := .tuple #[SV 0 0 (.slice none 0 0) (.slice none 0 0) (.slice none 0 0), .slice none 0 0, .int .i64 6]) (by go_simp; simp [results, Try.results11, go_sem, q0, q1, q2, q3, q4]) rfl (zRun_of (OwnR.nil _ _) ((five_below hB1 (Nat.le_refl _) _ _ _ _ _).alloc (by simp [World.setCell]; omega) _))
theorem two_ofR {z : Nat} {x y : Value} {ty : TypeId} {w : World} (h : w.heap[z]? = some (.cells #[x, y] ty (0, 0))) : w.cell? ⟨z, 0, none⟩ = some x ∧ w.cell? ⟨z, 1, none⟩ = some y := ⟨by simp [World.cell?, h], by simp [World.cell?, h]⟩
theorem own_five {w : World} {B e m n : Nat} {v : Value} {xs : List Value} (h : w.ownsRow B e m v n xs) {r : Nat} {cs : Array Value} (hr : w.heap[r]? = some (.cells cs 29 (0, 0))) (he : e ≠ 29) (a b c d f : Value) : (((((w.setCell ⟨r, 0, none⟩ a).setCell ⟨r, 1, none⟩ b).setCell ⟨r, 2, none⟩ c).setCell ⟨r, 3, none⟩ d).setCell ⟨r, 4, none⟩ f).ownsRow B e m v n xs :=
  own_at h fun _ hj => five_other _ _ _ _ _ _ _ (own_neq h hr he hj)
/-- What a run that is done answers. -/
theorem InvR.ret {w : World} {T : Nat} {acts : List P2} {L Y g m : Nat} {wr : World} {v1 v2 v3 : Value} {f : Nat → Value} {cur : Array Value}
    (x2 : wr.heap[w.heap.size]? = some (.cells #[.int .i64 0, .int .i64 0, .slice none 0 0, .slice none 0 0, .slice none 0 0] 29 (0, 0)))
    (x3 : wr.heap[g]? = some (.cells cur 37 (0, 0)) ∧ cur.size = L * 2 ∧ ∀ i, i < L → cur[i * 2]? = some (.int .i64 (rpN T acts i).1) ∧ cur[i * 2 + 1]? = some (f i))
    (x4 : OwnI wr w.heap.size v1 (stN T acts L).ss ∧ OwnP wr w.heap.size v2 (stN T acts L).ps ∧ OwnI wr w.heap.size v3 (stN T acts L).qs ∧ SepN 0 v1 v3)
    (x5 : ∀ i, i < L → OwnI wr w.heap.size (f i) (rpN T acts i).2 ∧ SepN 0 v1 (f i) ∧ SepN 0 v3 (f i)) (x6 : ∀ i i', i < i' → i' < L → SepN 0 (f i) (f i'))
    (x8 : w.heap.size < Y ∧ w.heap.size < g ∧ w.heap.size < m) (x9 : Below w.heap.size w wr) (hL : L ≤ 4096) (a b c d e : Value) :
    RetR true w T (stN T acts L) (rsN T acts L) 0 (.returned (.tuple #[SV T (stN T acts L).e v1 v2 v3, .slice (some ⟨g, 0, none⟩) L L, .int .i64 0])) (((((wr.setCell ⟨w.heap.size, 0, none⟩ a).setCell ⟨w.heap.size, 1, none⟩ b).setCell ⟨w.heap.size, 2, none⟩ c).setCell ⟨w.heap.size, 3, none⟩ d).setCell ⟨w.heap.size, 4, none⟩ e) := by
  have nth : ∀ i, i < L → nthR ((List.range L).map fun i => (((rpN T acts i).1, f i) : Rp)) i = ((rpN T acts i).1, f i) := fun i hi => nthR_map L _ i hi
  refine ⟨v1, v2, v3, _, (List.range L).map fun i => ((rpN T acts i).1, f i), rfl, own_five x4.1 x2 (by decide) _ _ _ _ _, own_five x4.2.1 x2 (by decide) _ _ _ _ _, own_five x4.2.2.1 x2 (by decide) _ _ _ _ _, own_five ⟨by rw [cellsR_len], .inr ⟨g, L, cur, by simp, by omega, x3.1, by simp, by unfold maxLen; omega, x3.2.1, take_cellsR fun i hi => ?_⟩⟩ x2 (by decide) _ _ _ _ _, ⟨by simp [rsN_len], fun i hi => ?_⟩, fun _ => ⟨x4.2.2.2, fun i hi => ?_, fun i i' hii hi' => ?_⟩, five_below x9 (Nat.le_refl _) _ _ _ _ _⟩
  · have hi' : i < L := by simpa using hi
    rw [nth i hi']
    exact x3.2.2 i hi'
  · have hi' : i < L := by rw [rsN_len] at hi; exact hi
    rw [nth i hi', rsN_nth _ _ _ _ hi']
    exact ⟨rfl, own_five (x5 i hi').1 x2 (by decide) _ _ _ _ _⟩
  · have hi1 : i < L := by simpa using hi
    rw [nth i hi1]
    exact (x5 i hi1).2
  · have hi1 : i' < L := by simpa using hi'
    rw [nth i (by omega), nth i' hi1]
    exact x6 i i' hii hi1

set_option maxRecDepth 100000 in
set_option maxHeartbeats 4000000 in
theorem implRun_ok (T : Nat) (acts : List P2) (a : Option Addr) (c : Nat) (w : World) (h : RowP w a acts) (h1 : acts.length ≤ 200) (h2 : 1 ≤ T ∧ T ≤ 64) : Calls Try.prog 11 #[.int .i64 T, .slice a acts.length c] w (RetR true w T (stN T acts acts.length) (rsN T acts acts.length) 0) := by
  have H : Hid (RowP w a acts) := h
  clear h
  generalize hL : acts.length = len at *
  have HL : Hid (acts.length = len) := hL
  clear hL
  have hI : ¬ (4096 : Int) < len := by omega
  have hI2 : ¬ (200 : Int) < len := by omega
  obtain ⟨W0, hW0⟩ : ∃ W0, w.alloc (.cells #[.int .i64 0, .int .i64 0, .slice none 0 0, .slice none 0 0, .slice none 0 0] 29) = W0 := ⟨_, rfl⟩
  have hB : Below w.heap.size w W0 := hW0 ▸ (Below.refl _ _).alloc (Nat.le_refl _) _
  have x0 : W0.heap[w.heap.size]? = some (.cells #[.int .i64 0, .int .i64 0, .slice none 0 0, .slice none 0 0, .slice none 0 0] 29 (0, 0)) := hW0 ▸ heap_new' _ _ _ rfl
  have X0 : Hid (W0.heap[w.heap.size]? = some (.cells #[.int .i64 0, .int .i64 0, .slice none 0 0, .slice none 0 0, .slice none 0 0] 29 (0, 0))) := x0
  clear x0
  have hmm := @run_makeMap Try.prog
  obtain ⟨i0, hi, hz0, hz1, hz2⟩ := info_parts info37
  go_enter Try.func11, Try.ntmps11
  go_wp2_with fail
  refine (implNew_ok T W0 (by omega)).mono ?_
  rintro r w1 ⟨rfl, b1⟩
  have X1 : Hid (w1.heap[w.heap.size]? = some (.cells #[.int .i64 0, .int .i64 0, .slice none 0 0, .slice none 0 0, .slice none 0 0] 29 (0, 0))) := keepBlk X0.out b1 (slab_lt X0.out)
  have HB1 : Hid (Below w.heap.size w w1) := hB.trans (b1.mono hB.size)
  have n1 : w.heap.size < w1.heap.size := slab_lt X1.out
  clear X0 b1 hB hW0
  go_wp2_with (at_make; refine wpList_make_full _ rfl _ _ 30 rfl (w.heap.size + 1) 37 i0 _ 2 Try.underlying30 hi hz0 hz1 .i64 .i64 _ _ len rfl rfl rfl rfl ?m1 ?m2 (by simp; omega) ?_)
  case m1 => rw [hz2]; omega
  case m2 => unfold maxLen; omega
  intro w2 hown hgr
  have b2 := (Below.refl _ _).grown hgr (Nat.le_refl _) (fun k hk => by cases hk)
  have x1 := keepBlk ((heap_old _ _ _ (by simp)).trans (heap_new' w1 (.cells #[.int .i64 T, .int .i64 0, .slice none 0 0, .slice none 0 0, .slice none 0 0] 29) _ rfl)) b2 (by simp; omega)
  have x7 := (b2.block (w1.heap.size + 1) (by simp)).trans (heap_new' _ _ _ (by simp))
  have x2 := keepBlk ((heap_old _ _ _ (by simp; omega)).trans ((heap_old _ _ _ n1).trans X1.out)) b2 (by simp; omega)
  have x9 : Below w.heap.size w w2 := ((HB1.out.alloc HB1.out.size _).alloc (by simp; omega) _).trans (b2.mono (by simp; omega))
  have HI : Hid (InvR w T acts len w1.heap.size (w1.heap.size + 1 + 1) (w1.heap.size + 1) 0 w2) := by
    rcases hown.2 with ⟨h, _⟩ | ⟨g, cc, cur, h, _, hh, _, _, hcs, _⟩
    · cases h
    · cases h
      exact ⟨.slice none 0 0, .slice none 0 0, .slice none 0 0, fun _ => .slice none 0 0, cur, 0, .map [], x1, x2, ⟨hh, hcs, fun i hi => by omega⟩, ⟨OwnI.nil _ _, ⟨rfl, .inl ⟨rfl, rfl⟩⟩, OwnI.nil _ _, SepN.none _ _ _ _⟩, fun i hi => by omega, fun i i' _ hi => by omega, mapOf_heap x7, ⟨n1, by omega, by omega⟩, x9⟩
  clear hown hgr b2 x1 x2 x7 x9 hi hz0 hz1 hz2 hmm X1 HB1
  have hY : Hid (w.heap.size < w1.heap.size) := n1
  have HOK : Hid (∀ k, OkSp T (stN T acts k).e (stN T acts k).ss (stN T acts k).ps (stN T acts k).qs) := stN_ok T acts h2
  generalize hYe : w1.heap.size = Y at *
  clear hYe n1
  go_wp2
  go_loopw [36] (fun i wr => ∃ k : Nat, k ≤ len ∧ i = .int .i64 k ∧ InvR w T acts len Y (Y + 1 + 1) (Y + 1) k wr) (fun i _ => len - (intOf i).toNat)
  case atStart => exact ⟨0, by omega, rfl, HI.out⟩
  case round =>
    clear HI
    obtain ⟨k, hk, rfl, v1, v2, v3, f, cur, c', D, x1, x2, x3, x4, x5, x6, x7, x8, x9⟩ := hrel
    by_cases hlt : k < len
    · have hltI : (k : Int) < (len : Int) := by omega
      obtain ⟨b, off, rfl, hlb, hc0, hc1⟩ := (H.out.below x9) k (by rw [HL.out]; exact hlt)
      have HS : Hid (stN T acts (k + 1) = stp T (stN T acts k).e (stN T acts k).ss (stN T acts k).ps (stN T acts k).qs (nthP acts k).1 (nthP acts k).2) := rfl
      have ok := HOK.out k
      have OK : Hid (OkSp T (stN T acts k).e (stN T acts k).ss (stN T acts k).ps (stN T acts k).qs) := ok
      have lm := ok_many ok
      obtain ⟨kk, hp1⟩ : ∃ x, (nthP acts k).1 = x := ⟨_, rfl⟩
      obtain ⟨n, hp2⟩ : ∃ x, (nthP acts k).2 = x := ⟨_, rfl⟩
      rw [hp1] at hc0 HS
      rw [hp2] at hc1 HS
      obtain ⟨wa, hwa⟩ : ∃ wa, wr.alloc (.cells #[.int .i64 kk, .int .i64 n] 39) = wa := ⟨_, rfl⟩
      have ba : Below wr.heap.size wr wa := hwa ▸ (Below.refl _ _).alloc (Nat.le_refl _) _
      have xac : wa.heap[wr.heap.size]? = some (.cells #[.int .i64 kk, .int .i64 n] 39 (0, 0)) := hwa ▸ heap_new' _ _ _ rfl
      obtain ⟨y0, y1, y2, y3, y4⟩ := box5_of (keepBlk x1 ba (slab_lt x1))
      obtain ⟨z0, z1⟩ := two_ofR xac
      have mA : MapOf wa (Y + 1) c' D := mapOf_at x7 (ba.block _ (by obtain ⟨es, cl, hh, _⟩ := x7; exact slab_lt hh))
      have rd1 : ReadI wa v1 (stN T acts k).ss := OwnI.read (B := w.heap.size) (own_keep x4.1 fun j _ hl => ba.block j hl)
      have rd2 : ReadP wa v2 (stN T acts k).ps := OwnP.read (own_keep x4.2.1 fun j _ hl => ba.block j hl)
      have rd3 : ReadI wa v3 (stN T acts k).qs := OwnI.read (B := w.heap.size) (own_keep x4.2.2.1 fun j _ hl => ba.block j hl)
      have RD : Hid (ReadI wa v1 (stN T acts k).ss ∧ ReadP wa v2 (stN T acts k).ps ∧ ReadI wa v3 (stN T acts k).qs ∧ MapOf wa (Y + 1) c' D) := ⟨rd1, rd2, rd3, mA⟩
      have HX : Hid (∀ w3 c2 D2 u1 u2 u3 u4, SV4 wa.heap.size v1 v2 v3 (stN T acts k).ss (stN T acts k).ps (stN T acts k).qs (stN T acts (k + 1)).ss (stN T acts (k + 1)).ps (stN T acts (k + 1)).qs (stN T acts (k + 1)).pg u1 u2 u3 u4 w3 → Kept (fun j => j = Y + 1) wa w3 → MapOf w3 (Y + 1) c2 D2 → (InvR w T acts len Y (Y + 1 + 1) (Y + 1) (k + 1) (rndW w3 Y (Y + 1 + 1) k (.int .i64 T) (.int .i64 (stN T acts (k + 1)).e) u1 u2 u3 (.int .i64 (stN T acts (k + 1)).c) u4)) ∧ w3.heap[Y]? = some (.cells #[.int .i64 T, .int .i64 (stN T acts k).e, v1, v2, v3] 29 (0, 0)) ∧ w3.heap[Y + 1 + 1]? = some (.cells cur 37 (0, 0))) := fun w3 c2 D2 u1 u2 u3 u4 hs hK hm => ⟨InvR.step x1 x2 x3 x4 x5 x6 x7 x8 x9 hlt ba hs hK hm, (hK.block Y (Nat.lt_of_lt_of_le (slab_lt x1) ba.size) (fun e => blk_not_map x7 x1 e)).trans (keepBlk x1 ba (slab_lt x1)), (hK.block (Y + 1 + 1) (Nat.lt_of_lt_of_le (slab_lt x3.1) ba.size) (fun e => blk_not_map x7 x3.1 e)).trans (keepBlk x3.1 ba (slab_lt x3.1))⟩
      have hcs : cur.size = len * 2 := x3.2.1
      have LM : Hid ((stN T acts k).ss.length ≤ 1048576 ∧ (stN T acts k).ps.length ≤ 1048576) := ⟨by have := ok.1; omega, by have := ok.1; omega⟩
      clear x1 x2 x3 x4 x5 x6 x7 x9 mA rd1 rd2 rd3 ok lm hp1 hp2 xac hlb ba
      generalize hSe : (stN T acts k).e = e0 at *
      go_wp2_with fail
      refine (spaceAct_any T e0 kk n (Y + 1) c' D v1 v2 v3 (stN T acts k).ss (stN T acts k).ps (stN T acts k).qs wa OK.out RD.out.1 RD.out.2.1 RD.out.2.2.1 RD.out.2.2.2 LM.out.1 LM.out.2).mono ?_
      rintro r w3 ⟨⟨u1, u2, u3, u4, rfl, hsq⟩, hK, c2, D2, hm2⟩
      rw [← HS.out] at hsq ⊢
      obtain ⟨⟨a1, k1, d1, rfl⟩, ⟨a2, k2, d2, rfl⟩, ⟨a3, k3, d3, rfl⟩, ⟨a4, k4, d4, rfl⟩⟩ := SV4.shp hsq RD.out.1 RD.out.2.1 RD.out.2.2.1
      obtain ⟨hN, g1, g3⟩ := HX.out w3 c2 D2 _ _ _ _ hsq hK hm2
      have HN : Hid (InvR w T acts len Y (Y + 1 + 1) (Y + 1) (k + 1) (rndW w3 Y (Y + 1 + 1) k (.int .i64 T) (.int .i64 (stN T acts (k + 1)).e) (.slice a1 k1 d1) (.slice a2 k2 d2) (.slice a3 k3 d3) (.int .i64 (stN T acts (k + 1)).c) (.slice a4 k4 d4))) := hN
      clear y0 y1 y2 y3 y4 z0 z1 hsq hK hm2 hN hc0 hc1 HS
      obtain ⟨y0, y1, y2, y3, y4⟩ := box5_of g1
      have fy : ∀ o, w3.frozen? ⟨Y, o, none⟩ = false := fun o => slab_free g1
      obtain ⟨q0, hq0⟩ : ∃ v, w3.cell? ⟨Y + 1 + 1, k * 2, none⟩ = some v := ⟨cur[k * 2]'(by omega), by rw [slab_cell g3]; exact Array.getElem?_eq_getElem _⟩
      obtain ⟨q1, hq1⟩ : ∃ v, w3.cell? ⟨Y + 1 + 1, k * 2 + 1, none⟩ = some v := ⟨cur[k * 2 + 1]'(by omega), by rw [slab_cell g3]; exact Array.getElem?_eq_getElem _⟩
      have fg : ∀ o, w3.frozen? ⟨Y + 1 + 1, o, none⟩ = false := fun o => slab_free g3
      clear g1 g3
      generalize (stN T acts (k + 1)).e = e1 at *
      generalize (stN T acts (k + 1)).c = cc at *
      go_wp2
      go_roundw
      case rel => exact ⟨k + 1, by omega, by go_num, HN.out⟩
      case measure => simp [intOf]; omega
    · obtain rfl : k = len := by omega
      obtain ⟨y0, y1, y2, y3, y4⟩ := box5_of x1
      have HX : Hid (∀ a b c d e, RetR true w T (stN T acts k) (rsN T acts k) 0 (.returned (.tuple #[SV T (stN T acts k).e v1 v2 v3, .slice (some ⟨Y + 1 + 1, 0, none⟩) k k, .int .i64 0])) (((((wr.setCell ⟨w.heap.size, 0, none⟩ a).setCell ⟨w.heap.size, 1, none⟩ b).setCell ⟨w.heap.size, 2, none⟩ c).setCell ⟨w.heap.size, 3, none⟩ d).setCell ⟨w.heap.size, 4, none⟩ e)) := InvR.ret x2 x3 x4 x5 x6 x8 x9 (by omega)
      have cr0wr : wr.cell? ⟨w.heap.size, 0, none⟩ = some (.int .i64 0) := (by simp [World.cell?, x2])
      have cr1wr : wr.cell? ⟨w.heap.size, 1, none⟩ = some (.int .i64 0) := (by simp [World.cell?, x2])
      have cr2wr : wr.cell? ⟨w.heap.size, 2, none⟩ = some (.slice none 0 0) := (by simp [World.cell?, x2])
      have cr3wr : wr.cell? ⟨w.heap.size, 3, none⟩ = some (.slice none 0 0) := (by simp [World.cell?, x2])
      have cr4wr : wr.cell? ⟨w.heap.size, 4, none⟩ = some (.slice none 0 0) := (by simp [World.cell?, x2])
      have frwr : ∀ o, wr.frozen? ⟨w.heap.size, o, none⟩ = false := fun o => (by simp [World.frozen?, x2])
      obtain ⟨a1, k1, d1, rfl⟩ := own_shq x4.1
      obtain ⟨a2, k2, d2, rfl⟩ := own_shq x4.2.1
      obtain ⟨a3, k3, d3, rfl⟩ := own_shq x4.2.2.1
      have hne : w.heap.size ≠ Y := by omega
      clear x1 x2 x3 x4 x5 x6 x7 x9
      generalize (stN T acts k).e = e0 at *
      go_wp2
      refine bodyPost_ret (v := .tuple #[SV T e0 (.slice a1 k1 d1) (.slice a2 k2 d2) (.slice a3 k3 d3), .slice (some ⟨Y + 1 + 1, 0, none⟩) k k, .int .i64 0]) (by go_simp; simp [results, Try.results11, go_sem, cr0wr, cr1wr, cr2wr, cr3wr, cr4wr]) rfl (HX.out _ _ _ _ _)
end Go.Proofs.Ytaklphoplfofbaa
