/- Fields, the tables they are of, and impl's walk (stage 16). -/
import Derived.Test.YteejkmcljokloaaGreatDoorMkA
import Derived.Deep.RegionHeld3
import Derived.Lib.AppendZeros
import Derived.Laws.Cover3
import Derived.Test.YteejkmcljokloaaGreatDoorSqK
import Derived.Test.YteejkmcljokloaaGreatDoorFtA
import Derived.Test.YteejkmcljokloaaGreatDoorCkA
import Derived.Maps.AppendAt
import Derived.Test.YteejkmcljokloaaGreatDoorAsD
import Derived.Test.YteejkmcljokloaaGreatDoorTrF
namespace Go.Proofs.YteejkmcljokloaaGreatDoor
open Go.RowKit

/-- A field: whose it is, its name, its type. -/
abbrev TF : Type := ByteArray × ByteArray × Int
def nthF (ss : List TF) (i : Nat) : TF := ss.getD i (⟨#[]⟩, ⟨#[]⟩, 0)
abbrev ValF (x : TF) : Value := .agg #[.string x.1, .string x.2.1, .int .i64 x.2.2]
abbrev CellF (w : World) (b o : Nat) (x : TF) : Prop := w.cell? ⟨b, o, none⟩ = some (.string x.1) ∧ w.cell? ⟨b, o + 1, none⟩ = some (.string x.2.1) ∧ w.cell? ⟨b, o + 2, none⟩ = some (.int .i64 x.2.2)
theorem CellF.below {w w' : World} {b o : Nat} {x : TF} (h : CellF w b o x) (hl : b < w.heap.size) (hb : Below w.heap.size w w') : CellF w' b o x := ⟨(hb.cell (p := ⟨b, o, none⟩) hl).trans h.1, (hb.cell (p := ⟨b, o + 1, none⟩) hl).trans h.2.1, (hb.cell (p := ⟨b, o + 2, none⟩) hl).trans h.2.2⟩
/-- The fields ss can be read at a. -/
def RowF (w : World) (a : Option Addr) (ss : List TF) : Prop := ∀ i, i < ss.length → ∃ b off, a = some ⟨b, off, none⟩ ∧ b < w.heap.size ∧ CellF w b (off + i * 3) (nthF ss i)
theorem RowF.below {w w' : World} {a : Option Addr} {ss : List TF} (h : RowF w a ss) (hb : Below w.heap.size w w') : RowF w' a ss := fun i hi => by
  obtain ⟨b, off, e, hlt, hc⟩ := h i hi
  exact ⟨b, off, e, Nat.lt_of_lt_of_le hlt hb.size, hc.below hlt hb⟩

set_option maxRecDepth 100000 in
theorem eqF1_same (x : TF) (w : World) : Calls Tryz.prog 29 #[ValF x, ValF x] w fun e w' => e = .returned (.bool true) ∧ Below w.heap.size w w' := by
  obtain ⟨ofx, nx, tx⟩ := x
  go_enter Tryz.func29, Tryz.ntmps29
  go_wp2
  go_ret
  exact ⟨rfl, ((Below.refl _ _).alloc (Nat.le_refl _) _).alloc (by simp) _⟩
abbrev PairF (w : World) (b1 o1 b2 o2 : Nat) (x : TF) (w' : World) : Prop := CellF w' b1 o1 x ∧ CellF w' b2 o2 x ∧ b1 < w'.heap.size ∧ b2 < w'.heap.size ∧ Below w.heap.size w w'
theorem PairF.keep {w : World} {b1 o1 b2 o2 : Nat} {x : TF} {w1 w2 : World} (h : PairF w b1 o1 b2 o2 x w1) (hb : Below w1.heap.size w1 w2) : PairF w b1 o1 b2 o2 x w2 := ⟨h.1.below h.2.2.1 hb, h.2.1.below h.2.2.2.1 hb, Nat.lt_of_lt_of_le h.2.2.1 hb.size, Nat.lt_of_lt_of_le h.2.2.2.1 hb.size, below_step h.2.2.2.2 (Nat.le_refl _) hb⟩
set_option maxRecDepth 100000 in
set_option maxHeartbeats 2000000 in
theorem eqF_same (a1 a2 : Option Addr) (c1 c2 : Nat) (ss : List TF) (w : World) (h1 : RowF w a1 ss) (h2 : RowF w a2 ss) (hlen : ss.length ≤ 1048576) :
    Calls Tryz.prog 10 #[.slice a1 ss.length c1, .slice a2 ss.length c2] w fun e w' => e = .returned (.bool true) ∧ Below w.heap.size w w' := by
  have H1 : Hid (RowF w a1 ss) := h1
  have H2 : Hid (RowF w a2 ss) := h2
  clear h1 h2
  generalize hL : ss.length = len at *
  have HL : Hid (ss.length = len) := hL
  clear hL
  go_enter Tryz.func10, Tryz.ntmps10
  go_wp2
  go_loopw [5] (fun i wr => ∃ k : Nat, k ≤ len ∧ i = .int .i64 k ∧ Below w.heap.size w wr) (fun i _ => len - (intOf i).toNat)
  case atStart => exact ⟨0, by omega, rfl, Below.refl _ _⟩
  case round =>
    obtain ⟨k, hk, rfl, hbl⟩ := hrel
    by_cases hlt : k < len
    · obtain ⟨b1, o1, rfl, hlb1, hc1⟩ := (H1.out.below hbl) k (by rw [HL.out]; exact hlt)
      obtain ⟨b2, o2, rfl, hlb2, hc2⟩ := (H2.out.below hbl) k (by rw [HL.out]; exact hlt)
      generalize nthF ss k = x at *
      have hP : PairF w b1 (o1 + k * 3) b2 (o2 + k * 3) x wr.drew := ⟨hc1, hc2, hlb1, hlb2, hbl.drew⟩
      have hltI : (k : Int) < (len : Int) := by omega
      clear hc1 hc2
      obtain ⟨ofx, nx, tx⟩ := x
      go_wp2_with fail
      go_region_held3 (PairF w b1 (o1 + k * 3) b2 (o2 + k * 3) (ofx, nx, tx)) (first | exact hP | exact PairF.keep (by assumption) hb) (first | (go_at_call 29; refine (eqF1_same (ofx, nx, tx) _).mono ?_; rintro e wA ⟨rfl, hb⟩) | fail)
      rename_i hPL
      have hB := hPL.2.2.2.2
      clear hP hPL
      go_wp2
      go_roundw
      case rel => exact ⟨k + 1, by omega, by go_num, hB⟩
      case measure => simp [intOf]; omega
    · go_wp2
      go_ret
      exact ⟨rfl, hbl⟩

/-- The cells of some fields. -/
def cellsF : List TF → List Value
  | [] => []
  | v :: vs => .string v.1 :: .string v.2.1 :: .int .i64 v.2.2 :: cellsF vs
theorem cellsF_len : ∀ l : List TF, (cellsF l).length = l.length * 3
  | [] => rfl
  | v :: vs => by simp only [cellsF, List.length_cons, cellsF_len vs]; omega
theorem cellsF_append : ∀ l r : List TF, cellsF (l ++ r) = cellsF l ++ cellsF r
  | [], _ => rfl
  | v :: vs, r => by simp only [cellsF, List.cons_append, cellsF_append vs r]
theorem cellsF_one : ∀ (l : List TF), ∀ u ∈ cellsF l, u.oneCell' = true
  | [], u, h => by simp [cellsF] at h
  | v :: vs, u, h => by
    simp only [cellsF, List.mem_cons] at h
    rcases h with rfl | rfl | rfl | h
    · rfl
    · rfl
    · rfl
    · exact cellsF_one vs u h
theorem cellsF_get : ∀ (l : List TF) (i : Nat), i < l.length → (cellsF l)[i * 3]? = some (.string (nthF l i).1) ∧ (cellsF l)[i * 3 + 1]? = some (.string (nthF l i).2.1) ∧ (cellsF l)[i * 3 + 2]? = some (.int .i64 (nthF l i).2.2)
  | [], _, h => by simp at h
  | v :: vs, 0, _ => ⟨rfl, rfl, rfl⟩
  | v :: vs, i + 1, h => by
    have ih := cellsF_get vs i (by simpa using h)
    have e1 : (i + 1) * 3 = i * 3 + 1 + 1 + 1 := by omega
    have e2 : (i + 1) * 3 + 1 = i * 3 + 1 + 1 + 1 + 1 := by omega
    have e3 : (i + 1) * 3 + 2 = i * 3 + 2 + 1 + 1 + 1 := by omega
    rw [e3, e2, e1]
    simp only [cellsF, List.getElem?_cons_succ]
    exact ih
theorem rowF_cells {w : World} {b off : Nat} {us : List TF} (h : RowF w (some ⟨b, off, none⟩) us) (j : Nat) (u : Value) (hj : (cellsF us)[j]? = some u) : w.cell? ((⟨b, off, none⟩ : Addr).add j) = some u := by
  have hl : j < us.length * 3 := by
    rw [← cellsF_len us]
    exact (List.getElem?_eq_some_iff.1 hj).1
  obtain ⟨i, r, hr, rfl⟩ : ∃ i r, r < 3 ∧ j = i * 3 + r := ⟨j / 3, j % 3, Nat.mod_lt _ (by omega), by omega⟩
  have hi : i < us.length := by omega
  obtain ⟨b', off', e, _, ⟨c0, c1, c2⟩⟩ := h i hi
  cases e
  obtain ⟨g0, g1, g2⟩ := cellsF_get us i hi
  rw [add_plain]
  match r, hr with
  | 0, _ =>
    rw [Nat.add_zero] at hj ⊢
    rw [g0] at hj
    rw [← hj]; exact c0
  | 1, _ =>
    rw [g1] at hj
    rw [← hj, ← Nat.add_assoc]; exact c1
  | 2, _ =>
    rw [g2] at hj
    rw [← hj, ← Nat.add_assoc]; exact c2
/-- A list of fields of the call's own. -/
abbrev OwnF (w : World) (B : Nat) (v : Value) (l : List TF) : Prop := w.ownsRow B 70 3 v l.length (cellsF l)
theorem OwnF.nil (w : World) (B : Nat) : OwnF w B (.slice none 0 0) [] := ⟨rfl, .inl ⟨rfl, rfl⟩⟩
theorem OwnF.empty {w : World} {B : Nat} (hB : B ≤ w.heap.size) : OwnF (w.alloc (.cells #[] 70)) B (.slice (some ⟨w.heap.size, 0, none⟩) 0 0) [] :=
  ⟨rfl, .inr ⟨w.heap.size, 0, #[], rfl, hB, heap_alloc_new w _, by simp, by simp, by simp, by simp [cellsF]⟩⟩
theorem OwnF.block {w w' : World} {B : Nat} {v : Value} {l : List TF} (h : OwnF w B v l) (hb : ∀ g, g < w.heap.size → B ≤ g → w'.heap[g]? = w.heap[g]?) : OwnF w' B v l := by
  obtain ⟨h1, h2⟩ := h
  refine ⟨h1, ?_⟩
  rcases h2 with h | ⟨g, cap, cur, e, hg, hh, r⟩
  · exact .inl h
  · exact .inr ⟨g, cap, cur, e, hg, (hb g (slab_lt hh) hg).trans hh, r⟩
theorem OwnF.below {w w' : World} {B : Nat} {v : Value} {l : List TF} (h : OwnF w B v l) (hb : Below w.heap.size w w') : OwnF w' B v l := h.block fun g hg _ => hb.block g hg
theorem OwnF.mono {w : World} {B B' : Nat} {v : Value} {l : List TF} (h : OwnF w B v l) (hB : B' ≤ B) : OwnF w B' v l := by
  obtain ⟨h1, h2⟩ := h
  refine ⟨h1, ?_⟩
  rcases h2 with h | ⟨g, cap, cur, e, hg, r⟩
  · exact .inl h
  · exact .inr ⟨g, cap, cur, e, Nat.le_trans hB hg, r⟩
theorem ownF_grown {B : Nat} {w u u' : World} {v : Value} {l : List TF} (h : Below B w u) (hB : B ≤ u.heap.size) (ho : OwnF u B v l) (hg : u.grownBy u' v.ownBlock) : Below B w u' :=
  h.grown hg hB fun k e => by
    obtain ⟨_, h2⟩ := ho
    rcases h2 with ⟨rfl, _⟩ | ⟨g, cap, cur, rfl, hg', _⟩
    · simp [Value.ownBlock] at e
    · simp [Value.ownBlock] at e
      omega
theorem OwnF.row {w : World} {B : Nat} {v : Value} {l : List TF} (h : OwnF w B v l) : ∃ a cap, v = .slice a l.length cap ∧ RowF w a l := by
  obtain ⟨_, h2⟩ := h
  rcases h2 with ⟨rfl, h0⟩ | ⟨g, cap, cur, rfl, _, hh, _, _, hs, ht⟩
  · exact ⟨none, 0, by rw [h0], fun i hi => by omega⟩
  · refine ⟨_, cap, rfl, fun i hi => ⟨g, 0, rfl, slab_lt hh, ?_⟩⟩
    have key : ∀ j u, (cellsF l)[j]? = some u → w.cell? ⟨g, j, none⟩ = some u := fun j u hj => by
      rw [slab_cell hh]
      rw [← ht, List.getElem?_take] at hj
      split at hj
      · rw [← Array.getElem?_toList]; exact hj
      · cases hj
    obtain ⟨g0, g1, g2⟩ := cellsF_get l i hi
    rw [Nat.zero_add]
    exact ⟨key _ _ g0, key _ _ g1, key _ _ g2⟩
theorem infoF : (Tryz.prog.info? 70).map (fun i => (i.zero, i.size, i.bytes)) = some (some (.agg #[.string ⟨#[]⟩, .string ⟨#[]⟩, .int .i64 0]), 3, 40) := by kernel_rfl
set_option maxRecDepth 100000 in
/-- Fields appended to a list of the call's own. -/
theorem app_F (v : Value) (l us : List TF) (w : World) (B b off c : Nat) (h : OwnF w B v l) (hl : l.length + us.length ≤ 2097152) (hx : RowF w (some ⟨b, off, none⟩) us) (hB : B ≤ w.heap.size) :
    ∃ v' w', (Builtin.append_ #[30, 30] 30 #[v, .slice (some ⟨b, off, none⟩) us.length c]).run Tryz.prog w = .ok v' w' ∧ OwnF w' B v' (l ++ us) ∧ w.grownBy w' v.ownBlock := by
  obtain ⟨i0, hi, hz0, hz1, hz2⟩ := info_parts infoF
  obtain ⟨v', w', h1, h2, h3, _⟩ := run_append_own (P := Tryz.prog) w B 30 30 70 i0 _ 3 40 Tryz.underlying30 hi hz0 hz1 hz2 rfl (by decide) v l.length (cellsF l) h ⟨b, off, none⟩ us.length c (cellsF us) (cellsF_len us) (fun j u hj => rowF_cells hx j u hj) (cellsF_one us) (by unfold maxLen; omega) (by omega)
    hB
  exact ⟨v', w', h1, by rw [← List.length_append, ← cellsF_append] at h2; exact h2, h3⟩
/-- One field, made for it, appended. -/
theorem push_F (v : Value) (l : List TF) (x : TF) (w : World) (B : Nat) (h : OwnF w B v l) (hl : l.length < 2097152) (hB : B ≤ w.heap.size) :
    ∃ v' w', (Builtin.append_ #[30, 30] 30 #[v, .slice (some ⟨w.heap.size, 0, none⟩) 1 1]).run Tryz.prog (w.alloc (.cells #[.string x.1, .string x.2.1, .int .i64 x.2.2] 70)) = .ok v' w' ∧ OwnF w' B v' (l ++ [x]) ∧ Below B w w' := by
  have b2 : Below w.heap.size w (w.alloc (.cells #[.string x.1, .string x.2.1, .int .i64 x.2.2] 70)) := (Below.refl _ _).alloc (Nat.le_refl _) _
  have o2 := h.below b2
  have hh : (w.alloc (.cells #[.string x.1, .string x.2.1, .int .i64 x.2.2] 70)).heap[w.heap.size]? = some (.cells #[.string x.1, .string x.2.1, .int .i64 x.2.2] 70 (0, 0)) := heap_new' _ _ _ rfl
  have hr : RowF (w.alloc (.cells #[.string x.1, .string x.2.1, .int .i64 x.2.2] 70)) (some ⟨w.heap.size, 0, none⟩) [x] := fun i hi => by
    obtain rfl : i = 0 := by simp at hi; omega
    exact ⟨w.heap.size, 0, rfl, by simp, by rw [slab_cell hh]; rfl, by rw [slab_cell hh]; rfl, by rw [slab_cell hh]; rfl⟩
  obtain ⟨v', w', h1, h2, h3⟩ := app_F v l [x] _ B w.heap.size 0 1 o2 (by simp; omega) hr (by simp; omega)
  exact ⟨v', w', h1, h2, ownF_grown (b2.mono hB) (by simp; omega) o2 h3⟩
end Go.Proofs.YteejkmcljokloaaGreatDoor
namespace Go.Proofs.YteejkmcljokloaaGreatDoor
open Go.RowKit

namespace Fo
def drop : Fo → Nat → Fo
  | f, 0 => f
  | nil, _ + 1 => nil
  | cons _ _ r, i + 1 => r.drop i
theorem drop_zero (f : Fo) : f.drop 0 = f := by cases f <;> rfl
theorem drop_at : ∀ (f : Fo) (i : Nat), i < f.len → f.drop i = cons (f.node i) (f.kids i) (f.drop (i + 1))
  | nil, _, h => by simp [len] at h
  | cons x ks r, 0, _ => by simp [drop, node, kids, drop_zero]
  | cons x ks r, i + 1, h => by
    have := drop_at r i (by simp only [len] at h; omega)
    simpa [drop, node, kids] using this
theorem drop_len : ∀ f : Fo, f.drop f.len = nil
  | nil => rfl
  | cons _ _ r => by simpa [drop, len] using drop_len r
/-- How many tables stand among them. -/
def nTab : Fo → Nat
  | nil => 0
  | cons x _ r => (if x.k = 6 then 1 else 0) + r.nTab
theorem nTab_count : ∀ f : Fo, f.nTab = (kindsF f).count 6
  | nil => rfl
  | cons x _ r => by
    simp only [nTab, kindsF, List.count_cons, nTab_count r]
    by_cases h : x.k = 6
    · simp [h]; omega
    · simp [h]
end Fo

/-- The name by which a table is called. -/
def tabNm (x : ND) : ByteArray := if x.of.toList == [] then x.nm else x.of
/-- The fields of these columns. -/
def colsF (o : ByteArray) (cs : List TC) : List TF := cs.map fun c => (o, c.1, c.2.1)
theorem colsF_len (o : ByteArray) (cs : List TC) : (colsF o cs).length = cs.length := by simp [colsF]
/-- Which table has the name. -/
abbrev fnd (ss : List TT) (nm : ByteArray) : Int := findN (nmT ss) nm ss.length
abbrev colT (ss : List TT) (nm : ByteArray) : List TC := (nthT ss (fnd ss nm).toNat).2.1
/-- What the specification's walk over these parts answers, of what it has. -/
def scp (ss : List TT) : Fo → List ByteArray → List TF → Int → List TF × Int × Int
  | .nil, _, out, _ => (out, 0, 0)
  | .cons x ks r, ns, out, at' => if x.k = 6 then (if fnd ss x.nm < 0 then ([], 11, at') else if (ns.any fun n => n.toList == (tabNm x).toList) = true then ([], 9, at') else scp ss r (ns ++ [tabNm x]) (out ++ colsF (tabNm x) (colT ss x.nm)) (at' + ((ks.size : Int) + 1))) else scp ss r ns out (at' + ((ks.size : Int) + 1))
/-- Whether the first field is that one's. -/
def hdIs : List TF → ByteArray → Bool
  | [], _ => false
  | f :: _, n => f.1.toList == n.toList
/-- What impl's walk over these parts answers. -/
def qsp (ss : List TT) : Fo → List TF → Option Int → Int → List TF × Int × Int
  | .nil, out, tw, _ => match tw with | some p => ([], 9, p) | none => (out, 0, 0)
  | .cons x ks r, out, tw, at' => if x.k = 6 then (if fnd ss x.nm < 0 then ([], 11, at') else qsp ss r (out ++ colsF (tabNm x) (colT ss x.nm)) (if hdIs out (tabNm x) = true then some at' else tw) (at' + ((ks.size : Int) + 1))) else qsp ss r out tw (at' + ((ks.size : Int) + 1))
theorem scp_none (ss : List TT) : ∀ (f : Fo) (ns : List ByteArray) (out : List TF) (a : Int), f.nTab = 0 → scp ss f ns out a = (out, 0, 0)
  | .nil, _, _, _, _ => rfl
  | .cons x ks r, ns, out, a, h => by
    simp only [Fo.nTab] at h
    have h6 : ¬ x.k = 6 := fun e => by simp [e] at h
    simp only [if_neg h6] at h
    unfold scp
    rw [if_neg h6]
    exact scp_none ss r _ _ _ (by omega)
theorem qsp_none (ss : List TT) : ∀ (f : Fo) (out : List TF) (tw : Option Int) (a : Int), f.nTab = 0 → qsp ss f out tw a = match tw with | some p => ([], 9, p) | none => (out, 0, 0)
  | .nil, _, _, _, _ => rfl
  | .cons x ks r, out, tw, a, h => by
    simp only [Fo.nTab] at h
    have h6 : ¬ x.k = 6 := fun e => by simp [e] at h
    simp only [if_neg h6] at h
    unfold qsp
    rw [if_neg h6]
    exact qsp_none ss r _ _ _ (by omega)
theorem qsp_one (ss : List TT) (n0 : ByteArray) (cs0 : List TC) (h0 : cs0 ≠ []) : ∀ (f : Fo) (a : Int), f.nTab ≤ 1 → qsp ss f (colsF n0 cs0) none a = scp ss f [n0] (colsF n0 cs0) a
  | .nil, _, _ => rfl
  | .cons x ks r, a, h => by
    simp only [Fo.nTab] at h
    by_cases h6 : x.k = 6
    · rw [if_pos h6] at h
      unfold qsp scp
      rw [if_pos h6, if_pos h6]
      by_cases hf : fnd ss x.nm < 0
      · rw [if_pos hf, if_pos hf]
      · rw [if_neg hf, if_neg hf]
        have hd : hdIs (colsF n0 cs0) (tabNm x) = ([n0].any fun n => n.toList == (tabNm x).toList) := by
          cases cs0 with
          | nil => exact absurd rfl h0
          | cons c cs => simp [colsF, hdIs]
        rw [hd]
        by_cases hn : ([n0].any fun n => n.toList == (tabNm x).toList) = true
        · rw [if_pos hn, if_pos hn, qsp_none ss r _ _ _ (by omega)]
        · rw [if_neg hn, if_neg hn, qsp_none ss r _ _ _ (by omega), scp_none ss r _ _ _ (by omega)]
    · rw [if_neg h6] at h
      unfold qsp scp
      rw [if_neg h6, if_neg h6]
      exact qsp_one ss n0 cs0 h0 r _ (by omega)
theorem qsp_two (ss : List TT) (hc : ∀ nm, 0 ≤ fnd ss nm → colT ss nm ≠ []) : ∀ (f : Fo) (a : Int), f.nTab ≤ 2 → qsp ss f [] none a = scp ss f [] [] a
  | .nil, _, _ => rfl
  | .cons x ks r, a, h => by
    simp only [Fo.nTab] at h
    by_cases h6 : x.k = 6
    · rw [if_pos h6] at h
      unfold qsp scp
      rw [if_pos h6, if_pos h6]
      by_cases hf : fnd ss x.nm < 0
      · rw [if_pos hf, if_pos hf]
      · rw [if_neg hf, if_neg hf]
        simp only [hdIs, List.any_nil, List.nil_append, Bool.false_eq_true, if_false]
        exact qsp_one ss _ _ (hc _ (by omega)) r _ (by omega)
    · rw [if_neg h6] at h
      unfold qsp scp
      rw [if_neg h6, if_neg h6]
      exact qsp_two ss hc r _ (by omega)

theorem inc_get1 (cs : List Nat) : (inc cs).getD 1 0 = cs.getD 1 0 := by cases cs <;> rfl
theorem rn1_head {o : Int} {k : List Int → Option (List Nat)} (hk : ∀ L cs, k L = some cs → o ∉ L) : ∀ (L : List Int) (cs : List Nat), rn1 o k L = some cs → L.count o = cs.getD 0 0 ∧ cs ≠ []
  | [], cs, h => by
    unfold rn1 at h
    obtain ⟨c', _, rfl⟩ := Option.map_eq_some_iff.1 h
    simp
  | y :: L, cs, h => by
    unfold rn1 at h
    by_cases e : y = o
    · rw [if_pos e] at h
      obtain ⟨c', h', rfl⟩ := Option.map_eq_some_iff.1 h
      obtain ⟨i1, i2⟩ := rn1_head hk L c' h'
      subst e
      cases c' with
      | nil => exact absurd rfl i2
      | cons n c' => simp [inc] at i1 ⊢; exact i1
    · rw [if_neg e] at h
      obtain ⟨c', h', rfl⟩ := Option.map_eq_some_iff.1 h
      have := hk _ _ h'
      simp [List.count_eq_zero.2 this]
theorem rn1_next {o p : Int} {k : List Int → Option (List Nat)} (hp : p ≠ o) (hk : ∀ L cs, k L = some cs → L.count p = cs.getD 0 0) : ∀ (L : List Int) (cs : List Nat), rn1 o k L = some cs → L.count p = cs.getD 1 0
  | [], cs, h => by
    unfold rn1 at h
    obtain ⟨c', h', rfl⟩ := Option.map_eq_some_iff.1 h
    have := hk _ _ h'
    simpa using this
  | y :: L, cs, h => by
    unfold rn1 at h
    by_cases e : y = o
    · rw [if_pos e] at h
      obtain ⟨c', h', rfl⟩ := Option.map_eq_some_iff.1 h
      rw [inc_get1, ← rn1_next hp hk L c' h', List.count_cons_of_ne (by rw [e]; exact fun h => hp h.symm)]
    · rw [if_neg e] at h
      obtain ⟨c', h', rfl⟩ := Option.map_eq_some_iff.1 h
      have := hk _ _ h'
      simpa using this
/-- A query has at most two tables. -/
theorem selB_tabs {f : Fo} (h : selB f = true) : f.nTab ≤ 2 := by
  unfold selB at h
  rw [Bool.and_eq_true] at h
  obtain ⟨h, _⟩ := h
  cases hr : rn O7 (kindsF f) with
  | none => rw [hr] at h; cases h
  | some cs =>
    rw [hr] at h
    have hc : (kindsF f).count 6 = cs.getD 1 0 := rn1_next (by decide) (fun L c hL => (rn1_head (fun L' c' hL' hm => by
      have := rn_mem [7, 8, 9, 10, 11] L' c' hL' 6 hm
      simp at this) L c hL).1) (kindsF f) cs hr
    rw [Fo.nTab_count, hc]
    simp only [condS, Bool.and_eq_true, Bool.or_eq_true, beq_iff_eq] at h
    omega
theorem sqlB_tabs {x : ND} {ks : Fo} (h : sqlB x ks = true) (hk : x.k = 1) : ks.nTab ≤ 2 := by
  unfold sqlB at h
  rw [if_pos hk, Bool.and_eq_true] at h
  exact selB_tabs h.2
theorem sqlB_size {x : ND} {ks : Fo} (h : sqlB x ks = true) : ks.size ≤ 119 := by
  unfold sqlB bndB at h
  simp only [Bool.and_eq_true, decide_eq_true_eq] at h
  omega
theorem CatP.rise {ss : List TT} (h : CatP ss) : Rise (nmT ss) ss.length := fun j hj => by
  have := (h.2 (j + 1) hj).2 (by omega)
  simpa [Less] using this
theorem find_cases (f : Nat → ByteArray) (s : ByteArray) : ∀ n, findN f s n = -1 ∨ ∃ k : Nat, k < n ∧ findN f s n = k
  | 0 => .inl rfl
  | n + 1 => by
    unfold findN
    rcases find_cases f s n with h | ⟨k, hk, h⟩
    · rw [h, if_neg (by omega)]
      by_cases e : ((f n).toList == s.toList) = true
      · rw [if_pos e]; exact .inr ⟨n, by omega, rfl⟩
      · rw [if_neg e]; exact .inl rfl
    · rw [h, if_pos (by omega)]; exact .inr ⟨k, by omega, rfl⟩
theorem fnd_lt {ss : List TT} {nm : ByteArray} (h : 0 ≤ fnd ss nm) : (fnd ss nm).toNat < ss.length := by
  rcases find_cases (nmT ss) nm ss.length with h' | ⟨k, hk, h'⟩
  · have e : fnd ss nm = -1 := h'
    omega
  · have e : fnd ss nm = k := h'
    omega
theorem CatP.cols {ss : List TT} (h : CatP ss) {nm : ByteArray} (hf : 0 ≤ fnd ss nm) : 1 ≤ (colT ss nm).length ∧ (colT ss nm).length ≤ 8 := by
  obtain ⟨⟨_, h2, _, h4, h5, _⟩, _⟩ := h.2 _ (fnd_lt hf)
  exact ⟨by show 1 ≤ (nthT ss _).2.1.length; omega, h2⟩
theorem CatP.ne {ss : List TT} (h : CatP ss) (nm : ByteArray) (hf : 0 ≤ fnd ss nm) : colT ss nm ≠ [] := fun e => by
  have := (h.cols hf).1
  rw [e] at this
  simp at this
end Go.Proofs.YteejkmcljokloaaGreatDoor
namespace Go.Proofs.YteejkmcljokloaaGreatDoor
open Go.RowKit

theorem step_append_run {ops : Array Oper} {o : Oper} {a : Act} {w : World} {K : Act → World → Prop} {Q : Exit → Act → World → Prop} {E : Prop} (hgd : o.guard = none) (s x : Operand) (t tn : TypeId)
    (ho : o.op = .call { callee := .builtin .append, args := #[s, x], argTypes := #[t, tn] }) (vs vx : Value) (hs : a.eval s = vs) (hx : a.eval x = vx)
    (v' : Value) (w' : World) (hr : (Builtin.append_ #[t, tn] o.type #[vs, vx]).run Tryz.prog w = .ok v' w') (h : K (a.put o.dst v') w') :
    if Region.wanted o (yielded ops a.tmps) = true then Oper.wp Tryz.prog o a w K Q else E := by
  have hw : Region.wanted o (yielded ops a.tmps) = true := by simp [Region.wanted, hgd]
  rw [if_pos hw]
  exact Lib.wp_append_run w s x t tn ho vs vx hs hx v' w' hr h

/-- All blocks but v's own stand, and v' lies where v lay, or in new memory. -/
structure Grw (w w' : World) (v v' : Value) : Prop where
  kept : Kept (fun b => v.ownBlock = some b) w w'
  own : ∀ b, v'.ownBlock = some b → v.ownBlock = some b ∨ w.heap.size ≤ b
theorem Grw.refl (w : World) (v : Value) : Grw w w v v := ⟨Kept.refl _ _, fun _ h => .inl h⟩
theorem Grw.of_below {w w' : World} (h : Below w.heap.size w w') (v : Value) : Grw w w' v v := ⟨Kept.of_below h, fun _ h => .inl h⟩
theorem Grw.trans {w w1 w2 : World} {v v1 v2 : Value} (h : Grw w w1 v v1) (h' : Grw w1 w2 v1 v2) : Grw w w2 v v2 :=
  ⟨⟨h'.kept.os.trans h.kept.os, h'.kept.tape.trans h.kept.tape, h'.kept.output.trans h.kept.output, Nat.le_trans h.kept.size h'.kept.size, fun k hk hn => (h'.kept.block k (Nat.lt_of_lt_of_le hk h.kept.size) fun e => by
      rcases h.own k e with h1 | h1
      · exact hn h1
      · omega).trans (h.kept.block k hk hn)⟩, fun b hb => by
    rcases h'.own b hb with h1 | h1
    · exact h.own b h1
    · exact .inr (Nat.le_trans h.kept.size h1)⟩
theorem OwnF.lt {w : World} {B : Nat} {v : Value} {l : List TF} (h : OwnF w B v l) {g : Nat} (hg : v.ownBlock = some g) : B ≤ g ∧ g < w.heap.size := by
  obtain ⟨_, h2⟩ := h
  rcases h2 with ⟨rfl, _⟩ | ⟨g', cap, cur, rfl, h1, h3, _⟩
  · simp [Value.ownBlock] at hg
  · simp [Value.ownBlock] at hg
    subst hg
    exact ⟨h1, slab_lt h3⟩
theorem Grw.below {w w' : World} {B : Nat} {v v' : Value} {l : List TF} (h : Grw w w' v v') (ho : OwnF w B v l) (hB : B ≤ w.heap.size) : Below B w w' := h.kept.below hB fun _ e => (ho.lt e).1
set_option maxRecDepth 100000 in
theorem app_F2 (v : Value) (l us : List TF) (w : World) (B b off c : Nat) (h : OwnF w B v l) (hl : l.length + us.length ≤ 2097152) (hx : RowF w (some ⟨b, off, none⟩) us) (hB : B ≤ w.heap.size) :
    ∃ v' w', (Builtin.append_ #[30, 30] 30 #[v, .slice (some ⟨b, off, none⟩) us.length c]).run Tryz.prog w = .ok v' w' ∧ OwnF w' B v' (l ++ us) ∧ Grw w w' v v' := by
  obtain ⟨i0, hi, hz0, hz1, hz2⟩ := info_parts infoF
  obtain ⟨v', w', h1, h2, h3, _, h4⟩ := run_append_own_at (P := Tryz.prog) (w := w) B 30 30 70 i0 _ 3 40 Tryz.underlying30 hi hz0 hz1 hz2 rfl (by decide) v l.length (cellsF l) h ⟨b, off, none⟩ us.length c (cellsF us) (cellsF_len us) (fun j u hj => rowF_cells hx j u hj) (cellsF_one us) (by unfold maxLen; omega) (by omega)
    hB
  refine ⟨v', w', h1, by rw [← List.length_append, ← cellsF_append] at h2; exact h2, ⟨h3.os, h3.tape, h3.output, h3.size, fun k hk hn => h3.block k hk fun e => hn e.symm⟩, fun b hb => ?_⟩
  rcases h4 with h4 | h4
  · rw [h4] at hb; exact .inl hb
  · rw [h4] at hb; cases hb; exact .inr (Nat.le_refl _)
/-- One field, made for it, appended. -/
theorem push_F2 (v : Value) (l : List TF) (a b : ByteArray) (ty : Int) (w : World) (B : Nat) (h : OwnF w B v l) (hl : l.length < 2097152) (hB : B ≤ w.heap.size) :
    ∃ v' w', (Builtin.append_ #[30, 30] 30 #[v, .slice (some ⟨w.heap.size, 0, none⟩) 1 1]).run Tryz.prog (w.alloc (.cells #[.string a, .string b, .int .i64 ty] 70)) = .ok v' w' ∧ OwnF w' B v' (l ++ [(a, b, ty)]) ∧ Grw w w' v v' := by
  have b2 : Below w.heap.size w (w.alloc (.cells #[.string a, .string b, .int .i64 ty] 70)) := (Below.refl _ _).alloc (Nat.le_refl _) _
  have o2 := h.below b2
  have hh : (w.alloc (.cells #[.string a, .string b, .int .i64 ty] 70)).heap[w.heap.size]? = some (.cells #[.string a, .string b, .int .i64 ty] 70 (0, 0)) := heap_new' _ _ _ rfl
  have hr : RowF (w.alloc (.cells #[.string a, .string b, .int .i64 ty] 70)) (some ⟨w.heap.size, 0, none⟩) [(a, b, ty)] := fun i hi => by
    obtain rfl : i = 0 := by simp at hi; omega
    exact ⟨w.heap.size, 0, rfl, by simp, by rw [slab_cell hh]; rfl, by rw [slab_cell hh]; rfl, by rw [slab_cell hh]; rfl⟩
  obtain ⟨v', w', h1, h2, h3⟩ := app_F2 v l [(a, b, ty)] _ B w.heap.size 0 1 o2 (by simp; omega) hr (by simp; omega)
  exact ⟨v', w', h1, h2, (Grw.of_below b2 v).trans h3⟩
theorem colsF_take {o : ByteArray} {cs : List TC} {k : Nat} (h : k < cs.length) : colsF o (cs.take (k + 1)) = colsF o (cs.take k) ++ [(o, (nthC cs k).1, (nthC cs k).2.1)] := by
  unfold colsF nthC
  rw [List.take_add_one, List.map_append, List.getElem?_eq_getElem h, List.getD_eq_getElem?_getD, List.getElem?_eq_getElem h]
  rfl
/-- Under way: so many columns' fields were appended, and the table's box stands. -/
structure FdI (w W0 : World) (B : Nat) (v : Value) (o : Value) (out : List TF) (nm : ByteArray) (cs : List TC) (k : Nat) (wr : World) : Prop where
  own : OwnF wr B o (out ++ colsF nm (cs.take k))
  grw : Grw w wr v o
  box : wr.heap[w.heap.size]? = W0.heap[w.heap.size]?
  boxo : o.ownBlock ≠ some w.heap.size
  szw : w.heap.size < wr.heap.size

set_option maxRecDepth 100000 in
set_option maxHeartbeats 8000000 in
theorem l11Fields_any (v : Value) (out : List TF) (nm o : ByteArray) (ca : Option Addr) (cc : Nat) (cs : List TC) (key : Int) (xv : Value) (w : World) (B : Nat) (hB : B ≤ w.heap.size) (ho : OwnF w B v out) (hr : ∀ W', Below B w W' → RowC W' ca cs) (hl : out.length + cs.length ≤ 1048576) :
    Calls Tryz.prog 46 #[v, TbV nm (.slice ca cs.length cc) key xv, .string o] w fun e w' => ∃ v', e = .returned v' ∧ OwnF w' B v' (out ++ colsF o cs) ∧ Grw w w' v v' := by
  obtain ⟨W0, hW0⟩ : ∃ W0, w.alloc (.cells #[.string nm, .slice ca cs.length cc, .int .i64 key, xv] 59) = W0 := ⟨_, rfl⟩
  have B0 : Below w.heap.size w W0 := hW0 ▸ (Below.refl _ _).alloc (Nat.le_refl _) _
  have X0 : Hid (W0.heap[w.heap.size]? = some (.cells #[.string nm, .slice ca cs.length cc, .int .i64 key, xv] 59 (0, 0))) := (hW0 ▸ heap_new' _ _ _ rfl : W0.heap[w.heap.size]? = _)
  have HI0 : Hid (FdI w W0 B v v out o cs 0 W0) := (⟨by simpa [colsF] using ho.below B0, Grw.of_below B0 v, rfl, fun e => by have := (ho.lt e).2; omega, by rw [← hW0]; simp⟩ : FdI w W0 B v v out o cs 0 W0)
  have HR : Hid ((∀ W', Below B w W' → RowC W' ca cs) ∧ OwnF w B v out ∧ B ≤ w.heap.size ∧ out.length + cs.length ≤ 1048576) := ⟨hr, ho, hB, hl⟩
  have hlen : cs.length ≤ 1048576 := by omega
  clear hr ho hl hB B0
  obtain ⟨len, hL⟩ : ∃ m, cs.length = m := ⟨_, rfl⟩
  have HL : Hid (cs.length = len) := hL
  rw [hL] at X0 hW0 hlen ⊢
  clear hL
  go_enter Tryz.func46, Tryz.ntmps46
  go_wp2
  go_loopw [0, 7] (fun y i wr => ∃ (k : Nat) (u : Value), k ≤ len ∧ i = .int .i64 k ∧ u = y ∧ Hid (FdI w W0 B v u out o cs k wr)) (fun _ i _ => len - (intOf i).toNat)
  case atStart => exact ⟨0, v, by omega, rfl, rfl, HI0⟩
  case round =>
    clear HI0 hW0
    obtain ⟨k, u, hk, rfl, rfl, HS⟩ := hrel
    have x0 : wr.heap[w.heap.size]? = _ := HS.out.box.trans X0.out
    have q1 : wr.cell? ⟨w.heap.size, 1, none⟩ = some (.slice ca len cc) := slab_cell x0
    have hsw := HS.out.szw
    clear x0
    by_cases hlt : k < len
    · have hkc : k < cs.length := by rw [HL.out]; exact hlt
      have hBw : Below B w wr := HS.out.grw.below HR.out.2.1 HR.out.2.2.1
      obtain ⟨b, off, rfl, hlb, ⟨c0, c1, _⟩, _⟩ := (HR.out.1 wr hBw) k hkc
      have hltI : (k : Int) < (len : Int) := by omega
      have HN : Hid (∀ W1, Below wr.heap.size wr W1 → ∃ v' w', (Builtin.append_ #[30, 30] 30 #[u, .slice (some ⟨W1.heap.size, 0, none⟩) 1 1]).run Tryz.prog (W1.alloc (.cells #[.string o, .string (nthC cs k).1, .int .i64 (nthC cs k).2.1] 70)) = .ok v' w' ∧ FdI w W0 B v v' out o cs (k + 1) w') := fun W1 b1 => by
        have hs := HS.out
        obtain ⟨v', w', r1, r2, r3⟩ := push_F2 u _ o (nthC cs k).1 (nthC cs k).2.1 W1 B (hs.own.below b1) (by have := HR.out.2.2.2; simp [colsF]; omega) (by have := HR.out.2.2.1; have := b1.size; omega)
        refine ⟨v', w', r1, ⟨by rw [colsF_take hkc, ← List.append_assoc]; exact r2, (hs.grw.trans (Grw.of_below b1 u)).trans r3, ?_, fun e => ?_, Nat.lt_of_lt_of_le (Nat.lt_of_lt_of_le hsw b1.size) r3.kept.size⟩⟩
        · exact (r3.kept.block _ (Nat.lt_of_lt_of_le hsw b1.size) (fun e => hs.boxo e)).trans ((b1.block _ hsw).trans hs.box)
        · rcases r3.own _ e with h1 | h1
          · exact hs.boxo h1
          · have := b1.size; omega
      obtain ⟨v', w', hrun, hfin⟩ := HN.out wr.drew (Below.refl _ _).drew
      have HF : Hid (FdI w W0 B v v' out o cs (k + 1) w') := hfin
      generalize nthC cs k = x at *
      obtain ⟨xn, xt, xb⟩ := x
      simp only at c0 c1 hrun
      clear hfin HN HS hBw
      go_wp2_with fail
      go_region_law (first
        | (refine step_append_run (by rfl) _ _ _ _ (by rfl) _ _ (by rfl) (by rfl) _ _ hrun ?_)
        | fail)
      all_goals
        go_wp2
        go_roundw
        case rel => exact ⟨k + 1, _, by omega, by go_num, rfl, HF⟩
        case measure => simp [intOf]; omega
    · obtain rfl : k = len := by omega
      have hf := HS.out.own
      rw [List.take_of_length_le (by rw [HL.out]; exact Nat.le_refl _)] at hf
      have HF : Hid (OwnF wr B u (out ++ colsF o cs) ∧ Grw w wr v u) := ⟨hf, HS.out.grw⟩
      clear hf HS
      go_wp2
      go_ret
      exact ⟨_, rfl, HF.out.1, HF.out.2⟩
end Go.Proofs.YteejkmcljokloaaGreatDoor
namespace Go.Proofs.YteejkmcljokloaaGreatDoor
open Go.RowKit

/-- What tableFields answers. -/
def TfR (ss : List TT) (s o : ByteArray) (w : World) (e : Ending) (w' : World) : Prop := ∃ v, e = .returned (.tuple #[v, if fnd ss s < 0 then erV (.code 11) else .nilIface]) ∧ OwnF w' w.heap.size v (if fnd ss s < 0 then [] else colsF o (colT ss s)) ∧ Below w.heap.size w w'
set_option maxRecDepth 100000 in
set_option maxHeartbeats 8000000 in
theorem tableFields_any (a : Option Addr) (cap : Nat) (ss : List TT) (s o : ByteArray) (w : World) (h : RowTb w a ss) (hc : CatP ss) :
    Calls Tryz.prog 53 #[.slice a ss.length cap, .string s, .string o] w fun e w' => TfR ss s o w e w' := by
  have HR : Hid (RowTb w a ss ∧ CatP ss) := ⟨h, hc⟩
  have h6 := hc.1
  have hft := findTable_any a cap ss.length ss s w h rfl (by omega) hc.rise
  clear h hc
  obtain ⟨n, hn⟩ : ∃ n, ss.length = n := ⟨_, rfl⟩
  have HN : Hid (ss.length = n) := hn
  rw [hn] at hft h6 ⊢
  clear hn
  go_enter Tryz.func53, Tryz.ntmps53
  go_wp2_with fail
  refine hft.mono ?_
  rintro e w1 ⟨k, rfl, hk, b1⟩
  clear hft
  have HK : Hid (0 ≤ findN (nmT ss) s n → k = findN (nmT ss) s n) := hk
  have HB1 : Hid (Below w.heap.size w w1) := b1
  clear hk b1
  by_cases hf : 0 ≤ findN (nmT ss) s n
  · rw [decide_eq_true hf]
    have hk' := HK.out hf
    have hF : 0 ≤ fnd ss s := by show 0 ≤ findN (nmT ss) s ss.length; rw [HN.out]; exact hf
    have hkt : k = ((fnd ss s).toNat : Int) := by
      have : fnd ss s = findN (nmT ss) s n := by show findN (nmT ss) s ss.length = _; rw [HN.out]
      omega
    have hlt := fnd_lt hF
    obtain ⟨b, off, ca, cc, xa, xc, rfl, hlb, ⟨_, q1, _, _⟩, hr, _⟩ := (HR.out.1.below HB1.out) _ hlt
    have HE : Hid ((∀ W', Below w1.heap.size w1 W' → RowC W' ca (colT ss s)) ∧ ¬ fnd ss s < 0 ∧ (colT ss s).length ≤ 8) := ⟨fun W' hb => hr.below hb, by omega, (HR.out.2.cols hF).2⟩
    rw [HN.out] at hlt
    obtain ⟨p, hp⟩ : ∃ p, (fnd ss s).toNat = p := ⟨_, rfl⟩
    obtain ⟨cs, hcs⟩ : ∃ cs, colT ss s = cs := ⟨_, rfl⟩
    have HC : Hid (colT ss s = cs) := hcs
    have q1 : w1.cell? ⟨b, off + p * 4 + 1, none⟩ = some (.slice ca cs.length cc) := by
      rw [← hp, ← hcs]; exact q1
    obtain ⟨len, hL⟩ : ∃ m, cs.length = m := ⟨_, rfl⟩
    have HL : Hid (cs.length = len) := hL
    rw [hL] at q1
    rw [hcs] at HE
    have hlen : len ≤ 8 := by rw [← hL]; exact HE.out.2.2
    rw [hp] at hlt hkt
    subst hkt
    clear hL hcs hp hr hf hk' hF HK
    go_wp2
    go_loopw [10, 28] (fun y i wr => ∃ (k : Nat) (u : Value), k ≤ len ∧ i = .int .i64 k ∧ u = y ∧ Hid (OwnF wr w1.heap.size u (colsF o (cs.take k)) ∧ Below w1.heap.size w1 wr)) (fun _ i _ => len - (intOf i).toNat)
    case atStart => exact ⟨0, _, by omega, rfl, rfl, by simpa [colsF] using OwnF.nil w1 w1.heap.size, Below.refl _ _⟩
    case round =>
      obtain ⟨k, u, hk, rfl, rfl, HS⟩ := hrel
      by_cases hlt2 : k < len
      · have hkc : k < cs.length := by rw [HL.out]; exact hlt2
        obtain ⟨cb, coff, rfl, hlcb, ⟨c0, c1, c2⟩, _⟩ := (HE.out.1 wr HS.out.2) k hkc
        have hltI : (k : Int) < (len : Int) := by omega
        obtain ⟨W1, hW1⟩ : ∃ W1, wr.alloc (.cells #[.string (nthC cs k).1, .int .i64 (nthC cs k).2.1, .bool (nthC cs k).2.2] 101) = W1 := ⟨_, rfl⟩
        have b1 : Below wr.heap.size wr W1 := hW1 ▸ (Below.refl _ _).alloc (Nat.le_refl _) _
        have s1 : W1.heap.size = wr.heap.size + 1 := by rw [← hW1]; simp
        obtain ⟨v', w', r1, r2, r3⟩ := push_F2 u _ o (nthC cs k).1 (nthC cs k).2.1 W1 w1.heap.size (HS.out.1.below b1) (by simp [colsF]; omega) (by have := HS.out.2.size; omega)
        have HF : Hid (OwnF w' w1.heap.size v' (colsF o (cs.take (k + 1))) ∧ Below w1.heap.size w1 w') := by
          have g := (Grw.of_below b1 u).trans r3
          exact ⟨by rw [colsF_take hkc]; exact r2, HS.out.2.trans (g.below HS.out.1 HS.out.2.size)⟩
        rw [s1, ← hW1] at r1
        clear r2 r3 b1 s1 hW1 HS
        generalize nthC cs k = x at *
        obtain ⟨xn, xt, xb⟩ := x
        simp only at c0 c1 c2 r1
        go_wp2_with (at_builtin; refine Lib.wpList_append_run _ rfl _ _ _ _ rfl _ _ rfl rfl _ _ r1 ?_)
        go_roundw
        case rel => exact ⟨k + 1, _, by omega, by go_num, rfl, HF⟩
        case measure => simp [intOf]; omega
      · obtain rfl : k = len := by omega
        have hfin := HS.out.1
        rw [List.take_of_length_le (by rw [HL.out]; exact Nat.le_refl _)] at hfin
        have HF : Hid (OwnF wr w.heap.size u (colsF o (colT ss s)) ∧ Below w.heap.size w wr) := ⟨by rw [HC.out]; exact hfin.mono HB1.out.size, below_step HB1.out (Nat.le_refl _) HS.out.2⟩
        clear hfin HS
        go_wp2
        go_ret2
        have hng : ¬ fnd ss s < 0 := by have := HE.out.2.1; omega
        exact ⟨u, by rw [if_neg hng]; rfl, by rw [if_neg hng]; exact HF.out.1, HF.out.2⟩
  · rw [decide_eq_false hf]
    have hF : fnd ss s < 0 := by show findN (nmT ss) s ss.length < 0; rw [HN.out]; omega
    have HFF : Hid (fnd ss s < 0) := hF
    clear hF hf HK
    go_wp2
    go_ret2
    exact ⟨_, by rw [if_pos HFF.out]; rfl, by rw [if_pos HFF.out]; exact OwnF.nil _ _, HB1.out⟩
end Go.Proofs.YteejkmcljokloaaGreatDoor
namespace Go.Proofs.YteejkmcljokloaaGreatDoor
open Go.RowKit

set_option maxRecDepth 100000 in
theorem implSize_any (x : ND) (ks : Fo) (ka : Option Addr) (kc : Nat) (w : World) (hsz : ks.size ≤ 1048576) (hrow : RowT 0 w ka 0 ks) :
    Calls Tryz.prog 104 #[ValT x (.slice ka ks.len kc)] w fun e w' => e = .returned (.int .i64 ((ks.size : Int) + 1)) ∧ Below w.heap.size w w' := by
  have B0 : Below w.heap.size w (w.alloc (.cells #[.int .i64 x.k, .int .i64 x.n, .string x.nm, .string x.of, .int .i64 x.vk, .int .i64 x.vn, .string x.vt, .slice ka ks.len kc] 38)) := (Below.refl _ _).alloc (Nat.le_refl _) _
  have hc := sizeUpTo_any x ks ka kc 33554432 _ hsz (hrow.below B0) (by omega) (by omega)
  clear hrow
  go_enter Tryz.func104, Tryz.ntmps104
  go_wp2_with fail
  refine hc.mono ?_
  rintro e w1 ⟨r, rfl, r1, _, b1⟩
  have HE : Hid (r = (ks.size : Int) + 1) := r1 (by omega)
  have hr : r ≤ 1048577 := by have := HE.out; omega
  have hr0 : ¬ (33554432 < r) := by omega
  have B1 := B0.trans (b1.mono B0.size)
  clear hc b1 B0 r1 hsz
  go_wp2
  go_ret
  exact ⟨ret_int' HE.out, B1⟩
set_option maxRecDepth 100000 in
set_option maxHeartbeats 4000000 in
theorem atKid_any (x : ND) (ks : Fo) (ka : Option Addr) (kc k : Nat) (c : Int) (w : World) (hsz : ks.size ≤ 1048576) (hrow : RowT 0 w ka 0 ks) (hk : k < ks.len) (hkc : ks.len ≤ kc) :
    Calls Tryz.prog 79 #[ValT x (.slice ka ks.len kc), .int .i64 k, .iface 90 (.int .i64 c)] w fun e w' => e = .returned (.iface 95 (.agg #[.int .i64 ((ks.upTo k : Int) + 1), .iface 90 (.int .i64 c)])) ∧ Below w.heap.size w w' := by
  have HR : Hid (RowT 0 w ka 0 ks ∧ ks.size ≤ 1048576 ∧ k < ks.len) := ⟨hrow, hsz, hk⟩
  have hll := ks.len_le
  obtain ⟨len, hL⟩ : ∃ m, ks.len = m := ⟨_, rfl⟩
  have HL : Hid (ks.len = len) := hL
  rw [hL] at hk hkc hll ⊢
  have hlen : len ≤ 1048576 := by omega
  clear hrow hL hsz hll
  have B0 : Below w.heap.size w (w.alloc (.cells #[.int .i64 x.k, .int .i64 x.n, .string x.nm, .string x.of, .int .i64 x.vk, .int .i64 x.vn, .string x.vt, .slice ka len kc] 38)) := (Below.refl _ _).alloc (Nat.le_refl _) _
  have HB0 : Hid (Below w.heap.size w (w.alloc (.cells #[.int .i64 x.k, .int .i64 x.n, .string x.nm, .string x.of, .int .i64 x.vk, .int .i64 x.vn, .string x.vt, .slice ka len kc] 38))) := B0
  obtain ⟨b, off, rfl⟩ : ∃ b off, ka = some ⟨b, off, none⟩ := by
    obtain ⟨b, off, _, _, e, _⟩ := HR.out.1.at 0 (by have := HL.out; omega)
    exact ⟨b, off, e⟩
  clear B0
  go_enter Tryz.func79, Tryz.ntmps79
  go_wp2
  go_loopw [7, 15] (fun p i wr => ∃ j : Nat, j ≤ k ∧ i = .int .i64 j ∧ p = .int .i64 ((ks.upTo j : Int) + 1) ∧ Hid (Below w.heap.size w wr)) (fun _ i _ => k - (intOf i).toNat)
  case atStart => exact ⟨0, by omega, rfl, by rw [Fo.upTo_zero]; rfl, HB0⟩
  case round =>
    obtain ⟨j, hj, rfl, rfl, HW⟩ := hrel
    by_cases hlt : j < k
    · have hjf : j < ks.len := by have := HR.out.2.2; omega
      obtain ⟨b', off', ca, cc, e, _, hlb, ⟨c0, c1, c2, c3, c4, c5, c6, c7⟩, _, hkr⟩ := (HR.out.1.below HW.out).at j hjf
      cases e
      have HU : Hid (ks.upTo (j + 1) = ks.upTo j + (ks.kids j).size + 1) := ks.upTo_succ j hjf
      have hub : ks.upTo (j + 1) ≤ 1048576 := by have := ks.upTo_le (j + 1); have := HR.out.2.1; omega
      obtain ⟨W1, hW1⟩ : ∃ W1, wr.alloc (.cells #[.int .i64 (ks.node j).k, .int .i64 (ks.node j).n, .string (ks.node j).nm, .string (ks.node j).of, .int .i64 (ks.node j).vk, .int .i64 (ks.node j).vn, .string (ks.node j).vt, .slice ca (ks.kids j).len cc] 38) = W1 := ⟨_, rfl⟩
      have b1 : Below wr.heap.size wr W1 := hW1 ▸ (Below.refl _ _).alloc (Nat.le_refl _) _
      have hcall := implSize_any (ks.node j) (ks.kids j) ca cc W1 (by have := ks.kids_lt j hjf; have := HR.out.2.1; omega) (hkr.below b1)
      have HB1 : Hid (Below w.heap.size w W1) := below_step HW.out (Nat.le_refl _) b1
      rw [← hW1] at hcall
      obtain ⟨u, hu⟩ : ∃ u, ks.upTo j = u := ⟨_, rfl⟩
      have HU1 : Hid (ks.upTo j = u) := hu
      obtain ⟨z, hz⟩ : ∃ z, (ks.kids j).size = z := ⟨_, rfl⟩
      have HU2 : Hid ((ks.kids j).size = z) := hz
      rw [hu]
      have hb2 : (u : Int) + z + 1 ≤ 1048576 := by have := HU.out; rw [hu, hz] at this; omega
      rw [hz] at hcall
      have HW1 : Hid (wr.alloc (.cells #[.int .i64 (ks.node j).k, .int .i64 (ks.node j).n, .string (ks.node j).nm, .string (ks.node j).of, .int .i64 (ks.node j).vk, .int .i64 (ks.node j).vn, .string (ks.node j).vt, .slice ca (ks.kids j).len cc] 38) = W1) := hW1
      clear hu hz hub hkr hjf HW b1 hW1
      go_wp2_with fail
      refine hcall.mono ?_
      rintro e w2 ⟨rfl, b2⟩
      have HB2 : Hid (Below w.heap.size w w2) := below_step HB1.out (Nat.le_refl _) (HW1.out ▸ b2)
      clear hcall b2 HB1 HW1 c0 c1 c2 c3 c4 c5 c6 c7 hlb
      go_wp2
      go_roundw
      case rel => exact ⟨j + 1, by omega, by go_num, by rw [HU.out, HU1.out, HU2.out]; go_num, HB2⟩
      case measure => simp [intOf]; omega
    · obtain rfl : j = k := by omega
      go_wp2
      go_ret
      exact ⟨rfl, HW.out⟩
end Go.Proofs.YteejkmcljokloaaGreatDoor
namespace Go.Proofs.YteejkmcljokloaaGreatDoor
open Go.RowKit

set_option maxRecDepth 100000 in
theorem orS_any (g c : Nat) (s1 s2 : ByteArray) (w : World) (h : w.heap[g]? = some (.cells #[.string s1, .string s2] 9 (0, 0))) :
    Calls Tryz.prog 78 #[.slice (some ⟨g, 0, none⟩) 2 c] w fun e w' => e = .returned (.string (if s1.toList == [] then s2 else s1)) ∧ w' = w := by
  have c0 : w.cell? ⟨g, 0, none⟩ = some (.string s1) := slab_cell h
  have c1 : w.cell? ⟨g, 1, none⟩ = some (.string s2) := slab_cell h
  clear h
  cases e1 : (s1.toList == []) with
  | false =>
    go_enter Tryz.func78, Tryz.ntmps78
    go_wp2
    go_loop [8] (fun i => i = .int .i64 0) (fun _ => 0)
    case atStart => rfl
    case round =>
      subst hrel
      go_wp2
      go_ret
      exact ⟨by simp, rfl⟩
  | true =>
    cases e2 : (s2.toList == []) with
    | false =>
      go_enter Tryz.func78, Tryz.ntmps78
      go_wp2
      go_loop [8] (fun i => i = .int .i64 0 ∨ i = .int .i64 1) (fun i => 2 - (intOf i).toNat)
      case atStart => exact .inl rfl
      case round =>
        rcases hrel with rfl | rfl
        · go_wp2
          exact ⟨.inr rfl, by simp [intOf]⟩
        · go_wp2
          go_ret
          exact ⟨by simp, rfl⟩
    | true =>
      have hs : Hid (s2 = ⟨#[]⟩) := by
        have h : s2.toList = [] := by simpa using e2
        rw [ByteArray.toList_eq] at h
        exact ByteArray.ext (by simpa using h)
      go_enter Tryz.func78, Tryz.ntmps78
      go_wp2
      go_loop [8] (fun i => i = .int .i64 0 ∨ i = .int .i64 1 ∨ i = .int .i64 2) (fun i => 2 - (intOf i).toNat)
      case atStart => exact .inl rfl
      case round =>
        rcases hrel with rfl | rfl | rfl
        · go_wp2
          exact ⟨.inr (.inl rfl), by simp [intOf]⟩
        · go_wp2
          exact ⟨.inr (.inr rfl), by simp [intOf]⟩
        · go_wp2
          go_ret
          exact ⟨by simp [hs.out], rfl⟩
end Go.Proofs.YteejkmcljokloaaGreatDoor
namespace Go.Proofs.YteejkmcljokloaaGreatDoor
open Go.RowKit

/-- A fault that is kept back. -/
def twV : Option Int → Value
  | none => .nilIface
  | some p => .iface 95 (.agg #[.int .i64 p, .iface 90 (.int .i64 9)])
/-- The fault of an answer. -/
def erQ (r : List TF × Int × Int) : Value := if r.2.1 = 0 then .nilIface else .iface 95 (.agg #[.int .i64 r.2.2, .iface 90 (.int .i64 r.2.1)])
/-- What queryScope answers. -/
def QsR (r : List TF × Int × Int) (w : World) (e : Ending) (w' : World) : Prop := ∃ v, e = .returned (.tuple #[v, erQ r]) ∧ OwnF w' w.heap.size v r.1 ∧ Below w.heap.size w w'
/-- Under way. -/
structure QsI (w : World) (ss : List TT) (x : ND) (ks : Fo) (s : Value) (k : Nat) (v : Value) (out : List TF) (tp : Option Int) (wr : World) : Prop where
  own : OwnF wr (w.heap.size + 1) v out
  bel : Below w.heap.size w wr
  box : BoxN w.heap.size x s wr
  eq : qsp ss (ks.drop k) out tp ((ks.upTo k : Int) + 1) = qsp ss ks [] none 1
  len : out.length ≤ 8 * k
  low : tp = none ∨ ∃ p, tp = some p ∧ 0 ≤ p ∧ p ≤ 1048577
set_option maxRecDepth 100000 in
set_option maxHeartbeats 8000000 in
theorem queryScope_any (a : Option Addr) (cap : Nat) (ss : List TT) (x : ND) (ks : Fo) (ka : Option Addr) (kc : Nat) (w : World) (h : RowTb w a ss) (hc : CatP ss) (hsz : ks.size ≤ 119) (hrow : RowT 0 w ka 0 ks) (hkc : ks.len ≤ kc) :
    Calls Tryz.prog 52 #[.slice a ss.length cap, ValT x (.slice ka ks.len kc)] w fun e w' => QsR (qsp ss ks [] none 1) w e w' := by
  have HR : Hid (RowTb w a ss ∧ CatP ss ∧ RowT 0 w ka 0 ks ∧ ks.size ≤ 119) := ⟨h, hc, hrow, hsz⟩
  have hll := ks.len_le
  obtain ⟨len, hL⟩ : ∃ m, ks.len = m := ⟨_, rfl⟩
  have HL : Hid (ks.len = len) := hL
  have HKC : Hid (ks.len ≤ kc) := hkc
  rw [hL] at hkc hll ⊢
  have hlen : len ≤ 119 := by omega
  obtain ⟨n, hn⟩ : ∃ n, ss.length = n := ⟨_, rfl⟩
  have HN : Hid (ss.length = n) := hn
  rw [hn]
  have B0 : Below w.heap.size w (w.alloc (.cells #[.int .i64 x.k, .int .i64 x.n, .string x.nm, .string x.of, .int .i64 x.vk, .int .i64 x.vn, .string x.vt, .slice ka len kc] 38)) := (Below.refl _ _).alloc (Nat.le_refl _) _
  have HI0 : Hid (QsI w ss x ks (.slice ka len kc) 0 (.slice none 0 0) [] none (w.alloc (.cells #[.int .i64 x.k, .int .i64 x.n, .string x.nm, .string x.of, .int .i64 x.vk, .int .i64 x.vn, .string x.vt, .slice ka len kc] 38))) := (⟨OwnF.nil _ _, B0, BoxN.new 38, by rw [Fo.drop_zero, Fo.upTo_zero]; rfl, by simp, .inl rfl⟩ : QsI w ss x ks (.slice ka len kc) 0 (.slice none 0 0) [] none (w.alloc (.cells #[.int .i64 x.k, .int .i64 x.n, .string x.nm, .string x.of, .int .i64 x.vk, .int .i64 x.vn, .string x.vt, .slice ka len kc] 38)))
  clear h hc hrow hsz hL hll hn B0
  go_enter Tryz.func52, Tryz.ntmps52
  go_wp2
  go_loopw [6, 7, 16] (fun u tw i wr => ∃ (k : Nat) (v : Value) (out : List TF) (tp : Option Int), k ≤ len ∧ i = .int .i64 k ∧ v = u ∧ tw = twV tp ∧ Hid (QsI w ss x ks (.slice ka len kc) k v out tp wr)) (fun _ _ i _ => len - (intOf i).toNat)
  case atStart => exact ⟨0, _, [], none, by omega, rfl, rfl, rfl, HI0⟩
  case round =>
    clear HI0
    obtain ⟨k, v, out, tp, hk, rfl, rfl, rfl, HS⟩ := hrel
    by_cases hlt : k < len
    · have hkf : k < ks.len := by rw [HL.out]; exact hlt
      obtain ⟨b, off, ca, cc, rfl, _, hlb, ⟨c0, c1, c2, c3, c4, c5, c6, c7⟩, _, _⟩ := (HR.out.2.2.1.below HS.out.bel).at k hkf
      have hltI : (k : Int) < (len : Int) := by omega
      have HD := Fo.drop_at ks k hkf
      have HU := ks.upTo_succ k hkf
      have hub : ks.upTo (k + 1) ≤ 119 := by have := ks.upTo_le (k + 1); have := HR.out.2.2.2; omega
      obtain ⟨y, hy⟩ : ∃ y, ks.node k = y := ⟨_, rfl⟩
      obtain ⟨zs, hzs⟩ : ∃ zs, ks.kids k = zs := ⟨_, rfl⟩
      rw [hy, hzs] at HD
      rw [hzs] at HU
      rw [hzs] at c7
      rw [hy] at c0 c1 c2 c3 c4 c5 c6
      have HDU : Hid (ks.drop k = .cons y zs (ks.drop (k + 1)) ∧ ks.upTo (k + 1) = ks.upTo k + zs.size + 1 ∧ ks.upTo (k + 1) ≤ 119) := ⟨HD, HU, hub⟩
      clear hy hzs HD HU hub
      by_cases h6 : y.k = 6
      · obtain ⟨W2, hW2⟩ : ∃ W2, (wr.alloc (.cells #[.int .i64 6, .int .i64 y.n, .string y.nm, .string y.of, .int .i64 y.vk, .int .i64 y.vn, .string y.vt, .slice ca zs.len cc] 38)).alloc (.cells #[.string y.of, .string y.nm] 9) = W2 := ⟨_, rfl⟩
        have B2 : Below wr.heap.size wr W2 := hW2 ▸ ((Below.refl _ _).alloc (Nat.le_refl _) _).alloc (by simp) _
        have hor := orS_any (wr.heap.size + 1) 2 y.of y.nm W2 (hW2 ▸ heap_new' _ _ _ (by simp))
        have xb : W2.heap[wr.heap.size]? = some (.cells #[.int .i64 6, .int .i64 y.n, .string y.nm, .string y.of, .int .i64 y.vk, .int .i64 y.vn, .string y.vt, .slice ca zs.len cc] 38 (0, 0)) := hW2 ▸ (heap_old _ _ _ (by simp)).trans (heap_new' _ _ _ rfl)
        have HG : Hid (Below wr.heap.size wr W2 ∧ W2.cell? ⟨wr.heap.size, 2, none⟩ = some (.string y.nm)) := ⟨B2, slab_cell xb⟩
        obtain ⟨tn, htn⟩ : ∃ tn, tabNm y = tn := ⟨_, rfl⟩
        have HT : Hid (tabNm y = tn) := htn
        have hor : Calls Tryz.prog 78 #[.slice (some ⟨wr.heap.size + 1, 0, none⟩) 2 2, ] W2 fun e w' => e = .returned (.string tn) ∧ w' = W2 := htn ▸ hor
        obtain ⟨va, vc, hv, hvr⟩ := HS.out.own.row
        have hol := HS.out.len
        have hvr2 := hvr.below B2
        clear B2 xb htn hvr
        go_wp2_with fail
        refine hor.mono ?_
        rintro e w3 ⟨rfl, hw3⟩
        obtain rfl := hw3.symm
        clear hor hW2
        subst hv
        cases out with
        | nil =>
          have hhd : hdIs [] tn = false := rfl
          have q2 : W2.cell? ⟨wr.heap.size, 2, none⟩ = some (.string y.nm) := HG.out.2
          have htf := tableFields_any a cap ss y.nm (tabNm y) W2 (HR.out.1.below (below_step HS.out.bel (Nat.le_refl _) HG.out.1)) HR.out.2.1
          rw [HN.out, HT.out] at htf
          go_wp2_with fail
          refine htf.mono ?_
          rintro e w4 ⟨v4, rfl, o4, b4⟩
          clear htf q2
          have HG4 : Hid (Below wr.heap.size wr w4) := below_step HG.out.1 (Nat.le_refl _) b4
          clear b4
          by_cases hf : fnd ss y.nm < 0
          · rw [if_pos hf]
            have e11 : erV (.code 11) = .iface 90 (.int .i64 11) := rfl
            rw [e11]
            have HE2 : Hid (qsp ss ks [] none 1 = ([], 11, (ks.upTo k : Int) + 1)) := by
              show _ = _
              rw [← HS.out.eq, HDU.out.1]
              unfold qsp
              rw [if_pos h6, if_pos hf]
            have hat := atKid_any x ks (some ⟨b, off, none⟩) kc k 11 w4 (by have := HR.out.2.2.2; omega) (HR.out.2.2.1.below (below_step HS.out.bel (Nat.le_refl _) HG4.out)) (by have := HL.out; omega) HKC.out
            rw [HL.out] at hat
            obtain ⟨⟨y0, y1, y2, y3, y4, y5, y6, y7⟩, _⟩ := HS.out.box.below HG4.out
            clear o4
            go_wp2_with fail
            refine hat.mono ?_
            rintro e w5 ⟨rfl, b5⟩
            have HB5 : Hid (Below w.heap.size w w5) := below_step (below_step HS.out.bel (Nat.le_refl _) HG4.out) (Nat.le_refl _) b5
            clear hat b5 y0 y1 y2 y3 y4 y5 y6 y7
            go_wp2
            go_ret2
            rw [HE2.out]
            exact ⟨_, rfl, OwnF.nil _ _, HB5.out⟩
          · rw [if_neg hf] at o4 ⊢
            have hcl := HR.out.2.1.cols (nm := y.nm) (by omega)
            obtain ⟨fa, fc, hv4, hrow4⟩ := o4.row
            have hfl : (colsF tn (colT ss y.nm)).length = (colT ss y.nm).length := colsF_len _ _
            obtain ⟨fb, fo, hfa, _⟩ := hrow4 0 (by omega)
            subst hfa
            subst hv4
            have hs := HS.out
            have hk' := hs.len
            have hs4 : w.heap.size + 1 ≤ w4.heap.size := by have := HG4.out.size; have := hs.box.2; omega
            obtain ⟨v', w', r1, r2, r3⟩ := app_F2 _ [] (colsF tn (colT ss y.nm)) w4 (w.heap.size + 1) fb fo fc (hs.own.below HG4.out) (by omega) hrow4 hs4
            have HF : Hid (QsI w ss x ks (.slice (some ⟨b, off, none⟩) len kc) (k + 1) v' ([] ++ colsF tn (colT ss y.nm)) tp w') := by
              have ho := hs.own.below HG4.out
              have hbw : Below (w.heap.size + 1) w4 w' := r3.below ho hs4
              refine ⟨r2, (below_step hs.bel (Nat.le_refl _) HG4.out).trans (hbw.mono (by omega)), ⟨(hs.box.below HG4.out).1.same (hbw.block _ (by omega)), Nat.lt_of_lt_of_le (hs.box.below HG4.out).2 hbw.size⟩, ?_, by rw [List.length_append]; omega, hs.low⟩
              rw [← hs.eq, HDU.out.1, HDU.out.2.1]
              conv => rhs; unfold qsp
              rw [if_pos h6, if_neg hf, HT.out, hhd, if_neg (by simp)]
              congr 1
              push_cast
              omega
            clear r2 r3 hs hk' o4 hrow4 hs4
            generalize colsF tn (colT ss y.nm) = us at *
            obtain ⟨lu, hlu⟩ : ∃ lu, us.length = lu := ⟨_, rfl⟩
            rw [hlu] at r1 ⊢
            go_wp2_with (at_builtin; refine Lib.wpList_append_run _ rfl _ _ _ _ rfl _ _ rfl rfl _ _ r1 ?_)
            go_roundw
            case rel => exact ⟨k + 1, _, _, tp, by omega, by go_num, rfl, rfl, HF⟩
            case measure => simp [intOf]; omega
        | cons f fs =>
          obtain ⟨gb, go, hva, _, ⟨d0, _, _⟩⟩ := hvr2 0 (by simp)
          subst hva
          obtain ⟨m, hm⟩ : ∃ m, (f :: fs).length = m := ⟨_, rfl⟩
          have hm0 : 0 < m := by rw [← hm]; simp
          have d0 : W2.cell? ⟨gb, go, none⟩ = some (.string f.1) := by simpa [nthF] using d0
          have HM : Hid ((f :: fs).length = m) := hm
          have hm1 : m ≤ 8 * k := by omega
          clear hol hvr2
          cases hq : (f.1.toList == tn.toList) with
          | false =>
            have hhd : hdIs (f :: fs) tn = false := hq
            have hmI : (0 : Int) < (m : Int) := by omega
            rw [hm]
            clear hm
            have q2 : W2.cell? ⟨wr.heap.size, 2, none⟩ = some (.string y.nm) := HG.out.2
            have htf := tableFields_any a cap ss y.nm (tabNm y) W2 (HR.out.1.below (below_step HS.out.bel (Nat.le_refl _) HG.out.1)) HR.out.2.1
            rw [HN.out, HT.out] at htf
            go_wp2_with fail
            refine htf.mono ?_
            rintro e w4 ⟨v4, rfl, o4, b4⟩
            clear d0
            clear htf q2
            have HG4 : Hid (Below wr.heap.size wr w4) := below_step HG.out.1 (Nat.le_refl _) b4
            clear b4
            by_cases hf : fnd ss y.nm < 0
            · rw [if_pos hf]
              have e11 : erV (.code 11) = .iface 90 (.int .i64 11) := rfl
              rw [e11]
              have HE2 : Hid (qsp ss ks [] none 1 = ([], 11, (ks.upTo k : Int) + 1)) := by
                show _ = _
                rw [← HS.out.eq, HDU.out.1]
                unfold qsp
                rw [if_pos h6, if_pos hf]
              have hat := atKid_any x ks (some ⟨b, off, none⟩) kc k 11 w4 (by have := HR.out.2.2.2; omega) (HR.out.2.2.1.below (below_step HS.out.bel (Nat.le_refl _) HG4.out)) (by have := HL.out; omega) HKC.out
              rw [HL.out] at hat
              obtain ⟨⟨y0, y1, y2, y3, y4, y5, y6, y7⟩, _⟩ := HS.out.box.below HG4.out
              clear o4
              go_wp2_with fail
              refine hat.mono ?_
              rintro e w5 ⟨rfl, b5⟩
              have HB5 : Hid (Below w.heap.size w w5) := below_step (below_step HS.out.bel (Nat.le_refl _) HG4.out) (Nat.le_refl _) b5
              clear hat b5 y0 y1 y2 y3 y4 y5 y6 y7
              go_wp2
              go_ret2
              rw [HE2.out]
              exact ⟨_, rfl, OwnF.nil _ _, HB5.out⟩
            · rw [if_neg hf] at o4 ⊢
              have hcl := HR.out.2.1.cols (nm := y.nm) (by omega)
              obtain ⟨fa, fc, hv4, hrow4⟩ := o4.row
              have hfl : (colsF tn (colT ss y.nm)).length = (colT ss y.nm).length := colsF_len _ _
              obtain ⟨fb, fo, hfa, _⟩ := hrow4 0 (by omega)
              subst hfa
              subst hv4
              have hs := HS.out
              have hk' := hs.len
              have hs4 : w.heap.size + 1 ≤ w4.heap.size := by have := HG4.out.size; have := hs.box.2; omega
              obtain ⟨v', w', r1, r2, r3⟩ := app_F2 _ (f :: fs) (colsF tn (colT ss y.nm)) w4 (w.heap.size + 1) fb fo fc (hs.own.below HG4.out) (by omega) hrow4 hs4
              have HF : Hid (QsI w ss x ks (.slice (some ⟨b, off, none⟩) len kc) (k + 1) v' ((f :: fs) ++ colsF tn (colT ss y.nm)) tp w') := by
                have ho := hs.own.below HG4.out
                have hbw : Below (w.heap.size + 1) w4 w' := r3.below ho hs4
                refine ⟨r2, (below_step hs.bel (Nat.le_refl _) HG4.out).trans (hbw.mono (by omega)), ⟨(hs.box.below HG4.out).1.same (hbw.block _ (by omega)), Nat.lt_of_lt_of_le (hs.box.below HG4.out).2 hbw.size⟩, ?_, by have := HM.out; rw [List.length_append]; omega, hs.low⟩
                rw [← hs.eq, HDU.out.1, HDU.out.2.1]
                conv => rhs; unfold qsp
                rw [if_pos h6, if_neg hf, HT.out, hhd, if_neg (by simp)]
                congr 1
                push_cast
                omega
              clear r2 r3 hs hk' o4 hrow4 hs4
              generalize colsF tn (colT ss y.nm) = us at *
              obtain ⟨lu, hlu⟩ : ∃ lu, us.length = lu := ⟨_, rfl⟩
              rw [hlu, HM.out] at r1
              rw [hlu]
              go_wp2_with (at_builtin; refine Lib.wpList_append_run _ rfl _ _ _ _ rfl _ _ rfl rfl _ _ r1 ?_)
              go_roundw
              case rel => exact ⟨k + 1, _, _, tp, by omega, by go_num, rfl, rfl, HF⟩
              case measure => simp [intOf]; omega
          | true =>
            have hhd : hdIs (f :: fs) tn = true := hq
            have hmI : (0 : Int) < (m : Int) := by omega
            rw [hm]
            clear hm
            have hat9 := atKid_any x ks (some ⟨b, off, none⟩) kc k 9 W2 (by have := HR.out.2.2.2; omega) (HR.out.2.2.1.below (below_step HS.out.bel (Nat.le_refl _) HG.out.1)) (by have := HL.out; omega) HKC.out
            rw [HL.out] at hat9
            obtain ⟨⟨y0, y1, y2, y3, y4, y5, y6, y7⟩, _⟩ := HS.out.box.below HG.out.1
            have hwl : wr.heap.size < W2.heap.size := World.block_lt_of_cell? W2 ⟨wr.heap.size, 2, none⟩ HG.out.2
            go_wp2_with fail
            refine hat9.mono ?_
            rintro e w5 ⟨rfl, b5⟩
            have HG5 : Hid (Below wr.heap.size wr w5 ∧ w5.cell? ⟨wr.heap.size, 2, none⟩ = some (.string y.nm)) := ⟨below_step HG.out.1 (Nat.le_refl _) b5, (b5.cell (p := ⟨wr.heap.size, 2, none⟩) hwl).trans HG.out.2⟩
            clear hat9 b5 y0 y1 y2 y3 y4 y5 y6 y7 d0 HG hwl
            have HG := HG5
            clear HG5
            have q2 : w5.cell? ⟨wr.heap.size, 2, none⟩ = some (.string y.nm) := HG.out.2
            have htf := tableFields_any a cap ss y.nm (tabNm y) w5 (HR.out.1.below (below_step HS.out.bel (Nat.le_refl _) HG.out.1)) HR.out.2.1
            rw [HN.out, HT.out] at htf
            go_wp2_with fail
            refine htf.mono ?_
            rintro e w4 ⟨v4, rfl, o4, b4⟩
            clear htf q2
            have HG4 : Hid (Below wr.heap.size wr w4) := below_step HG.out.1 (Nat.le_refl _) b4
            clear b4
            by_cases hf : fnd ss y.nm < 0
            · rw [if_pos hf]
              have e11 : erV (.code 11) = .iface 90 (.int .i64 11) := rfl
              rw [e11]
              have HE2 : Hid (qsp ss ks [] none 1 = ([], 11, (ks.upTo k : Int) + 1)) := by
                show _ = _
                rw [← HS.out.eq, HDU.out.1]
                unfold qsp
                rw [if_pos h6, if_pos hf]
              have hat := atKid_any x ks (some ⟨b, off, none⟩) kc k 11 w4 (by have := HR.out.2.2.2; omega) (HR.out.2.2.1.below (below_step HS.out.bel (Nat.le_refl _) HG4.out)) (by have := HL.out; omega) HKC.out
              rw [HL.out] at hat
              obtain ⟨⟨y0, y1, y2, y3, y4, y5, y6, y7⟩, _⟩ := HS.out.box.below HG4.out
              clear o4
              go_wp2_with fail
              refine hat.mono ?_
              rintro e w6 ⟨rfl, b5⟩
              have HB5 : Hid (Below w.heap.size w w6) := below_step (below_step HS.out.bel (Nat.le_refl _) HG4.out) (Nat.le_refl _) b5
              clear hat b5 y0 y1 y2 y3 y4 y5 y6 y7
              go_wp2
              go_ret2
              rw [HE2.out]
              exact ⟨_, rfl, OwnF.nil _ _, HB5.out⟩
            · rw [if_neg hf] at o4 ⊢
              have hcl := HR.out.2.1.cols (nm := y.nm) (by omega)
              obtain ⟨fa, fc, hv4, hrow4⟩ := o4.row
              have hfl : (colsF tn (colT ss y.nm)).length = (colT ss y.nm).length := colsF_len _ _
              obtain ⟨fb, fo, hfa, _⟩ := hrow4 0 (by omega)
              subst hfa
              subst hv4
              have hs := HS.out
              have hk' := hs.len
              have hs4 : w.heap.size + 1 ≤ w4.heap.size := by have := HG4.out.size; have := hs.box.2; omega
              obtain ⟨v', w', r1, r2, r3⟩ := app_F2 _ (f :: fs) (colsF tn (colT ss y.nm)) w4 (w.heap.size + 1) fb fo fc (hs.own.below HG4.out) (by omega) hrow4 hs4
              have HF : Hid (QsI w ss x ks (.slice (some ⟨b, off, none⟩) len kc) (k + 1) v' ((f :: fs) ++ colsF tn (colT ss y.nm)) (some ((ks.upTo k : Int) + 1)) w') := by
                have ho := hs.own.below HG4.out
                have hbw : Below (w.heap.size + 1) w4 w' := r3.below ho hs4
                refine ⟨r2, (below_step hs.bel (Nat.le_refl _) HG4.out).trans (hbw.mono (by omega)), ⟨(hs.box.below HG4.out).1.same (hbw.block _ (by omega)), Nat.lt_of_lt_of_le (hs.box.below HG4.out).2 hbw.size⟩, ?_, by have := HM.out; rw [List.length_append]; omega, .inr ⟨_, rfl, by omega, by have := ks.upTo_le k; have := HR.out.2.2.2; omega⟩⟩
                rw [← hs.eq, HDU.out.1, HDU.out.2.1]
                conv => rhs; unfold qsp
                rw [if_pos h6, if_neg hf, HT.out, hhd, if_pos rfl]
                congr 1
                push_cast
                omega
              clear r2 r3 hs hk' o4 hrow4 hs4
              generalize colsF tn (colT ss y.nm) = us at *
              obtain ⟨lu, hlu⟩ : ∃ lu, us.length = lu := ⟨_, rfl⟩
              rw [hlu, HM.out] at r1
              rw [hlu]
              go_wp2_with (at_builtin; refine Lib.wpList_append_run _ rfl _ _ _ _ rfl _ _ rfl rfl _ _ r1 ?_)
              go_roundw
              case rel => exact ⟨k + 1, _, _, (some ((ks.upTo k : Int) + 1)), by omega, by go_num, rfl, rfl, HF⟩
              case measure => simp [intOf]; omega
      · have HF : Hid (QsI w ss x ks (.slice (some ⟨b, off, none⟩) len kc) (k + 1) v out tp (wr.alloc (.cells #[.int .i64 y.k, .int .i64 y.n, .string y.nm, .string y.of, .int .i64 y.vk, .int .i64 y.vn, .string y.vt, .slice ca zs.len cc] 38))) := by
          have hs := HS.out
          have b1 : Below wr.heap.size wr (wr.alloc (.cells #[.int .i64 y.k, .int .i64 y.n, .string y.nm, .string y.of, .int .i64 y.vk, .int .i64 y.vn, .string y.vt, .slice ca zs.len cc] 38)) := (Below.refl _ _).alloc (Nat.le_refl _) _
          refine ⟨hs.own.below b1, below_step hs.bel (Nat.le_refl _) b1, hs.box.below b1, ?_, by have := hs.len; omega, hs.low⟩
          rw [← hs.eq, HDU.out.1, HDU.out.2.1]
          conv => rhs; unfold qsp
          rw [if_neg h6]
          congr 1
          push_cast
          omega
        clear HS
        go_wp2
        go_roundw
        case rel => exact ⟨k + 1, _, _, _, by omega, by go_num, rfl, rfl, HF⟩
        case measure => simp [intOf]; omega
    · obtain rfl : k = len := by omega
      have he := HS.out.eq
      rw [show ks.drop k = .nil by rw [← HL.out]; exact Fo.drop_len ks] at he
      have HO : Hid (OwnF wr w.heap.size v out ∧ Below w.heap.size w wr) := ⟨HS.out.own.mono (by omega), HS.out.bel⟩
      clear HS
      cases tp with
      | none =>
        have HE2 : Hid (qsp ss ks [] none 1 = (out, 0, 0)) := he.symm
        have e0 : twV none = .nilIface := rfl
        rw [e0]
        clear he
        go_wp2
        go_ret2
        rw [HE2.out]
        exact ⟨_, rfl, HO.out.1, HO.out.2⟩
      | some p =>
        have HE2 : Hid (qsp ss ks [] none 1 = ([], 9, p)) := he.symm
        have e0 : twV (some p) = .iface 95 (.agg #[.int .i64 p, .iface 90 (.int .i64 9)]) := rfl
        rw [e0]
        clear he
        go_wp2
        go_ret2
        rw [HE2.out]
        exact ⟨_, rfl, OwnF.nil _ _, HO.out.2⟩
end Go.Proofs.YteejkmcljokloaaGreatDoor
