/- Sets of pages: a map that is filled with what is of Now and what is held (stage 4). -/
import Derived.Test.YtaklphoplfofbaaListC
import Derived.Maps.OwnSet
import Derived.Maps.OwnOps
namespace Go.Proofs.Ytaklphoplfofbaa
open Go.RowKit Go.Maps Go.WideShapes Go.ChangeMaps Go.MapKept

theorem law3 : Keyed Try.prog 3 := int_keyed Try.underlying3
theorem zero3 (w : World) : (zeroValue 3).run Try.prog w = .ok (.int .i64 0) w := by kernel_rfl
/-- What a set of pages reads as. -/
abbrev DU : Type := DataW Unit
def putE (D : DU) (x : P2) : DU := D.put (.int .i64 x.1) (.lit (.int .i64 x.2))
def dOf (kv : List P2) : DU := kv.foldl putE (.map [])
theorem dOf_snoc (kv : List P2) (x : P2) : dOf (kv ++ [x]) = putE (dOf kv) x := by simp [dOf]
abbrev MapOf (w : World) (m n : Nat) (D : DU) : Prop := w.ownsMap Try.prog 3 (plainElem Try.prog 3) m n D

/-- A number that a machine's integer holds. -/
def InR (x : Int) : Prop := -9223372036854775808 ≤ x ∧ x ≤ 9223372036854775807
theorem InR.wf {x : Int} (h : InR x) : (Lit.int .i64 x).wf = true := WalkArith.wf_i64 (by unfold InR at h; omega)
theorem InR.key {x : Int} (h : InR x) : keyOf Try.prog 3 (.int .i64 x) = some (.int .i64 x) := keyOf_int_mk Try.underlying3 h.wf
theorem InR.val {x : Int} (h : InR x) : plainElem (H := Unit) Try.prog 3 (.int .i64 x) = some (.lit (.int .i64 x), []) := plainElem_int Try.underlying3 h.wf

theorem map_clear {w : World} {m n : Nat} {D : DU} (h : MapOf w m n D) (ty : TypeId) :
    ∃ w', (Builtin.clear_ #[75] ty #[.map (some m)]).run Try.prog w = .ok (.tuple #[]) w' ∧ MapOf w' m 0 (.map []) ∧ w.grownBy w' (some m) := by
  obtain ⟨es, clock, hb, F, hs, rfl⟩ := h
  refine ⟨setBlock w m (.map #[] clock), ?_, ⟨#[], clock, heap_setBlock_same hb _, ⟨by simp, stamped_empty clock, by simp⟩, Nat.le_refl _, rfl⟩, ⟨rfl, rfl, rfl, by simp [setBlock], fun i _ hi => heap_setBlock_other hb _ (fun e => hi (by rw [e]))⟩⟩
  simp [Builtin.clear_, run_underlying Try.underlying75, MapKept.run_getObj_map hb, MapKept.run_setObj_map _ hb, Result.andThen, setBlock]

theorem wpList_clear {w : World} {ops : Array Oper} {rest : List Oper} {o : Oper} {a : Act} {Q : Exit → Act → World → Prop} (hg : o.guard = none) (m : Operand) (hop : o.op = Op.call { callee := Callee.builtin Builtin.clear, args := #[m], argTypes := #[75] })
    (b n : Nat) (D : DU) (hm : a.eval m = .map (some b)) (hown : MapOf w b n D)
    (hK : ∀ w', MapOf w' b 0 (.map []) → w.grownBy w' (some b) → wpList Try.prog ops Q rest (a.put o.dst (.tuple #[])) w') :
    wpList Try.prog ops Q (o :: rest) a w := by
  refine wpList_plain hg fun K' hK' => ?_
  obtain ⟨w', hrun, r1, r2⟩ := map_clear hown o.type
  unfold Oper.wp
  simp [execOp, hop, resolve, invoke, builtin, hm, hrun, Result.andThen]
  exact hK' _ _ (hK w' r1 r2)

/-- A row of cells lies in no map's block. -/
theorem cell_not_map {w : World} {m n b o : Nat} {D : DU} {v : Value} (h : MapOf w m n D) (hc : w.cell? ⟨b, o, none⟩ = some v) : b ≠ m := by
  rintro rfl
  obtain ⟨es, clock, hb, _⟩ := h
  simp [World.cell?, hb] at hc
theorem cell_grown {w w' : World} {m b o : Nat} {v : Value} (hg : w.grownBy w' (some m)) (hlt : b < w.heap.size) (hne : b ≠ m) (hc : w.cell? ⟨b, o, none⟩ = some v) : w'.cell? ⟨b, o, none⟩ = some v :=
  (World.cell?_of_block (a := ⟨b, o, none⟩) (hg.block b hlt (by simpa using hne))).trans hc
theorem RowI.grown {w w' : World} {a : Option Addr} {ss : List Int} {m n : Nat} {D : DU} (h : RowI w a ss) (hm : MapOf w m n D) (hg : w.grownBy w' (some m)) : RowI w' a ss := fun i hi => by
  obtain ⟨b, off, e, hlt, hc⟩ := h i hi
  exact ⟨b, off, e, Nat.lt_of_lt_of_le hlt hg.size, cell_grown hg hlt (cell_not_map hm hc) hc⟩
theorem RowP.grown {w w' : World} {a : Option Addr} {ps : List P2} {m n : Nat} {D : DU} (h : RowP w a ps) (hm : MapOf w m n D) (hg : w.grownBy w' (some m)) : RowP w' a ps := fun i hi => by
  obtain ⟨b, off, e, hlt, hc⟩ := h i hi
  exact ⟨b, off, e, Nat.lt_of_lt_of_le hlt hg.size, cell_grown hg hlt (cell_not_map hm hc.1) hc.1, cell_grown hg hlt (cell_not_map hm hc.1) hc.2⟩
theorem BoxS.grown {w w' : World} {b : Nat} {t e : Int} {n h p : Value} {m k : Nat} {D : DU} (x : BoxS b t e n h p w) (hm : MapOf w m k D) (hg : w.grownBy w' (some m)) : BoxS b t e n h p w' := by
  obtain ⟨x0, x1, x2, x3, x4, x5⟩ := x
  have hne := cell_not_map hm x0
  exact ⟨cell_grown hg x5 hne x0, cell_grown hg x5 hne x1, cell_grown hg x5 hne x2, cell_grown hg x5 hne x3, cell_grown hg x5 hne x4, Nat.lt_of_lt_of_le x5 hg.size⟩
theorem grown_trans {w w1 w2 : World} {r : Option Nat} (h : w.grownBy w1 r) (h' : w1.grownBy w2 r) : w.grownBy w2 r :=
  ⟨h'.os.trans h.os, h'.tape.trans h.tape, h'.output.trans h.output, Nat.le_trans h.size h'.size, fun k hk hne => (h'.block k (Nat.lt_of_lt_of_le hk h.size) hne).trans (h.block k hk hne)⟩

/-- What the set has when it was filled from a space. -/
def kvOf (e : Int) (ss : List Int) (ps : List P2) : List P2 := ss.map (fun x => (x, e)) ++ ps
theorem kv_now (e : Int) (ss : List Int) (k : Nat) (h : k < ss.length) : kvOf e (ss.take (k + 1)) [] = kvOf e (ss.take k) [] ++ [(nthI ss k, e)] := by
  unfold kvOf nthI
  rw [List.take_succ_eq_append_getElem h, List.getD_eq_getElem?_getD, List.getElem?_eq_getElem h, List.map_append]
  simp only [List.append_nil]
  rfl
theorem kv_held (e : Int) (ss : List Int) (ps : List P2) (k : Nat) (h : k < ps.length) : kvOf e ss (ps.take (k + 1)) = kvOf e ss (ps.take k) ++ [nthP ps k] := by
  unfold kvOf nthP
  rw [List.take_succ_eq_append_getElem h, List.getD_eq_getElem?_getD, List.getElem?_eq_getElem h]
  simp

set_option maxRecDepth 100000 in
set_option maxHeartbeats 4000000 in
theorem fill_any (m n : Nat) (D : DU) (t e : Int) (a1 a2 : Option Addr) (c1 c2 : Nat) (p : Value) (ss : List Int) (ps : List P2) (w : World) (hm : MapOf w m n D) (h1 : RowI w a1 ss) (h2 : RowP w a2 ps) (l1 : ss.length ≤ 1048576) (l2 : ps.length ≤ 1048576)
    (re : InR e) (r1 : ∀ i, i < ss.length → InR (nthI ss i)) (r2 : ∀ i, i < ps.length → InR (nthP ps i).1 ∧ InR (nthP ps i).2) :
    Calls Try.prog 49 #[.map (some m), SV t e (.slice a1 ss.length c1) (.slice a2 ps.length c2) p] w fun r w' => r = .returned (.tuple #[]) ∧ MapOf w' m (ss.length + ps.length) (dOf (kvOf e ss ps)) ∧ w.grownBy w' (some m) := by
  have H1 : Hid (RowI w a1 ss) := h1
  have H2 : Hid (RowP w a2 ps) := h2
  have HM : Hid (MapOf w m n D) := hm
  have R1 : Hid (∀ i, i < ss.length → InR (nthI ss i)) := r1
  have R2 : Hid (∀ i, i < ps.length → InR (nthP ps i).1 ∧ InR (nthP ps i).2) := r2
  have RE : Hid (InR e) := re
  clear h1 h2 hm r1 r2 re
  obtain ⟨x, hx⟩ : ∃ x, ss.length = x := ⟨_, rfl⟩
  obtain ⟨y, hy⟩ : ∃ y, ps.length = y := ⟨_, rfl⟩
  have HX : Hid (ss.length = x) := hx
  have HY : Hid (ps.length = y) := hy
  rw [hx] at l1 ⊢
  rw [hy] at l2 ⊢
  clear hx hy
  have hb0 : BoxS w.heap.size t e (.slice a1 x c1) (.slice a2 y c2) p (w.alloc (SC t e (.slice a1 x c1) (.slice a2 y c2) p 29)) := BoxS.new 29
  have hm0 : MapOf (w.alloc (SC t e (.slice a1 x c1) (.slice a2 y c2) p 29)) m n D := HM.out.alloc _
  have A0 : w.grownBy (w.alloc (SC t e (.slice a1 x c1) (.slice a2 y c2) p 29)) (some m) := World.grownBy_alloc _ _ _
  have B0 : Below w.heap.size w (w.alloc (SC t e (.slice a1 x c1) (.slice a2 y c2) p 29)) := (Below.refl _ _).alloc (Nat.le_refl _) _
  have I0 : RowI (w.alloc (SC t e (.slice a1 x c1) (.slice a2 y c2) p 29)) a1 ss := H1.out.below B0
  have P0 : RowP (w.alloc (SC t e (.slice a1 x c1) (.slice a2 y c2) p 29)) a2 ps := H2.out.below B0
  obtain ⟨w1, hrun, hm1, g1⟩ := map_clear hm0 0
  have hrun' : (Builtin.clear_ #[75] 0 #[.map (some m)]).run Try.prog (w.alloc (.cells #[.int .i64 t, .int .i64 e, .slice a1 x c1, .slice a2 y c2, p] 29)) = .ok (.tuple #[]) w1 := hrun
  have X1 := hb0.grown hm0 g1
  have I1 : Hid (RowI w1 a1 ss) := I0.grown hm0 g1
  have P1 : Hid (RowP w1 a2 ps) := P0.grown hm0 g1
  have G1 : Hid (w.grownBy w1 (some m)) := grown_trans A0 g1
  have M1 : Hid (MapOf w1 m 0 (.map [])) := hm1
  have Y1 : Hid (BoxS w.heap.size t e (.slice a1 x c1) (.slice a2 y c2) p w1) := X1
  clear hb0 hm0 A0 B0 I0 P0 g1 hrun hm1
  obtain ⟨x0, x1, x2, x3, x4, x5⟩ := X1
  go_enter Try.func49, Try.ntmps49
  go_wp2
  clear x0 x1 x2 x3 x4 x5
  go_loopw [12] (fun i wr => ∃ k : Nat, k ≤ x ∧ i = .int .i64 k ∧ MapOf wr m k (dOf (kvOf e (ss.take k) [])) ∧ w1.grownBy wr (some m)) (fun i _ => x - (intOf i).toNat)
  case atStart => exact ⟨0, by omega, rfl, M1.out, ⟨rfl, rfl, rfl, Nat.le_refl _, fun _ _ _ => rfl⟩⟩
  case round =>
    obtain ⟨k, hk, rfl, hmk, hgk⟩ := hrel
    have hY := Y1.out.grown M1.out hgk
    by_cases hlt : k < x
    · obtain ⟨b, off, rfl, hlb, hc⟩ := (I1.out.grown M1.out hgk) k (by rw [HX.out]; exact hlt)
      have hr := R1.out k (by rw [HX.out]; exact hlt)
      have hkey := hr.key
      have hval := RE.out.val
      have hkv := kv_now e ss k (by rw [HX.out]; exact hlt)
      obtain ⟨y0, y1, y2, y3, y4, y5⟩ := hY
      clear hrun'
      go_wp2_with (at_mapUpdate; refine wpList_mapUpdate_own _ rfl _ _ _ 75 rfl 3 3 law3 Try.underlying75 (plainElem (H := Unit) Try.prog 3) m k _ rfl hmk (by unfold maxLen; omega) _ _ _ rfl rfl hkey _ [] hval ?_)
      intro w2 hm2 g2
      go_wp2
      go_roundw
      case rel => exact ⟨k + 1, by omega, by go_num, by rw [hkv, dOf_snoc]; exact hm2, grown_trans hgk g2⟩
      case measure => simp [intOf]; omega
    · obtain rfl : k = x := by omega
      have e0 : ss.take k = ss := List.take_of_length_le (by rw [HX.out]; exact Nat.le_refl _)
      rw [e0] at hmk
      have M2 : Hid (MapOf wr m k (dOf (kvOf e ss []))) := hmk
      have G2 : Hid (w1.grownBy wr (some m)) := hgk
      have Y2 : Hid (BoxS w.heap.size t e (.slice a1 k c1) (.slice a2 y c2) p wr) := hY
      have P2' : Hid (RowP wr a2 ps) := P1.out.grown M1.out hgk
      obtain ⟨y0, y1, y2, y3, y4, y5⟩ := hY
      clear hrun' e0 hmk hgk
      go_wp2
      clear y0 y1 y2 y3 y4 y5
      go_loopw [7, 24] (fun _ i wq => ∃ j : Nat, j ≤ y ∧ i = .int .i64 j ∧ MapOf wq m (k + j) (dOf (kvOf e ss (ps.take j))) ∧ wr.grownBy wq (some m)) (fun _ i _ => y - (intOf i).toNat)
      case atStart => exact ⟨0, by omega, rfl, M2.out, ⟨rfl, rfl, rfl, Nat.le_refl _, fun _ _ _ => rfl⟩⟩
      case round =>
        obtain ⟨j, hj, rfl, hmj, hgj⟩ := hrel
        have hY := Y2.out.grown M2.out hgj
        by_cases hlt2 : j < y
        · obtain ⟨b, off, rfl, hlb, hc0, hc1⟩ := (P2'.out.grown M2.out hgj) j (by rw [HY.out]; exact hlt2)
          obtain ⟨ra, rb⟩ := R2.out j (by rw [HY.out]; exact hlt2)
          have hkey := ra.key
          have hval := rb.val
          have hkv := kv_held e ss ps j (by rw [HY.out]; exact hlt2)
          generalize nthP ps j = q at *
          obtain ⟨qa, qb⟩ := q
          obtain ⟨y0, y1, y2, y3, y4, y5⟩ := hY
          have hma := hmj.alloc (.cells #[.int .i64 qa, .int .i64 qb] 88)
          go_wp2_with (at_mapUpdate; refine wpList_mapUpdate_own _ rfl _ _ _ 75 rfl 3 3 law3 Try.underlying75 (plainElem (H := Unit) Try.prog 3) m (k + j) _ rfl hma (by unfold maxLen; omega) _ _ _ rfl rfl hkey _ [] hval ?_)
          intro w2 hm2 g2
          go_wp2
          go_roundw
          case rel => exact ⟨j + 1, by omega, by go_num, by rw [hkv, dOf_snoc]; exact hm2, grown_trans hgj (grown_trans (World.grownBy_alloc _ _ _) g2)⟩
          case measure => simp [intOf]; omega
        · obtain rfl : j = y := by omega
          have e0 : ps.take j = ps := List.take_of_length_le (by rw [HY.out]; exact Nat.le_refl _)
          rw [e0] at hmj
          go_wp2
          exact bodyPost_end (v := .tuple #[]) (by simp [results, Try.results49, go_sem]) rfl ⟨rfl, hmj, grown_trans G1.out (grown_trans G2.out hgj)⟩
end Go.Proofs.Ytaklphoplfofbaa
