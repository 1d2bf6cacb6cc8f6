/- Products of rows: what the specification answers (stage 13). -/
import Derived.Test.YtmcjgncpblbhpaaPrC
namespace Go.Proofs.Ytmcjgncpblbhpaa
open Go.RowKit

/-- A row of at most so many right values. -/
def rowB (wd : Nat) (vs : List V3) : Bool := decide (vs.length ≤ wd) && vs.all okV3
/-- Rows that are right. -/
def okRs (wd : Nat) (rs : Rs) : Bool := rs.all (rowB wd) && decide (rs.length ≤ 400)
theorem okRs_bad {wd : Nat} {rs : Rs} {k : Nat} (hk : k < rs.length) (h : rowB wd (nthR rs k) = false) : okRs wd rs = false := by
  unfold okRs
  have : rs.all (rowB wd) = false := by
    rw [List.all_eq_false]
    exact ⟨rs[k], List.getElem_mem hk, by rw [← nthR_get hk]; simp [h]⟩
  rw [this]; rfl
theorem okRs_good {wd : Nat} {rs : Rs} (h : ∀ j, j < rs.length → rowB wd (nthR rs j) = true) : okRs wd rs = decide (rs.length ≤ 400) := by
  unfold okRs
  have : rs.all (rowB wd) = true := by
    rw [List.all_eq_true]
    intro x hx
    obtain ⟨i, hi, rfl⟩ := List.getElem_of_mem hx
    rw [← nthR_get hi]; exact h i hi
  rw [this]; simp
theorem okRs_small {wd : Nat} {rs : Rs} (h : okRs wd rs = true) : rs.length ≤ 400 ∧ ∀ i, i < rs.length → (nthR rs i).length ≤ wd := by
  unfold okRs at h
  simp only [Bool.and_eq_true, decide_eq_true_eq, List.all_eq_true] at h
  refine ⟨h.2, fun i hi => ?_⟩
  have := h.1 rs[i] (List.getElem_mem hi)
  rw [← nthR_get hi] at this
  unfold rowB at this
  simp only [Bool.and_eq_true, decide_eq_true_eq] at this
  exact this.1
theorem rowB_long {wd : Nat} {vs : List V3} (h : wd < vs.length) : rowB wd vs = false := by
  unfold rowB
  have : decide (vs.length ≤ wd) = false := by simp; omega
  rw [this]; rfl
theorem rowB_bad {wd : Nat} {vs : List V3} {k : Nat} (hk : k < vs.length) (h : okV3 (nthV vs k) = false) : rowB wd vs = false := by
  unfold rowB
  have : vs.all okV3 = false := by
    rw [List.all_eq_false]
    refine ⟨vs[k], List.getElem_mem hk, ?_⟩
    unfold nthV at h
    rw [List.getD_eq_getElem?_getD, List.getElem?_eq_getElem hk] at h
    simpa using h
  rw [this]; simp
theorem rowB_good {wd : Nat} {vs : List V3} (h8 : vs.length ≤ wd) (h : ∀ j, j < vs.length → okV3 (nthV vs j) = true) : rowB wd vs = true := by
  unfold rowB
  simp only [Bool.and_eq_true, decide_eq_true_eq, List.all_eq_true]
  refine ⟨h8, fun x hx => ?_⟩
  obtain ⟨i, hi, rfl⟩ := List.getElem_of_mem hx
  have := h i hi
  unfold nthV at this
  rwa [List.getD_eq_getElem?_getD, List.getElem?_eq_getElem hi] at this

set_option maxRecDepth 100000 in
set_option maxHeartbeats 4000000 in
theorem l13Rows_any (wd : Nat) (a : Option Addr) (cap : Nat) (rs : Rs) (w : World) (hrow : RowR w a rs) (hsm : SmallR rs) (hwd : wd ≤ 4096) :
    Calls Try.prog 49 #[.slice a rs.length cap, .int .i64 wd] w fun e w' => e = .returned (.bool (okRs wd rs)) ∧ Below w.heap.size w w' := by
  have HR : Hid (RowR w a rs) := hrow
  have HM : Hid (∀ i, i < rs.length → (nthR rs i).length ≤ 1048576) := hsm.2
  have hlen := hsm.1
  clear hrow hsm
  obtain ⟨len, hL⟩ : ∃ m, rs.length = m := ⟨_, rfl⟩
  have HL : Hid (rs.length = len) := hL
  rw [hL] at hlen ⊢
  clear hL
  go_enter Try.func49, Try.ntmps49
  go_wp2
  go_loopw [5] (fun i wr => ∃ k : Nat, k ≤ len ∧ i = .int .i64 k ∧ Hid (∀ j, j < k → rowB wd (nthR rs j) = true) ∧ Below w.heap.size w wr) (fun i _ => len - (intOf i).toNat)
  case atStart => exact ⟨0, by omega, rfl, fun j hj => by omega, Below.refl _ _⟩
  case round =>
    obtain ⟨k, hk, rfl, HA, hbl⟩ := hrel
    by_cases hlt : k < len
    · have hkl : k < rs.length := by rw [HL.out]; exact hlt
      obtain ⟨b, off, ai, ci, rfl, hlb, hc, hr, hsz⟩ := (HR.out.below hbl) k hkl
      have hltI : (k : Int) < (len : Int) := by omega
      have hm := HM.out k hkl
      have HB : Hid (rowB wd (nthR rs k) = false → okRs wd rs = false) := okRs_bad hkl
      have HG : Hid (rowB wd (nthR rs k) = true → ∀ j, j < k + 1 → rowB wd (nthR rs j) = true) := fun h => allV_step' HA.out h
      have HV : Hid (∀ W, Below w.heap.size w W → ∃ ai ci, W.cell? ⟨b, off + k, none⟩ = some (.slice ai (nthR rs k).length ci) ∧ RowV W ai (nthR rs k)) := fun W hW => by
        obtain ⟨b', off', ai', ci', e', _, hc', hr', _⟩ := (HR.out.below hW) k hkl
        cases e'
        exact ⟨ai', ci', hc', hr'⟩
      clear hr hsz hlb HA
      generalize nthR rs k = vs at *
      obtain ⟨m, hm'⟩ : ∃ m, vs.length = m := ⟨_, rfl⟩
      have HVL : Hid (vs.length = m) := hm'
      rw [hm'] at hm hc HV
      clear hm'
      by_cases hw : wd < m
      · have hwI : (wd : Int) < (m : Int) := by omega
        have HF : Hid (okRs wd rs = false) := HB.out (rowB_long (by rw [HVL.out]; exact hw))
        clear HB HG HV
        go_wp2
        go_ret
        exact ⟨ret_bool' HF.out.symm, hbl⟩
      · have hwI : ¬ (wd : Int) < (m : Int) := by omega
        go_wp2
        clear hc
        go_loopw [6] (fun i wq => ∃ q : Nat, q ≤ m ∧ i = .int .i64 q ∧ Hid (∀ j, j < q → okV3 (nthV vs j) = true) ∧ Below w.heap.size w wq) (fun i _ => m - (intOf i).toNat)
        case atStart => exact ⟨0, by omega, rfl, fun j hj => by omega, hbl⟩
        case round =>
          clear hbl
          obtain ⟨q, hq, rfl, HQ, hbq⟩ := hrel
          obtain ⟨ai, ci, hc, hr⟩ := HV.out _ hbq
          by_cases hlq : q < m
          · have hlqI : (q : Int) < (m : Int) := by omega
            obtain ⟨b2, o2, rfl, hb2, ⟨c0, c1, c2⟩, _⟩ := hr q (by rw [HVL.out]; exact hlq)
            clear hr
            have S := fun W => specValueOK_any (nthV vs q).1 (nthV vs q).2.1 (nthV vs q).2.2 W
            cases hok : okV (nthV vs q).1 (nthV vs q).2.1 (nthV vs q).2.2 with
            | true =>
              have HK : Hid (∀ j, j < q + 1 → okV3 (nthV vs j) = true) := allV_step' HQ.out hok
              rw [hok] at S
              clear hok HQ
              go_wp2_with fail
              refine (S _).mono ?_
              rintro e w1 ⟨rfl, b1⟩
              have hB := below_step hbq (Nat.le_refl _) b1
              clear S hc c0 c1 c2 hb2 b1 hbq
              go_wp2
              go_roundw
              case rel => exact ⟨q + 1, by omega, by go_num, HK, hB⟩
              case measure => simp [intOf]; omega
            | false =>
              have HF : Hid (okRs wd rs = false) := HB.out (rowB_bad (by rw [HVL.out]; exact hlq) hok)
              rw [hok] at S
              clear hok HQ HB HG
              go_wp2_with fail
              refine (S _).mono ?_
              rintro e w1 ⟨rfl, b1⟩
              have hB := below_step hbq (Nat.le_refl _) b1
              clear S hc c0 c1 c2 hb2 b1 hbq
              go_wp2
              go_ret
              exact ⟨ret_bool' HF.out.symm, hB⟩
          · have HK : Hid (∀ j, j < k + 1 → rowB wd (nthR rs j) = true) := HG.out (rowB_good (by rw [HVL.out]; omega) (fun j hj => HQ.out j (by have := HVL.out; omega)))
            clear HG HB HQ hr
            go_wp2
            go_roundw
            case rel => exact ⟨k + 1, by omega, by go_num, HK, hbq⟩
            case measure => simp [intOf]; omega
    · have HF : Hid (okRs wd rs = decide (len ≤ 400)) := by
        show _ = _
        rw [okRs_good (fun j hj => HA.out j (by have := HL.out; omega)), HL.out]
      clear HA
      go_wp2
      go_ret
      refine ⟨ret_bool' ?_, hbl⟩
      rw [HF.out]
      exact decide_eq_decide.2 (by omega)

/-- Rows each of which has an address can be read. -/
def RowA (w : World) (a : Option Addr) (rs : Rs) : Prop :=
  ∀ i, i < rs.length → ∃ b off bi oi ci, a = some ⟨b, off, none⟩ ∧ b < w.heap.size ∧ w.cell? ⟨b, off + i, none⟩ = some (.slice (some ⟨bi, oi, none⟩) (nthR rs i).length ci) ∧ RowV w (some ⟨bi, oi, none⟩) (nthR rs i) ∧ (nthR rs i).length ≤ maxLen
theorem RowA.below {w w' : World} {a : Option Addr} {rs : Rs} (h : RowA w a rs) (hb : Below w.heap.size w w') : RowA w' a rs := fun i hi => by
  obtain ⟨b, off, bi, oi, ci, e, hlt, hc, hr, hs⟩ := h i hi
  exact ⟨b, off, bi, oi, ci, e, Nat.lt_of_lt_of_le hlt hb.size, (hb.cell (p := ⟨b, off + i, none⟩) hlt).trans hc, hr.below hb, hs⟩
theorem RowA.row {w : World} {a : Option Addr} {rs : Rs} (h : RowA w a rs) : RowR w a rs := fun i hi => by
  obtain ⟨b, off, bi, oi, ci, e, hlt, hc, hr, hs⟩ := h i hi
  exact ⟨b, off, _, ci, e, hlt, hc, hr, hs⟩
theorem SlabR.rowA {w : World} {g : Nat} {rs : Rs} (h : SlabR w g rs.length rs rs.length) (ht : TextR rs) (hs : SmallR rs) : RowA w (some ⟨g, 0, none⟩) rs := fun i hi => by
  have hl := h.lt
  obtain ⟨cur, gs, hh, hn, hc, _⟩ := h
  obtain ⟨e1, e2, e3⟩ := hc i hi
  exact ⟨g, 0, gs i, 0, _, rfl, hl, by rw [slab_cell hh, Nat.zero_add]; exact e1, e3.row (ht i hi), small_max (hs.2 i hi)⟩

set_option maxRecDepth 100000 in
theorem l13Join_any (b1 o1 c1 b2 o2 c2 : Nat) (xs ys : List V3) (w : World) (h1 : RowV w (some ⟨b1, o1, none⟩) xs) (h2 : RowV w (some ⟨b2, o2, none⟩) ys) (hl : xs.length + ys.length ≤ 4096) :
    Calls Try.prog 88 #[.slice (some ⟨b1, o1, none⟩) xs.length c1, .slice (some ⟨b2, o2, none⟩) ys.length c2] w fun e w' => ∃ u, e = .returned u ∧ OwnV w' w.heap.size u (xs ++ ys) ∧ Below w.heap.size w w' := by
  have B0 : Below w.heap.size w (w.alloc (.cells #[] 39)) := (Below.refl _ _).alloc (Nat.le_refl _) _
  have O0 : OwnV (w.alloc (.cells #[] 39)) w.heap.size (.slice (some ⟨w.heap.size, 0, none⟩) 0 0) [] := OwnV.empty (Nat.le_refl _)
  obtain ⟨v1, w1, r1, O1, g1⟩ := app_V _ [] xs _ w.heap.size b1 o1 c1 O0 (by simp; omega) (h1.below B0) B0.size
  have B1 := own_grown B0 B0.size O0 g1
  rw [List.nil_append] at O1
  obtain ⟨v2, w2, r2, O2, g2⟩ := app_V v1 xs ys w1 w.heap.size b2 o2 c2 O1 (by omega) (h2.below B1) B1.size
  have B2 := own_grown B1 B1.size O1 g2
  have HF : Hid (OwnV w2 w.heap.size v2 (xs ++ ys) ∧ Below w.heap.size w w2) := ⟨O2, B2⟩
  have r2' : Sem.run Try.prog (Builtin.append_ #[28, 28] 28 #[v1, .slice (some ⟨b2, o2, none⟩) ys.length c2]) w1 = .ok v2 w2 := r2
  clear O0 O1 O2 g1 g2 B0 B1 B2 h1 h2 r2
  generalize xs.length = n1 at *
  generalize ys.length = n2 at *
  go_enter Try.func88, Try.ntmps88
  go_wp2_with (first
    | (at_builtin; refine Lib.wpList_append_run _ rfl _ _ _ _ rfl _ _ rfl rfl _ _ r1 ?_)
    | (at_builtin; refine Lib.wpList_append_run _ rfl _ _ _ _ rfl _ _ rfl rfl _ _ r2' ?_))
  go_ret
  exact ⟨_, rfl, HF.out.1, HF.out.2⟩

/-- Each of one list before each of the other. -/
def prodL (aa bb : Rs) : Rs := aa.flatMap fun x => bb.map fun y => x ++ y
/-- What has come of it: all of the first i, and k of the next. -/
def prodK (aa bb : Rs) (i k : Nat) : Rs := prodL (aa.take i) bb ++ (bb.take k).map fun y => nthR aa i ++ y
theorem prodK_zero (aa bb : Rs) : prodK aa bb 0 0 = [] := by simp [prodK, prodL]
theorem prodK_step {aa bb : Rs} {i k : Nat} (h : k < bb.length) : prodK aa bb i (k + 1) = prodK aa bb i k ++ [nthR aa i ++ nthR bb k] := by
  unfold prodK
  rw [List.take_add_one, List.getElem?_eq_getElem h, List.map_append, ← List.append_assoc, nthR_get h]
  simp
theorem prodK_next {aa bb : Rs} {i : Nat} (h : i < aa.length) : prodK aa bb i bb.length = prodK aa bb (i + 1) 0 := by
  have e : aa.take (i + 1) = aa.take i ++ [aa[i]] := by rw [List.take_add_one, List.getElem?_eq_getElem h]; rfl
  unfold prodK prodL
  rw [e, nthR_get h, List.flatMap_append, List.take_length]
  simp
theorem prodK_all (aa bb : Rs) : prodK aa bb aa.length 0 = prodL aa bb := by simp [prodK]
theorem prodL_len : ∀ aa bb : Rs, (prodL aa bb).length = aa.length * bb.length
  | [], bb => by simp [prodL]
  | x :: aa, bb => by
    have := prodL_len aa bb
    unfold prodL at this ⊢
    rw [List.flatMap_cons, List.length_append, this, List.length_map, List.length_cons, Nat.add_mul]
    omega
theorem prodK_len {aa bb : Rs} {i k : Nat} (hi : i ≤ aa.length) (hk : k ≤ bb.length) : (prodK aa bb i k).length = i * bb.length + k := by
  unfold prodK
  rw [List.length_append, prodL_len, List.length_map, List.length_take, List.length_take, Nat.min_eq_left hi, Nat.min_eq_left hk]
theorem step_append_run {ops : Array Oper} {o : Oper} {a : Act} {w : World} {K : Act → World → Prop} {Q : Exit → Act → World → Prop} {E : Prop} (hgd : o.guard = none) (s x : Operand) (t tn : TypeId)
    (ho : o.op = .call { callee := .builtin .append, args := #[s, x], argTypes := #[t, tn] }) (vs vx : Value) (hs : a.eval s = vs) (hx : a.eval x = vx)
    (v' : Value) (w' : World) (hr : (Builtin.append_ #[t, tn] o.type #[vs, vx]).run Try.prog w = .ok v' w') (h : K (a.put o.dst v') w') :
    if Region.wanted o (yielded ops a.tmps) = true then Oper.wp Try.prog o a w K Q else E := by
  have hw : Region.wanted o (yielded ops a.tmps) = true := by simp [Region.wanted, hgd]
  rw [if_pos hw]
  exact Lib.wp_append_run w s x t tn ho vs vx hs hx v' w' hr h
/-- What a step of both products wants: two rows of right length, and what has been made. -/
theorem push_step {w W w1 : World} {aa bb : Rs} {i k : Nat} {v u : Value} {t : TypeId} (hO : BldR W w.heap.size W.heap.size v (prodK aa bb i k)) (hB : Below w.heap.size w W) (hk : k < bb.length) (hl : (prodK aa bb i k).length < 4096) (hb : Below W.heap.size W w1) (hu : OwnV w1 W.heap.size u (nthR aa i ++ nthR bb k)) :
    ∃ v' w', (Builtin.append_ #[23, 23] 23 #[v, .slice (some ⟨w1.heap.size, 0, none⟩) 1 1]).run Try.prog (w1.alloc (.cells #[u] t)) = .ok v' w' ∧ BldR w' w.heap.size w'.heap.size v' (prodK aa bb i (k + 1)) ∧ Below w.heap.size w w' := by
  have b2 : Below w1.heap.size w1 (w1.alloc (.cells #[u] t)) := (Below.refl _ _).alloc (Nat.le_refl _) _
  have hB1 : Below w.heap.size w (w1.alloc (.cells #[u] t)) := below_step (below_step hB (Nat.le_refl _) hb) (Nat.le_refl _) b2
  have hO2 := (hO.below hb).below b2
  obtain ⟨v', w', hr, h1, h2⟩ := app_R (c := 1) hO2 hB1.size hl (World.cell?_alloc_at _ _ _ _ rfl) (OwnV.below hu b2) (Nat.le_refl _) hB.size
  exact ⟨v', w', hr, by rw [prodK_step hk]; exact h1, BldR.grown hB1 hB1.size hO2 h2⟩
end Go.Proofs.Ytmcjgncpblbhpaa
