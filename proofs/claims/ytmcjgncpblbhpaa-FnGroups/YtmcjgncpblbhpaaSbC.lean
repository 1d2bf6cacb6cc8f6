/- impl's SameBag (stage 13). -/
import Derived.Test.YtmcjgncpblbhpaaSbB
namespace Go.Proofs.Ytmcjgncpblbhpaa
open Go.RowKit

def eqV3 (a b : V3) : Bool := a.1 == b.1 && (a.2.1 == b.2.1 && a.2.2.toList == b.2.2.toList)
theorem eqV3_iff (a b : V3) : eqV3 a b = true ↔ a = b := by
  obtain ⟨k, n, t⟩ := a
  obtain ⟨k', n', t'⟩ := b
  unfold eqV3
  simp only [Bool.and_eq_true, beq_iff_eq]
  constructor
  · rintro ⟨rfl, rfl, h⟩
    rw [toList_one h]
  · intro h
    cases h
    exact ⟨rfl, rfl, rfl⟩
set_option maxRecDepth 100000 in
theorem eq_val (k n : Int) (t : ByteArray) (k2 n2 : Int) (t2 : ByteArray) (w : World) : (Op.equalIn 10000 39 (VV k n t) (VV k2 n2 t2)).run Try.prog w = .ok (eqV3 (k, n, t) (k2, n2, t2)) w := by
  have hS : Try.prog.underlying 39 = some (.struct (Try.prog.fieldsOf 39)) := by kernel_rfl
  have hp : Try.prog.stoodInHeld 39 = false := by kernel_rfl
  rw [show (10000 : Nat) = 9999 + 1 from rfl, run_equalIn_agg w 9999 39 _ _ hS hp]
  have p0 : ∀ (k n : Int) (t : ByteArray) W, (part 3 #[.int .i64 k, .int .i64 n, .string t] 0).run Try.prog W = .ok (.int .i64 k) W := fun k n t W => run_part_plain (P := Try.prog) W (e := 3) (by kernel_rfl) (xs := #[.int .i64 k, .int .i64 n, .string t]) (off := 0) (v := .int .i64 k) rfl
  have p1 : ∀ (k n : Int) (t : ByteArray) W, (part 3 #[.int .i64 k, .int .i64 n, .string t] 1).run Try.prog W = .ok (.int .i64 n) W := fun k n t W => run_part_plain (P := Try.prog) W (e := 3) (by kernel_rfl) (xs := #[.int .i64 k, .int .i64 n, .string t]) (off := 1) (v := .int .i64 n) rfl
  have p2 : ∀ (k n : Int) (t : ByteArray) W, (part 9 #[.int .i64 k, .int .i64 n, .string t] 2).run Try.prog W = .ok (.string t) W := fun k n t W => run_part_plain (P := Try.prog) W (e := 9) (by kernel_rfl) (xs := #[.int .i64 k, .int .i64 n, .string t]) (off := 2) (v := .string t) rfl
  simp only [Program.fieldsOf, Try.underlying39]
  have hi : ∀ (a b : Int) (W : World), (Op.equalIn 9999 3 (.int .i64 a) (.int .i64 b)).run Try.prog W = .ok (a == b) W := fun a b W => run_equalIn_int (P := Try.prog) W 9998 3 .i64 .i64 a b Try.underlying3
  have hs : ∀ (a b : ByteArray) (W : World), (Op.equalIn 9999 9 (.string a) (.string b)).run Try.prog W = .ok (a.toList == b.toList) W := fun a b W => run_equalIn_string (P := Try.prog) W 9998 9 a b Try.underlying9
  simp [Op.eqFields, p0, p1, p2, hi, hs, eqV3]
  by_cases h1 : k = k2 <;> by_cases h2 : n = n2 <;> by_cases h3 : t.toList = t2.toList <;> simp [h1, h2, h3]

/-- Two rows are the same. -/
def eqRow : List V3 → List V3 → Bool
  | [], [] => true
  | x :: xs, y :: ys => eqV3 x y && eqRow xs ys
  | _, _ => false
theorem eqRow_iff : ∀ xs ys : List V3, eqRow xs ys = true ↔ xs = ys
  | [], [] => by simp [eqRow]
  | [], _ :: _ => by simp [eqRow]
  | _ :: _, [] => by simp [eqRow]
  | x :: xs, y :: ys => by simp only [eqRow, Bool.and_eq_true, eqV3_iff, eqRow_iff xs ys]; simp
theorem eqRow_len {xs ys : List V3} (h : xs.length ≠ ys.length) : eqRow xs ys = false := by
  cases e : eqRow xs ys with
  | false => rfl
  | true => rw [eqRow_iff] at e; rw [e] at h; exact absurd rfl h
theorem eqRow_bad {xs ys : List V3} {i : Nat} (h : eqV3 (nthV xs i) (nthV ys i) = false) : eqRow xs ys = false := by
  cases e : eqRow xs ys with
  | false => rfl
  | true =>
    rw [eqRow_iff] at e
    subst e
    rw [(eqV3_iff _ _).2 rfl] at h; cases h
theorem eqRow_good {xs ys : List V3} (hl : xs.length = ys.length) (h : ∀ i, i < xs.length → eqV3 (nthV xs i) (nthV ys i) = true) : eqRow xs ys = true := by
  rw [eqRow_iff]
  refine List.ext_getElem hl fun i h1 h2 => ?_
  have := (eqV3_iff _ _).1 (h i h1)
  rwa [nthV_get h1, nthV_get h2] at this
set_option maxRecDepth 100000 in
set_option maxHeartbeats 2000000 in
theorem equalV_any (a1 a2 : Option Addr) (c1 c2 : Nat) (vs us : List V3) (w : World) (h1 : RowV w a1 vs) (h2 : RowV w a2 us) (hl1 : vs.length ≤ maxLen) :
    Calls Try.prog 44 #[.slice a1 vs.length c1, .slice a2 us.length c2] w fun e w' => e = .returned (.bool (eqRow vs us)) ∧ Below w.heap.size w w' := by
  unfold maxLen at hl1
  by_cases hl : vs.length = us.length
  · have H : Hid (RowV w a1 vs ∧ RowV w a2 us ∧ vs.length = us.length) := ⟨h1, h2, hl⟩
    clear h1 h2
    rw [← hl]
    obtain ⟨n, hn⟩ : ∃ n, vs.length = n := ⟨_, rfl⟩
    have HN : Hid (vs.length = n) := hn
    rw [hn] at hl1 ⊢
    clear hl hn
    go_enter Try.func44, Try.ntmps44
    go_wp2
    go_loopw [13] (fun i wr => ∃ k : Nat, k ≤ n ∧ i = .int .i64 k ∧ Hid (∀ j, j < k → eqV3 (nthV vs j) (nthV us j) = true) ∧ Below w.heap.size w wr) (fun i _ => n - (intOf i).toNat)
    case atStart => exact ⟨0, by omega, rfl, fun j hj => by omega, Below.refl _ _⟩
    case round =>
      obtain ⟨k, hk, rfl, HA, hbl⟩ := hrel
      by_cases hlt : k < n
      · have hltI : (k : Int) < (n : Int) := by omega
        have k1 : k < vs.length := by rw [HN.out]; exact hlt
        have k2 : k < us.length := by rw [← H.out.2.2]; exact k1
        obtain ⟨b1, o1, rfl, lb1, ⟨x0, x1, x2⟩, _⟩ := (H.out.1.below hbl) k k1
        obtain ⟨b2, o2, rfl, lb2, ⟨y0, y1, y2⟩, _⟩ := (H.out.2.1.below hbl) k k2
        have Q := fun W => eq_val (nthV vs k).1 (nthV vs k).2.1 (nthV vs k).2.2 (nthV us k).1 (nthV us k).2.1 (nthV us k).2.2 W
        cases he : eqV3 (nthV vs k) (nthV us k) with
        | true =>
          have HA2 : Hid (∀ j, j < k + 1 → eqV3 (nthV vs j) (nthV us j) = true) := allV_step' HA.out he
          have he' : eqV3 ((nthV vs k).1, (nthV vs k).2.1, (nthV vs k).2.2) ((nthV us k).1, (nthV us k).2.1, (nthV us k).2.2) = true := he
          rw [he'] at Q
          clear he he' HA
          generalize nthV vs k = v at *
          generalize nthV us k = u at *
          go_wp2_with fail
          go_quiet (fail)
          go_wp2
          go_roundw
          case rel => exact ⟨k + 1, by omega, by go_num, HA2, below_drewN hbl _⟩
          case measure => simp [intOf]; omega
        | false =>
          have HF : Hid (eqRow vs us = false) := eqRow_bad he
          have he' : eqV3 ((nthV vs k).1, (nthV vs k).2.1, (nthV vs k).2.2) ((nthV us k).1, (nthV us k).2.1, (nthV us k).2.2) = false := he
          rw [he'] at Q
          clear he he' HA
          generalize nthV vs k = v at *
          generalize nthV us k = u at *
          go_wp2_with fail
          go_quiet (fail)
          go_wp2
          go_ret
          exact ⟨ret_bool' HF.out.symm, below_drewN hbl _⟩
      · have HF : Hid (eqRow vs us = true) := eqRow_good H.out.2.2 (fun j hj => HA.out j (by have := HN.out; omega))
        clear HA
        go_wp2
        go_ret
        exact ⟨ret_bool' HF.out.symm, hbl⟩
  · have HF : Hid (eqRow vs us = false) := eqRow_len hl
    have hne : ((vs.length : Int) != (us.length : Int)) = true := by simp; omega
    clear h1 h2 hl
    generalize vs.length = n1 at *
    generalize us.length = n2 at *
    go_enter Try.func44, Try.ntmps44
    go_wp2
    go_ret
    exact ⟨ret_bool' HF.out.symm, Below.refl _ _⟩
theorem ent44 : Ent 44 := enters_of Try.func44 (by kernel_rfl) rfl
/-- Two lists of rows are the same. -/
def eqRs : Rs → Rs → Bool
  | [], [] => true
  | x :: xs, y :: ys => eqRow x y && eqRs xs ys
  | _, _ => false
theorem eqRs_iff : ∀ xs ys : Rs, eqRs xs ys = true ↔ xs = ys
  | [], [] => by simp [eqRs]
  | [], _ :: _ => by simp [eqRs]
  | _ :: _, [] => by simp [eqRs]
  | x :: xs, y :: ys => by simp only [eqRs, Bool.and_eq_true, eqRow_iff, eqRs_iff xs ys]; simp
theorem eqRs_len {xs ys : Rs} (h : xs.length ≠ ys.length) : eqRs xs ys = false := by
  cases e : eqRs xs ys with
  | false => rfl
  | true => rw [eqRs_iff] at e; rw [e] at h; exact absurd rfl h
theorem eqRs_bad {xs ys : Rs} {i : Nat} (h : eqRow (nthR xs i) (nthR ys i) = false) : eqRs xs ys = false := by
  cases e : eqRs xs ys with
  | false => rfl
  | true =>
    rw [eqRs_iff] at e
    subst e
    rw [(eqRow_iff _ _).2 rfl] at h; cases h
theorem eqRs_good {xs ys : Rs} (hl : xs.length = ys.length) (h : ∀ i, i < xs.length → eqRow (nthR xs i) (nthR ys i) = true) : eqRs xs ys = true := by
  rw [eqRs_iff]
  refine List.ext_getElem hl fun i h1 h2 => ?_
  have := (eqRow_iff _ _).1 (h i h1)
  rwa [nthR_get h1, nthR_get h2] at this
set_option maxRecDepth 100000 in
set_option maxHeartbeats 2000000 in
theorem equalFunc_any (a1 a2 : Option Addr) (c1 c2 : Nat) (xs ys : Rs) (w : World) (h1 : RowR w a1 xs) (h2 : RowR w a2 ys) (hl1 : xs.length ≤ 4096) :
    Calls Try.prog 41 #[.slice a1 xs.length c1, .slice a2 ys.length c2, .func (.func 44) #[] #[]] w fun e w' => e = .returned (.bool (eqRs xs ys)) ∧ Below w.heap.size w w' := by
  have hE := ent44
  unfold Ent at hE
  by_cases hl : xs.length = ys.length
  · have H : Hid (RowR w a1 xs ∧ RowR w a2 ys ∧ xs.length = ys.length) := ⟨h1, h2, hl⟩
    clear h1 h2
    rw [← hl]
    obtain ⟨n, hn⟩ : ∃ n, xs.length = n := ⟨_, rfl⟩
    have HN : Hid (xs.length = n) := hn
    rw [hn] at hl1 ⊢
    clear hl hn
    go_enter Try.func41, Try.ntmps41
    go_wp2
    go_loopw [17] (fun i wr => ∃ k : Nat, k ≤ n ∧ i = .int .i64 k ∧ Hid (∀ j, j < k → eqRow (nthR xs j) (nthR ys j) = true) ∧ Below w.heap.size w wr) (fun i _ => n - (intOf i).toNat)
    case atStart => exact ⟨0, by omega, rfl, fun j hj => by omega, Below.refl _ _⟩
    case round =>
      obtain ⟨k, hk, rfl, HA, hbl⟩ := hrel
      by_cases hlt : k < n
      · have hltI : (k : Int) < (n : Int) := by omega
        have k1 : k < xs.length := by rw [HN.out]; exact hlt
        have k2 : k < ys.length := by rw [← H.out.2.2]; exact k1
        obtain ⟨b1, o1, ai1, ci1, rfl, lb1, x0, r1, s1⟩ := (H.out.1.below hbl) k k1
        obtain ⟨b2, o2, ai2, ci2, rfl, lb2, y0, r2, s2⟩ := (H.out.2.1.below hbl) k k2
        have C := equalV_any ai1 ai2 ci1 ci2 (nthR xs k) (nthR ys k) wr r1 r2 s1
        clear r1 r2
        cases he : eqRow (nthR xs k) (nthR ys k) with
        | true =>
          have HA2 : Hid (∀ j, j < k + 1 → eqRow (nthR xs j) (nthR ys j) = true) := allV_step' HA.out he
          rw [he] at C
          clear he HA s1 s2
          generalize (nthR xs k).length = n1 at *
          generalize (nthR ys k).length = n2 at *
          go_wp2_with fail
          refine C.mono ?_
          rintro e w1 ⟨rfl, b1⟩
          have hB := below_step hbl (Nat.le_refl _) b1
          clear C x0 y0
          go_wp2
          go_roundw
          case rel => exact ⟨k + 1, by omega, by go_num, HA2, hB⟩
          case measure => simp [intOf]; omega
        | false =>
          have HF : Hid (eqRs xs ys = false) := eqRs_bad he
          rw [he] at C
          clear he HA s1 s2
          generalize (nthR xs k).length = n1 at *
          generalize (nthR ys k).length = n2 at *
          go_wp2_with fail
          refine C.mono ?_
          rintro e w1 ⟨rfl, b1⟩
          have hB := below_step hbl (Nat.le_refl _) b1
          clear C x0 y0
          go_wp2
          go_ret
          exact ⟨ret_bool' HF.out.symm, hB⟩
      · have HF : Hid (eqRs xs ys = true) := eqRs_good H.out.2.2 (fun j hj => HA.out j (by have := HN.out; omega))
        clear HA
        go_wp2
        go_ret
        exact ⟨ret_bool' HF.out.symm, hbl⟩
  · have HF : Hid (eqRs xs ys = false) := eqRs_len hl
    have hne : ((xs.length : Int) != (ys.length : Int)) = true := by simp; omega
    clear h1 h2 hl
    generalize xs.length = n1 at *
    generalize ys.length = n2 at *
    go_enter Try.func41, Try.ntmps41
    go_wp2
    go_ret
    exact ⟨ret_bool' HF.out.symm, Below.refl _ _⟩
/-- The code of SameBag. -/
def sbC (aa bb : Rs) : Int := if 4096 < aa.length ∨ 4096 < bb.length then 2 else if okRs 16 aa = true ∧ okRs 16 bb = true then 0 else 1
open Classical in
/-- What it tells. -/
noncomputable def sbR (aa bb : Rs) : Bool := decide (sbC aa bb = 0 ∧ aa.Perm bb)
theorem perm_of_srt {rs ts : Rs} (h : SrtR rs ts) : ts.Perm rs := by
  obtain ⟨zs, h1, _, rfl⟩ := h
  refine (h1.map _).trans ?_
  have : (List.range rs.length).map (nthR rs) = rs := by
    refine List.ext_getElem (by simp) fun i h2 h3 => ?_
    rw [List.getElem_map, List.getElem_range, nthR_get h3]
  rw [this]
theorem srt_le {rs ts : Rs} (h : SrtR rs ts) : ts.Pairwise (fun x y => cmpRows x y ≤ 0) := by
  obtain ⟨zs, _, h2, rfl⟩ := h
  rw [List.pairwise_map]
  refine h2.imp ?_
  intro x y hxy
  have := hxy.1
  simp only [decide_eq_false_iff_not] at this
  have h3 := cmpRows_neg (nthR rs x) (nthR rs y)
  omega
/-- Two lists have the same rows if they are the same when they are sorted. -/
theorem srt_same {aa bb ta tb : Rs} (ha : SrtR aa ta) (hb : SrtR bb tb) : eqRs ta tb = true ↔ aa.Perm bb := by
  rw [eqRs_iff]
  constructor
  · rintro rfl
    exact (perm_of_srt ha).symm.trans (perm_of_srt hb)
  · intro h
    refine List.Perm.eq_of_pairwise (le := fun x y => cmpRows x y ≤ 0) (fun x y _ _ h1 h2 => ?_) (srt_le ha) (srt_le hb) ((perm_of_srt ha).trans (h.trans (perm_of_srt hb).symm))
    have := cmpRows_neg x y
    exact (cmpRows_zero x y).1 (by omega)
end Go.Proofs.Ytmcjgncpblbhpaa
