/- Towards the law FnAggs: impl's sumOf, allValuesOK (stage 12). -/
import Derived.Test.YthdilgggjkekaaaAgE
namespace Go.Proofs.Ythdilgggjkekaaa
open Go.RowKit

def psum (l : List Int) : Int := l.foldl (fun a x => a + x) 0
theorem psum_take (xs : List Int) (j : Nat) (h : j < xs.length) : psum (xs.take (j + 1)) = psum (xs.take j) + xs[j] := by
  unfold psum
  rw [List.take_add_one, List.foldl_append, List.getElem?_eq_getElem h]
  rfl
theorem sum_best (xs : List Int) : ∀ j, j < xs.length → bestF sumF (xs.take (j + 1)) = some (psum (xs.take (j + 1)))
  | 0, h => by
    cases xs with
    | nil => simp at h
    | cons x r => simp [bestF, psum]
  | j + 1, h => by
    rw [List.take_add_one (i := j + 1), List.getElem?_eq_getElem h]
    simp only [Option.toList_some]
    rw [bestF_snoc, sum_best xs j (by omega)]
    have := psum_take xs (j + 1) h
    rw [List.take_add_one (i := j + 1), List.getElem?_eq_getElem h] at this
    simp only [Option.toList_some] at this
    rw [this]
    rfl
theorem ent86 : Ent 18 := enters_of Try.func18 (by kernel_rfl) rfl
theorem ent105 : Ent 36 := enters_of Try.func36 (by kernel_rfl) rfl
set_option maxRecDepth 100000 in
theorem bad1_any (k n : Int) (t : ByteArray) (w : World) : Calls Try.prog 18 #[VV k n t] w fun e w' => e = .returned (.bool (!okV k n t)) ∧ Below w.heap.size w w' := by
  have hc := implValueOK_any k n t (w.alloc (.cells #[.int .i64 k, .int .i64 n, .string t] 27))
  have B0 : Below w.heap.size w (w.alloc (.cells #[.int .i64 k, .int .i64 n, .string t] 27)) := (Below.refl _ _).alloc (Nat.le_refl _) _
  generalize okV k n t = ok at *
  go_enter Try.func18, Try.ntmps18
  go_wp2_with fail
  refine hc.mono ?_
  rintro e w1 ⟨rfl, b1⟩
  clear hc
  go_wp2
  go_ret
  exact ⟨rfl, B0.trans (b1.mono B0.size)⟩
theorem nint_any (k n : Int) (t : ByteArray) (w : World) : Calls Try.prog 36 #[VV k n t] w fun e w' => e = .returned (.bool (k != 2)) ∧ Below w.heap.size w w' := by
  go_enter Try.func36, Try.ntmps36
  go_wp2
  go_ret
  exact ⟨rfl, (Below.refl _ _).alloc (Nat.le_refl _) _⟩
set_option maxRecDepth 100000 in
theorem allOK_any (os : List (Option Int)) (a : Option Addr) (cap : Nat) (w : World) (hrow : RowV w a (os.map ov)) (hlen : os.length ≤ 4096) :
    Calls Try.prog 11 #[.slice a os.length cap] w fun e w' => e = .returned (.bool true) ∧ Below w.heap.size w w' := by
  have hc := containsFunc_any (os.map ov) (fun v => !okV v.1 v.2.1 v.2.2) 18 #[] a cap w hrow (by simp [maxLen]; omega) ⟨ent86, fun w' _ k n t => bad1_any k n t w'⟩
  have he : (os.map ov).any (fun v => !okV v.1 v.2.1 v.2.2) = false := by
    rw [List.any_eq_false]
    intro v hv
    obtain ⟨o, _, rfl⟩ := List.mem_map.1 hv
    simp [ok_ov]
  rw [he, List.length_map] at hc
  clear he hrow
  generalize os.length = len at *
  go_enter Try.func11, Try.ntmps11
  go_wp2_with fail
  refine hc.mono ?_
  rintro e w1 ⟨rfl, b1⟩
  clear hc
  go_wp2
  go_ret
  exact ⟨rfl, b1⟩
set_option maxRecDepth 100000 in
set_option maxHeartbeats 8000000 in
theorem sumOf_any (xs : List Int) (a : Option Addr) (cap : Nat) (w : World) (hrow : RowV w a (xs.map iv)) (h0 : 0 < xs.length) (hlen : xs.length ≤ 4096) (hbd : ∀ x ∈ xs, -1000000 ≤ x ∧ x ≤ 1000000) :
    Calls Try.prog 23 #[.slice a xs.length cap] w fun e w' => e = .returned (ansV (ov (bestF sumF xs), 0)) ∧ Below w.heap.size w w' := by
  have HR : Hid (RowV w a (xs.map iv)) := hrow
  have HBD : Hid (∀ x ∈ xs, -1000000 ≤ x ∧ x ≤ 1000000) := hbd
  obtain ⟨W, hW⟩ : ∃ W, W = (w.alloc (.cells #[.int .i64 0, .int .i64 0, .string noT] 27)).alloc (.cells #[.int .i64 0] 3) := ⟨_, rfl⟩
  have B0 : Below w.heap.size w W := by subst hW; exact below2 w _ _
  have T0 : Hid (Two W w.heap.size (w.heap.size + 1) 0 0 noT 0) := by subst hW; exact ⟨blk1' w _ _, blk2' w _ _, by omega⟩
  have hc := containsFunc_any (xs.map iv) (fun v => v.1 != 2) 36 #[] a cap W (hrow.below B0) (by simp [maxLen]; omega) ⟨ent105, fun w' _ k n t => nint_any k n t w'⟩
  have he : (xs.map iv).any (fun v => v.1 != 2) = false := by
    rw [List.any_eq_false]
    intro v hv
    obtain ⟨o, _, rfl⟩ := List.mem_map.1 hv
    simp [iv]
  rw [he, List.length_map] at hc
  obtain ⟨len, hL⟩ : ∃ m, xs.length = m := ⟨_, rfl⟩
  have HL : Hid (xs.length = len) := hL
  rw [hL] at hlen h0 hc ⊢
  clear hL hrow he hbd
  have HB0 : Hid (Below w.heap.size w W) := B0
  go_enter_defers Try.func23, Try.ntmps23
  go_wp2_with fail
  rw [← hW]
  refine hc.mono ?_
  rintro e w1 ⟨rfl, b1⟩
  have T1 : Two w1 w.heap.size (w.heap.size + 1) 0 0 noT 0 := T0.out.below b1 (lt_blk T0.out.bv) (lt_blk T0.out.bc)
  have B1 : Hid (Below w.heap.size w w1) := HB0.out.trans (b1.mono HB0.out.size)
  obtain ⟨v0, v1, v2, v3⟩ := T1.cells
  obtain ⟨y0, y1, y2, y3⟩ := T1.free
  have T2 := T1.s0 2
  have HT2 : Hid (Two (w1.setCell ⟨w.heap.size, 0, none⟩ (.int .i64 2)) w.heap.size (w.heap.size + 1) 2 0 noT 0) := T2
  clear hc B0 HB0 T0 b1 hW T1 T2
  go_wp2
  go_loopw [4] (fun i wr => ∃ j : Nat, j ≤ len ∧ i = .int .i64 j ∧ (∃ sm : Int, Hid (Two wr w.heap.size (w.heap.size + 1) 2 sm noT 0 ∧ sm = psum (xs.take j) ∧ -(1000000 * (j : Int)) ≤ sm ∧ sm ≤ 1000000 * (j : Int) ∧ Below w.heap.size w wr))) (fun i _ => len - (intOf i).toNat)
  case atStart => exact ⟨0, by omega, rfl, 0, ⟨HT2.out, rfl, by omega, by omega, B1.out.setCell (by simp) _⟩⟩
  case round =>
    clear v0 v1 v2 v3 y0 y1 y2 y3 HT2 B1
    obtain ⟨j, hj, rfl, sm, HS⟩ := hrel
    obtain ⟨v0, v1, v2, v3⟩ := HS.out.1.cells
    obtain ⟨y0, y1, y2, y3⟩ := HS.out.1.free
    by_cases hjl : j < len
    · have hjo : j < xs.length := by rw [HL.out]; exact hjl
      obtain ⟨b, off, rfl, hb, ⟨c0, c1, c2⟩, _⟩ := (HR.out.below HS.out.2.2.2.2) j (by simpa using hjo)
      rw [nth_iv xs j hjo] at c0 c1 c2
      simp only at c0 c1 c2
      obtain ⟨x, hx⟩ : ∃ x, xs[j] = x := ⟨_, rfl⟩
      have hxb := HBD.out x (by rw [← hx]; exact List.getElem_mem _)
      have hps : psum (xs.take (j + 1)) = sm + x := by rw [psum_take xs j hjo, hx, HS.out.2.1]
      have h3 := HS.out.2.2.1
      have h4 := HS.out.2.2.2.1
      have hin : In64 (sm + x) := by unfold In64; omega
      have hadd := fun w1 => implAdd_any sm x w1 (by unfold In64; omega) (by unfold In64; omega)
      have hr : addR sm x = sm + x := if_pos hin
      have hcc : addC sm x = 0 := if_pos hin
      rw [hr, hcc] at hadd
      have W2 : Hid (Two ((wr.setCell ⟨w.heap.size, 1, none⟩ (.int .i64 (sm + x))).setCell ⟨w.heap.size + 1, 0, none⟩ (.int .i64 0)).drew w.heap.size (w.heap.size + 1) 2 (sm + x) noT 0 ∧ sm + x = psum (xs.take (j + 1)) ∧ -(1000000 * ((j + 1 : Nat) : Int)) ≤ sm + x ∧ sm + x ≤ 1000000 * ((j + 1 : Nat) : Int) ∧ Below w.heap.size w ((wr.setCell ⟨w.heap.size, 1, none⟩ (.int .i64 (sm + x))).setCell ⟨w.heap.size + 1, 0, none⟩ (.int .i64 0)).drew) := by
        have q := (HS.out.1.s1 (sm + x)).sc 0
        exact ⟨⟨q.bv, q.bc, q.ne⟩, hps.symm, by omega, by omega, ((HS.out.2.2.2.2.setCell (by simp) _).setCell (by simp) _).drew⟩
      rw [hx] at c1
      clear hx hxb hps h3 h4 hin hr hcc HS
      generalize sm + x = sn at *
      go_wp2_with fail
      refine wp_region_noPanic ?_
      go_region_with (first | (go_at_call 38; refine (hadd _).mono ?_; rintro e wA ⟨rfl, hq⟩; obtain rfl := hq.symm) | fail)
      all_goals
        refine NoPanic.normal ?_
        go_wp2
        go_roundw
        case rel => exact ⟨j + 1, by omega, by go_num, sn, W2⟩
        case measure => simp [intOf]; omega
    · obtain rfl : j = len := by omega
      have hT : xs.take j = xs := by rw [← HL.out, List.take_length]
      have HE : Hid (ov (bestF sumF xs) = (2, sm, noT)) := by
        have h1 := sum_best xs (j - 1) (by rw [HL.out]; omega)
        rw [show j - 1 + 1 = j by omega, hT] at h1
        show _ = _
        rw [h1, HS.out.2.1, hT]
        rfl
      have T2 := (((HS.out.1.s0 2).s1 sm).s2 noT).sc 0
      have HT2 : Hid (Two ((((wr.setCell ⟨w.heap.size, 0, none⟩ (.int .i64 2)).setCell ⟨w.heap.size, 1, none⟩ (.int .i64 sm)).setCell ⟨w.heap.size, 2, none⟩ (.string noT)).setCell ⟨w.heap.size + 1, 0, none⟩ (.int .i64 0)) w.heap.size (w.heap.size + 1) 2 sm noT 0) := T2
      clear hT T2
      go_wp2
      refine leaves_cons (f := 37) (args := #[.pointer (some ⟨w.heap.size, 0, none⟩), .pointer (some ⟨w.heap.size + 1, 0, none⟩)]) (by simp) (by simp [go_sem]) ?_
      refine (onlyCode_ok _ _ _ .returning HT2.out.cells.2.2.2).mono ?_
      rintro e u' w'' ⟨rfl, rfl, rfl⟩
      obtain ⟨q0, q1, q2, q3⟩ := HT2.out.cells
      refine ⟨.tuple #[VV 2 sm noT, .int .i64 0], ?_, by rw [HE.out], ?_⟩
      · simp [results, Try.results23, go_sem, q0, q1, q2, q3]
      · exact ((((HS.out.2.2.2.2.setCell (by simp) _).setCell (by simp) _).setCell (by simp) _).setCell (by simp) _)
end Go.Proofs.Ythdilgggjkekaaa
