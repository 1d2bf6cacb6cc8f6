/- Towards the law FnAggs: slices.MinFunc and MaxFunc over ints (stage 12). -/
import Derived.Test.YthdilgggjkekaaaAgD
namespace Go.Proofs.Ythdilgggjkekaaa
open Go.RowKit

/-- Ints as values. -/
def iv (x : Int) : V3 := (2, x, noT)
theorem nth_iv (xs : List Int) (j : Nat) (h : j < xs.length) : nthV (xs.map iv) j = (2, xs[j], noT) := by
  rw [nthV_get (by simpa using h)]
  simp [iv]
theorem ent91 : Ent 25 := enters_of Try.func25 (by kernel_rfl) rfl
/-- What a round of MinFunc reads. -/
abbrev MnS (w : World) (b o : Nat) (x y : Int) (w' : World) : Prop := (w'.cell? ⟨b, o, none⟩ = some (.int .i64 2) ∧ w'.cell? ⟨b, o + 1, none⟩ = some (.int .i64 x) ∧ w'.cell? ⟨b, o + 2, none⟩ = some (.string noT)) ∧
  (w'.cell? ⟨w.heap.size + 1, 0, none⟩ = some (.int .i64 2) ∧ w'.cell? ⟨w.heap.size + 1, 1, none⟩ = some (.int .i64 y) ∧ w'.cell? ⟨w.heap.size + 1, 2, none⟩ = some (.string noT)) ∧ Hid (AgS w w' (some y) ∧ b < w.heap.size)
theorem MnS.keep {w w1 w2 : World} {b o : Nat} {x y : Int} (h : MnS w b o x y w1) (hb : Below w1.heap.size w1 w2) : MnS w b o x y w2 := by
  obtain ⟨⟨h1, h2, h3⟩, _, ⟨h4, h5⟩⟩ := h
  have hl := h4.1.size
  have hc := (bcell hb).1
  obtain ⟨a, b, c, _, _, _⟩ := box_facts (h4.keep hb).2.2
  exact ⟨⟨(hc _ _ (by omega)).trans h1, (hc _ _ (by omega)).trans h2, (hc _ _ (by omega)).trans h3⟩, ⟨a, b, c⟩, ⟨h4.keep hb, h5⟩⟩
set_option maxRecDepth 100000 in
set_option maxHeartbeats 8000000 in
theorem minFunc_any (xs : List Int) (a : Option Addr) (cap : Nat) (w : World) (hrow : RowV w a (xs.map iv)) (h0 : 0 < xs.length) (hlen : xs.length ≤ 4096) :
    Calls Try.prog 24 #[.slice a xs.length cap, fnV 25] w fun e w' => e = .returned (VV (ov (bestF minF xs)).1 (ov (bestF minF xs)).2.1 (ov (bestF minF xs)).2.2) ∧ Below w.heap.size w w' := by
  have HR : Hid (RowV w a (xs.map iv)) := hrow
  obtain ⟨b, off, rfl, hb, ⟨c0, c1, c2⟩, _⟩ := hrow 0 (by simpa using h0)
  rw [nth_iv xs 0 h0] at c0 c1 c2
  simp only [Nat.zero_mul, Nat.add_zero] at c0 c1 c2
  obtain ⟨len, hL⟩ : ∃ m, xs.length = m := ⟨_, rfl⟩
  have HL : Hid (xs.length = len) := hL
  have h00 : 0 < len := by omega
  have T1 : bestF minF (xs.take 1) = some xs[0] := by
    obtain ⟨x, r, rfl⟩ : ∃ x r, xs = x :: r := by
      cases xs with
      | nil => simp at h0
      | cons x r => exact ⟨x, r, rfl⟩
    rfl
  have HT1 : Hid (bestF minF (xs.take 1) = some xs[0]) := T1
  rw [hL] at hlen ⊢
  clear hL hrow T1
  have hlen0 : ¬ len = 0 := by omega
  have h1l : (1 : Nat) ≤ len := h00
  obtain ⟨x0, hx0⟩ : ∃ x0, xs[0] = x0 := ⟨_, rfl⟩
  rw [hx0] at c1 HT1
  clear hx0
  have A0 : Hid (AgS w ((w.alloc (.cells #[.int .i64 0, .int .i64 0, .string noT] 27)).alloc (.cells #[.int .i64 2, .int .i64 x0, .string noT] 27)) (some x0)) := ⟨below2 w _ _, blk1' w _ _, blk2' w _ _⟩
  have hE : ∀ (args : Array Value) (w : World), (callFunc 25 args).run Try.prog w = .ok (.enter 25 args) w := ent91
  go_enter Try.func24, Try.ntmps24
  go_wp2
  go_loopw [6] (fun i wr => ∃ j : Nat, 1 ≤ j ∧ j ≤ len ∧ i = .int .i64 j ∧ (∃ y, Hid (bestF minF (xs.take j) = some y ∧ AgS w wr (some y)))) (fun i _ => len - (intOf i).toNat)
  case atStart => exact ⟨1, by omega, by omega, rfl, x0, ⟨HT1.out, A0.out⟩⟩
  case round =>
    obtain ⟨j, hj1, hj, rfl, y, HY⟩ := hrel
    clear c0 c1 c2
    by_cases hjl : j < len
    · have hjo : j < xs.length := by rw [HL.out]; exact hjl
      obtain ⟨b', off', e', _, ⟨c0, c1, c2⟩, _⟩ := (HR.out.below HY.out.2.1) j (by simpa using hjo)
      cases e'
      rw [nth_iv xs j hjo] at c0 c1 c2
      simp only at c0 c1 c2
      obtain ⟨x, hx⟩ : ∃ x, xs[j] = x := ⟨_, rfl⟩
      have HB : Hid (bestF minF (xs.take (j + 1)) = some (minF y x)) := by
        show _ = _
        rw [List.take_add_one, List.getElem?_eq_getElem hjo, hx]
        simp only [Option.toList_some]
        rw [bestF_snoc, HY.out.1]
      rw [hx] at c1
      clear hx
      obtain ⟨v0, v1, v2, _, _, _⟩ := box_facts HY.out.2.2.2
      simp only [ov] at v0 v1 v2
      have hP : MnS w b (off + j * 3) x y wr.drew := ⟨⟨c0, c1, c2⟩, ⟨v0, v1, v2⟩, ⟨HY.out.2.keep (Below.refl _ _).drew, hb⟩⟩
      have HC : Hid (∀ w1, Calls Try.prog 25 #[VV 2 x noT, VV 2 y noT] w1 fun e w' => e = .returned (.int .i64 (cmpV 2 x noT 2 y noT)) ∧ Below w1.heap.size w1 w') := fun w1 => valueOrder_any 2 x noT 2 y noT w1
      have hlt := cmp_lt x y
      generalize cmpV 2 x noT 2 y noT = cv at *
      clear v0 v1 v2 c0 c1 c2
      go_wp2_with fail
      go_region_held3 (MnS w b (off + j * 3) x y) (first | exact hP | exact MnS.keep (by assumption) hb2)
        (first
        | (go_at_call 25; refine (HC.out _).mono ?_; rintro e wA ⟨rfl, hb2⟩)
        | fail)
      rename_i hLL
      have SA : MnS w b (off + j * 3) x y wA := hLL
      obtain ⟨⟨c0, c1, c2⟩, ⟨v0, v1, v2⟩, HS⟩ := SA
      obtain ⟨_, _, _, y0, y1, y2⟩ := box_facts HS.out.1.2.2
      clear hP HC hlt hLL HY
      by_cases hxy : x < y
      · have W2 : Hid (bestF minF (xs.take (j + 1)) = some x ∧ AgS w (((wA.setCell ⟨w.heap.size + 1, 0, none⟩ (.int .i64 2)).setCell ⟨w.heap.size + 1, 1, none⟩ (.int .i64 x)).setCell ⟨w.heap.size + 1, 2, none⟩ (.string noT)) (some x)) := by
          show _ ∧ _
          rw [HB.out]
          have : minF y x = x := if_pos hxy
          exact ⟨by rw [this], HS.out.1.set x⟩
        clear HB HS
        go_wp2
        go_roundw
        case rel => exact ⟨j + 1, by omega, by omega, by go_num, x, W2⟩
        case measure => simp [intOf]; omega
      · have W2 : Hid (bestF minF (xs.take (j + 1)) = some y ∧ AgS w wA (some y)) := by
          show _ ∧ _
          rw [HB.out]
          have : minF y x = y := if_neg hxy
          exact ⟨by rw [this], HS.out.1⟩
        clear HB HS
        go_wp2
        go_roundw
        case rel => exact ⟨j + 1, by omega, by omega, by go_num, y, W2⟩
        case measure => simp [intOf]; omega
    · obtain rfl : j = len := by omega
      have hT : xs.take j = xs := by rw [← HL.out, List.take_length]
      have HE : Hid (ov (bestF minF xs) = (2, y, noT)) := by
        have h1 := HY.out.1
        rw [hT] at h1
        show _ = _
        rw [h1]; rfl
      obtain ⟨v0, v1, v2, _, _, _⟩ := box_facts HY.out.2.2.2
      simp only [ov] at v0 v1 v2
      obtain ⟨u0, u1, u2, y0, y1, y2⟩ := box_facts HY.out.2.2.1
      clear hT
      go_wp2
      obtain ⟨r0, r1, r2, _, _, _⟩ := box_facts (box_set HY.out.2.2.1 2 y noT)
      exact bodyPost_ret (v := VV 2 y noT) (by simp [results, Try.results24, go_sem, r0, r1, r2]) rfl ⟨by rw [HE.out], below_set3 HY.out.2.1 (Nat.le_refl _) _ _ _⟩
set_option maxRecDepth 100000 in
set_option maxHeartbeats 8000000 in
theorem maxFunc_any (xs : List Int) (a : Option Addr) (cap : Nat) (w : World) (hrow : RowV w a (xs.map iv)) (h0 : 0 < xs.length) (hlen : xs.length ≤ 4096) :
    Calls Try.prog 26 #[.slice a xs.length cap, fnV 25] w fun e w' => e = .returned (VV (ov (bestF maxF xs)).1 (ov (bestF maxF xs)).2.1 (ov (bestF maxF xs)).2.2) ∧ Below w.heap.size w w' := by
  have HR : Hid (RowV w a (xs.map iv)) := hrow
  obtain ⟨b, off, rfl, hb, ⟨c0, c1, c2⟩, _⟩ := hrow 0 (by simpa using h0)
  rw [nth_iv xs 0 h0] at c0 c1 c2
  simp only [Nat.zero_mul, Nat.add_zero] at c0 c1 c2
  obtain ⟨len, hL⟩ : ∃ m, xs.length = m := ⟨_, rfl⟩
  have HL : Hid (xs.length = len) := hL
  have h00 : 0 < len := by omega
  have T1 : bestF maxF (xs.take 1) = some xs[0] := by
    obtain ⟨x, r, rfl⟩ : ∃ x r, xs = x :: r := by
      cases xs with
      | nil => simp at h0
      | cons x r => exact ⟨x, r, rfl⟩
    rfl
  have HT1 : Hid (bestF maxF (xs.take 1) = some xs[0]) := T1
  rw [hL] at hlen ⊢
  clear hL hrow T1
  have hlen0 : ¬ len = 0 := by omega
  have h1l : (1 : Nat) ≤ len := h00
  obtain ⟨x0, hx0⟩ : ∃ x0, xs[0] = x0 := ⟨_, rfl⟩
  rw [hx0] at c1 HT1
  clear hx0
  have A0 : Hid (AgS w ((w.alloc (.cells #[.int .i64 0, .int .i64 0, .string noT] 27)).alloc (.cells #[.int .i64 2, .int .i64 x0, .string noT] 27)) (some x0)) := ⟨below2 w _ _, blk1' w _ _, blk2' w _ _⟩
  have hE : ∀ (args : Array Value) (w : World), (callFunc 25 args).run Try.prog w = .ok (.enter 25 args) w := ent91
  go_enter Try.func26, Try.ntmps26
  go_wp2
  go_loopw [6] (fun i wr => ∃ j : Nat, 1 ≤ j ∧ j ≤ len ∧ i = .int .i64 j ∧ (∃ y, Hid (bestF maxF (xs.take j) = some y ∧ AgS w wr (some y)))) (fun i _ => len - (intOf i).toNat)
  case atStart => exact ⟨1, by omega, by omega, rfl, x0, ⟨HT1.out, A0.out⟩⟩
  case round =>
    obtain ⟨j, hj1, hj, rfl, y, HY⟩ := hrel
    clear c0 c1 c2
    by_cases hjl : j < len
    · have hjo : j < xs.length := by rw [HL.out]; exact hjl
      obtain ⟨b', off', e', _, ⟨c0, c1, c2⟩, _⟩ := (HR.out.below HY.out.2.1) j (by simpa using hjo)
      cases e'
      rw [nth_iv xs j hjo] at c0 c1 c2
      simp only at c0 c1 c2
      obtain ⟨x, hx⟩ : ∃ x, xs[j] = x := ⟨_, rfl⟩
      have HB : Hid (bestF maxF (xs.take (j + 1)) = some (maxF y x)) := by
        show _ = _
        rw [List.take_add_one, List.getElem?_eq_getElem hjo, hx]
        simp only [Option.toList_some]
        rw [bestF_snoc, HY.out.1]
      rw [hx] at c1
      clear hx
      obtain ⟨v0, v1, v2, _, _, _⟩ := box_facts HY.out.2.2.2
      simp only [ov] at v0 v1 v2
      have hP : MnS w b (off + j * 3) x y wr.drew := ⟨⟨c0, c1, c2⟩, ⟨v0, v1, v2⟩, ⟨HY.out.2.keep (Below.refl _ _).drew, hb⟩⟩
      have HC : Hid (∀ w1, Calls Try.prog 25 #[VV 2 x noT, VV 2 y noT] w1 fun e w' => e = .returned (.int .i64 (cmpV 2 x noT 2 y noT)) ∧ Below w1.heap.size w1 w') := fun w1 => valueOrder_any 2 x noT 2 y noT w1
      have hlt := cmp_gt x y
      generalize cmpV 2 x noT 2 y noT = cv at *
      clear v0 v1 v2 c0 c1 c2
      go_wp2_with fail
      go_region_held3 (MnS w b (off + j * 3) x y) (first | exact hP | exact MnS.keep (by assumption) hb2)
        (first
        | (go_at_call 25; refine (HC.out _).mono ?_; rintro e wA ⟨rfl, hb2⟩)
        | fail)
      rename_i hLL
      have SA : MnS w b (off + j * 3) x y wA := hLL
      obtain ⟨⟨c0, c1, c2⟩, ⟨v0, v1, v2⟩, HS⟩ := SA
      obtain ⟨_, _, _, y0, y1, y2⟩ := box_facts HS.out.1.2.2
      clear hP HC hlt hLL HY
      by_cases hxy : y < x
      · have W2 : Hid (bestF maxF (xs.take (j + 1)) = some x ∧ AgS w (((wA.setCell ⟨w.heap.size + 1, 0, none⟩ (.int .i64 2)).setCell ⟨w.heap.size + 1, 1, none⟩ (.int .i64 x)).setCell ⟨w.heap.size + 1, 2, none⟩ (.string noT)) (some x)) := by
          show _ ∧ _
          rw [HB.out]
          have : maxF y x = x := if_pos hxy
          exact ⟨by rw [this], HS.out.1.set x⟩
        clear HB HS
        go_wp2
        go_roundw
        case rel => exact ⟨j + 1, by omega, by omega, by go_num, x, W2⟩
        case measure => simp [intOf]; omega
      · have W2 : Hid (bestF maxF (xs.take (j + 1)) = some y ∧ AgS w wA (some y)) := by
          show _ ∧ _
          rw [HB.out]
          have : maxF y x = y := if_neg hxy
          exact ⟨by rw [this], HS.out.1⟩
        clear HB HS
        go_wp2
        go_roundw
        case rel => exact ⟨j + 1, by omega, by omega, by go_num, y, W2⟩
        case measure => simp [intOf]; omega
    · obtain rfl : j = len := by omega
      have hT : xs.take j = xs := by rw [← HL.out, List.take_length]
      have HE : Hid (ov (bestF maxF xs) = (2, y, noT)) := by
        have h1 := HY.out.1
        rw [hT] at h1
        show _ = _
        rw [h1]; rfl
      obtain ⟨v0, v1, v2, _, _, _⟩ := box_facts HY.out.2.2.2
      simp only [ov] at v0 v1 v2
      obtain ⟨u0, u1, u2, y0, y1, y2⟩ := box_facts HY.out.2.2.1
      clear hT
      go_wp2
      obtain ⟨r0, r1, r2, _, _, _⟩ := box_facts (box_set HY.out.2.2.1 2 y noT)
      exact bodyPost_ret (v := VV 2 y noT) (by simp [results, Try.results26, go_sem, r0, r1, r2]) rfl ⟨by rw [HE.out], below_set3 HY.out.2.1 (Nat.le_refl _) _ _ _⟩
end Go.Proofs.Ythdilgggjkekaaa
