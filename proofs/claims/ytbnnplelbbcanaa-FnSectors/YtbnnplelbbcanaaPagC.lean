/- The sector of a page: the program's, as a whole. -/
import Derived.Test.YtbnnplelbbcanaaPagB
namespace Go.Proofs.Ytbnnplelbbcanaa
open Go.RowKit

theorem rep_zero (k : Nat) : Lib.repeatL (⟨#[0]⟩ : ByteArray).data.toList k = List.replicate k 0 := by
  induction k with
  | zero => rfl
  | succ k ih =>
    show [0] ++ Lib.repeatL _ k = _
    rw [ih]
    rfl
theorem repeat0 (k : Nat) (hk : k ≤ 28) (w : World) : Calls Try.prog 51 #[.string ⟨#[0]⟩, .int .i64 k] w fun e w' => e = .returned (.string (tx (List.replicate k 0))) ∧ Below w.heap.size w w' := by
  have := Try.strings_Repeat ⟨#[0]⟩ k w (by omega) (by show 1 * k ≤ _; omega)
  rw [rep_zero] at this
  exact this
theorem repeat0x (x : Int) (k : Nat) (T : ByteArray) (hT : tx (List.replicate k 0) = T) (hx : x = k) (hk : k ≤ 28) (w : World) : Calls Try.prog 51 #[.string ⟨#[0]⟩, .int .i64 x] w fun e w' => e = .returned (.string T) ∧ Below w.heap.size w w' := by
  subst hx hT
  exact repeat0 k hk w
set_option maxRecDepth 100000 in
theorem step_repeat {ops : Array Oper} {o : Oper} {a : Act} {w : World} {K : Act → World → Prop} {Q : Exit → Act → World → Prop} {E : Prop} (hgd : o.guard = none) (t : Tmp)
    (ho : o.op = .call { callee := .value (.func 51), args := #[.const (.string ⟨#[0]⟩), .tmp t], argTypes := #[9, 3] }) (y : Int) (hx : a.tmps[t]?.getD undef = .int .i64 y) (k : Nat) (T : ByteArray) (hT : tx (List.replicate k 0) = T) (hy : y = k) (hk : k ≤ 28)
    (h : ∀ w', Below w.heap.size w w' → K (a.put o.dst (.string T)) w') :
    if Region.wanted o (yielded ops a.tmps) = true then Oper.wp Try.prog o a w K Q else E := by
  have hw : Region.wanted o (yielded ops a.tmps) = true := by simp [Region.wanted, hgd]
  rw [if_pos hw]
  obtain ⟨dst, op, ty, pos, aft, gd⟩ := o
  subst ho
  go_simp
  refine (repeat0x k k T hT rfl hk w).mono ?_
  rintro e w' ⟨rfl, hb⟩
  exact h w' hb
/-- Bytes with noughts behind them, 28 in all. -/
def fill (l : List UInt8) : List UInt8 := l ++ List.replicate (28 - l.length) 0

abbrev StF (w : World) (a : Option Addr) (l : List UInt8) (w' : World) : Prop := Below w.heap.size w w' ∧ ReadL w' a l

theorem StF.start {w : World} {a : Option Addr} {l : List UInt8} (h : ReadL w a l) : StF w a l w := ⟨Below.refl _ _, h⟩
theorem StF.drew {w w' : World} {a : Option Addr} {l : List UInt8} (h : StF w a l w') : StF w a l w'.drew := ⟨below_drewN h.1 1, h.2.below (below_drewN (Below.refl _ _) 1)⟩
theorem StF.keep {w w' w'' : World} {a : Option Addr} {l : List UInt8} (h : StF w a l w') (hb : Below w'.heap.size w' w'') : StF w a l w'' := ⟨below_step h.1 (Nat.le_refl _) hb, h.2.below hb⟩

set_option maxRecDepth 100000 in
set_option maxHeartbeats 1000000 in
theorem filled_any (g n c : Nat) (l : List UInt8) (w : World) (h : ReadL w (some ⟨g, 0, none⟩) l) (hl : Hid (l.length = n)) (hn : n ≤ 28) :
    Calls Try.prog 44 #[.slice (some ⟨g, 0, none⟩) n c] w fun e w' => e = .returned (.string (tx (fill l))) ∧ Below w.heap.size w w' := by
  have H : Hid (ReadL w (some ⟨g, 0, none⟩) l) := h
  obtain ⟨k, hk⟩ : ∃ k, n + k = 28 := ⟨28 - n, by omega⟩
  have HT : Hid (tx (fill l) = tx l ++ tx (List.replicate k 0)) := by
    show _ = _
    rw [tx_add]
    unfold fill
    have : 28 - l.length = k := by rw [hl.out]; omega
    rw [this]
  have hadd : ∀ wx : World, (Op.stringOp .add (tx l) (tx (List.replicate k 0))).run Try.prog wx = .ok (.string (tx l ++ tx (List.replicate k 0))) wx := fun wx => run_string_add_sum (P := Try.prog) (w := wx) _ _ (by rw [tx_size, tx_size, hl.out, List.length_replicate]; omega)
  have hcv : ∀ wx, Below w.heap.size w wx → (convert 22 9 (.slice (some ⟨g, 0, none⟩) n c)).run Try.prog wx = .ok (.string (tx l)) wx := fun wx hb => conv_n wx g 0 c n l (H.out.below hb) hl
  obtain ⟨T2, hT2⟩ : ∃ T, tx (List.replicate k 0) = T := ⟨_, rfl⟩
  have HT2 : Hid (tx (List.replicate k 0) = T2) := hT2
  rw [hT2] at hadd HT
  obtain ⟨T1, hT1⟩ : ∃ T, tx l = T := ⟨_, rfl⟩
  rw [hT1] at hadd HT hcv
  obtain ⟨T, hT⟩ : ∃ T, T1 ++ T2 = T := ⟨_, rfl⟩
  rw [hT] at hadd HT
  have hk' : Hid (IntKind.i64.wrap ((28 : Int) - (n : Int)) = (k : Int)) := by show _ = _; rw [IntKind.wrap_i64]; omega
  have hk28 : Hid (k ≤ 28) := by show _ ≤ _; omega
  clear hT h hT1 hT2 hk
  have HS : Hid (StF w (some ⟨g, 0, none⟩) l w.drew) := (StF.start H.out).drew
  go_enter Try.func44, Try.ntmps44
  go_wp2_with fail
  go_region_held3 (StF w (some ⟨g, 0, none⟩) l) (first | exact HS.out | exact StF.keep HS.out hb) ((refine step_repeat (by rfl) _ (by rfl) _ (by rfl) k T2 HT2.out hk'.out hk28.out ?_; intro w' hb))
  have hbb := HS.out.1.trans (hb.mono HS.out.1.size)
  go_wp2
  go_ret
  exact ⟨ret_val (congrArg Value.string HT.out.symm), hbb⟩

def inB (n lo hi : Int) : Bool := decide (lo ≤ n ∧ n ≤ hi)
set_option maxRecDepth 100000 in
theorem isPage_any (n : Int) (w : World) : Calls Try.prog 27 #[.int .i64 n] w fun e w' => e = .returned (.bool (inB n 2 255)) ∧ w' = w := by
  by_cases h1 : 2 ≤ n
  · by_cases h2 : n ≤ 255
    · have H : Hid (inB n 2 255 = true) := decide_eq_true ⟨h1, h2⟩
      go_enter Try.func27, Try.ntmps27
      go_wp2
      go_ret
      exact ⟨ret_bool' H.out.symm, rfl⟩
    · have H : Hid (inB n 2 255 = false) := decide_eq_false (by omega)
      go_enter Try.func27, Try.ntmps27
      go_wp2
      go_ret
      exact ⟨ret_bool' H.out.symm, rfl⟩
  · have H : Hid (inB n 2 255 = false) := decide_eq_false (by omega)
    go_enter Try.func27, Try.ntmps27
    go_wp2
    go_ret
    exact ⟨ret_bool' H.out.symm, rfl⟩
set_option maxRecDepth 100000 in
theorem isEpoch_any (n : Int) (w : World) : Calls Try.prog 28 #[.int .i64 n] w fun e w' => e = .returned (.bool (inB n 1 4294967295)) ∧ w' = w := by
  by_cases h1 : 1 ≤ n
  · by_cases h2 : n ≤ 4294967295
    · have H : Hid (inB n 1 4294967295 = true) := decide_eq_true ⟨h1, h2⟩
      go_enter Try.func28, Try.ntmps28
      go_wp2
      go_ret
      exact ⟨ret_bool' H.out.symm, rfl⟩
    · have H : Hid (inB n 1 4294967295 = false) := decide_eq_false (by omega)
      go_enter Try.func28, Try.ntmps28
      go_wp2
      go_ret
      exact ⟨ret_bool' H.out.symm, rfl⟩
  · have H : Hid (inB n 1 4294967295 = false) := decide_eq_false (by omega)
    go_enter Try.func28, Try.ntmps28
    go_wp2
    go_ret
    exact ⟨ret_bool' H.out.symm, rfl⟩
set_option maxRecDepth 100000 in
theorem l01In_any (n lo hi : Int) (w : World) : Calls Try.prog 31 #[.int .i64 n, .int .i64 lo, .int .i64 hi] w fun e w' => e = .returned (.bool (inB n lo hi)) ∧ w' = w := by
  by_cases h1 : lo ≤ n
  · by_cases h2 : n ≤ hi
    · have H : Hid (inB n lo hi = true) := decide_eq_true ⟨h1, h2⟩
      go_enter Try.func31, Try.ntmps31
      go_wp2
      go_ret
      exact ⟨ret_bool' H.out.symm, rfl⟩
    · have H : Hid (inB n lo hi = false) := decide_eq_false (by omega)
      go_enter Try.func31, Try.ntmps31
      go_wp2
      go_ret
      exact ⟨ret_bool' H.out.symm, rfl⟩
  · have H : Hid (inB n lo hi = false) := decide_eq_false (by omega)
    go_enter Try.func31, Try.ntmps31
    go_wp2
    go_ret
    exact ⟨ret_bool' H.out.symm, rfl⟩

/-- The 28 bytes of a page ahead of its sum, and its sector. -/
def pbody (next : Int) (data : List UInt8) : List UInt8 := fill ([b8 next] ++ data)
def pageL (page next epoch : Int) (data : List UInt8) : List UInt8 := pbody next data ++ num4 (psum page epoch (pbody next data))
theorem fill_len (l : List UInt8) (h : l.length ≤ 28) : (fill l).length = 28 := by
  unfold fill
  rw [List.length_append, List.length_replicate]
  omega
theorem pbody_len (next : Int) (data : List UInt8) (h : data.length ≤ 27) : (pbody next data).length = 28 := fill_len _ (by rw [List.length_append]; show 1 + _ ≤ _; omega)

set_option maxRecDepth 100000 in
set_option maxHeartbeats 4000000 in
theorem pageSector_any (page next epoch : Int) (s : ByteArray) (w : World) (hs : s.size ≤ 27) :
    Calls Try.prog 29 #[.int .i64 page, .int .i64 next, .int .i64 epoch, .string s] w fun e w' => e = .returned (.string (tx (pageL page next epoch s.data.toList))) ∧ Below w.heap.size w w' := by
  have o0 : OwnL (w.alloc (.cells #[.int .u8 (next % 256)] 5)) w.heap.size (.slice (some ⟨w.heap.size, 0, none⟩) 1 1) [b8 next] := OwnL.made w _ [b8 next] _ (Nat.le_refl _) (by simp [cellsU, b8_nat]) (by unfold maxLen; show 1 ≤ _; omega)
  have B0 : Below w.heap.size w (w.alloc (.cells #[.int .u8 (next % 256)] 5)) := (Below.refl _ _).alloc (Nat.le_refl _) _
  obtain ⟨v1, w1, hr, ho1, hg⟩ := run_app_text 22 s o0 (by show 1 + _ ≤ _; omega) (by simp)
  have hb1 := o0.grown hg B0 (Nat.le_refl _) (by simp)
  obtain ⟨g1, n1, c1, rfl, HN, _, HR⟩ := ho1.open
  have hn1 : n1 ≤ 28 := by rw [← HN.out, List.length_append]; show 1 + s.size ≤ _; omega
  have HL : Hid ((fill ([b8 next] ++ s.data.toList)).length = 28) := pbody_len next s.data.toList hs
  clear o0 B0 ho1 hg
  go_enter Try.func29, Try.ntmps29
  go_wp2_with (at_builtin; refine Lib.wpList_append_run _ rfl _ _ _ _ rfl _ _ rfl rfl _ _ hr ?_)
  refine (filled_any g1 n1 c1 _ w1 HR.out HN hn1).mono ?_
  rintro e w2 ⟨rfl, hb2⟩
  have hB2 := below_step hb1 (Nat.le_refl _) hb2
  obtain ⟨T, hT⟩ : ∃ T, tx (fill ([b8 next] ++ s.data.toList)) = T := ⟨_, rfl⟩
  have HT : Hid (T.data.toList = pbody next s.data.toList) := by show _ = _; rw [← hT]; rfl
  have HTs : Hid (T.size ≤ 1000) := by show _ ≤ _; rw [← hT, tx_size, HL.out]; omega
  rw [hT]
  clear hb1 hb2 hT HR HN
  go_wp2_with fail
  refine (sumOfPage_any page epoch T w2 HTs.out).mono ?_
  rintro e w3 ⟨rfl, hb3⟩
  have hB3 := below_step hB2 (Nat.le_refl _) hb3
  clear hB2 hb3
  have HV : Hid (tx (pageL page next epoch s.data.toList) = tx (T.data.toList ++ num4 (psum page epoch T.data.toList))) := by
    show _ = _
    rw [HT.out]
    rfl
  generalize psum page epoch T.data.toList = x at *
  go_wp2_with fail
  refine (withSum_any T x w3 HTs.out).mono ?_
  rintro e w4 ⟨rfl, hb4⟩
  have hB4 := below_step hB3 (Nat.le_refl _) hb4
  clear hB3 hb4
  rw [← HV.out]
  generalize hP : tx (pageL page next epoch s.data.toList) = PP
  have HP : Hid (tx (pageL page next epoch s.data.toList) = PP) := hP
  clear hP HV
  go_wp2
  go_ret
  exact ⟨ret_val (congrArg Value.string HP.out.symm), hB4⟩
end Go.Proofs.Ytbnnplelbbcanaa
