/- The functions of the binary signs, made (stage 12). -/
import Derived.Test.YteloioopkndcmaaBvG
import Derived.Laws.EntriesVeiled
namespace Go.Proofs.Yteloioopkndcmaa
open Go.RowKit

theorem ent99 : Ent 99 := enters_of Try.func99 (by kernel_rfl) rfl
theorem ent96 : Ent 96 := enters_of Try.func96 (by kernel_rfl) rfl
theorem ent97 : Ent 97 := enters_of Try.func97 (by kernel_rfl) rfl
theorem compared_any (g : Nat) (w : World) : Calls Try.prog 59 #[fnV g] w fun e w' => e = .returned (.func (.func 109) #[] #[.pointer (some ⟨w.heap.size + 1, 0, none⟩)]) ∧ w' = (w.alloc (.cells #[fnV g] 83)).alloc (.cells #[.func (.func 99) #[] #[.pointer (some ⟨w.heap.size, 0, none⟩)]] 58) := by
  have hc := known_any 99 #[.pointer (some ⟨w.heap.size, 0, none⟩)] (w.alloc (.cells #[fnV g] 83))
  go_enter Try.func59, Try.ntmps59
  go_wp2_with fail
  refine hc.mono ?_
  rintro e w1 ⟨rfl, rfl⟩
  go_wp2
  go_ret
  exact ⟨by simp, rfl⟩
theorem comp_clo (p : Int → Bool) (h b : Nat) (hO : OrdA h p) (w : World) (hb : b < w.heap.size) :
    Calls Try.prog 59 #[fnV h] w fun e w' => ∃ v, e = .returned v ∧ Below w.heap.size w w' ∧ Clo b w' v (cmpA p) := by
  refine (compared_any h w).mono ?_
  rintro e w' ⟨rfl, hw⟩
  refine ⟨_, rfl, reck_below hw, 109, _, rfl, ent109, fun u' k x y _ _ => ?_⟩
  have h0 : u'.heap[w.heap.size]? = some (.cells #[fnV h] 83 (0, 0)) := (k.2 _ (by rw [hw]; simp; omega) (by omega)).trans (by rw [hw]; exact blk1' w _ _)
  have h1 : u'.heap[w.heap.size + 1]? = some (.cells #[.func (.func 99) #[] #[.pointer (some ⟨w.heap.size, 0, none⟩)]] 58 (0, 0)) := (k.2 _ (by rw [hw]; simp) (by omega)).trans (by rw [hw]; exact blk2' w _ _)
  obtain ⟨xk, n, t⟩ := x
  obtain ⟨yk, n2, t2⟩ := y
  have hx := known1_any (w.heap.size + 1) 99 #[.pointer (some ⟨w.heap.size, 0, none⟩)] (fun _ _ _ _ _ _ => True) 1 (bit (p (cmpV xk n t yk n2 t2))) 0 noT xk n t yk n2 t2
    (fun k n t k2 n2 t2 => .tuple #[VV 1 (bit (p (cmpV k n t k2 n2 t2))) noT, .int .i64 0]) u' rfl trivial (lt_blk h1) (cell_blk h1)
    ⟨ent99, fun w' b k n t k2 n2 t2 _ => compared1_any p w.heap.size h hO k n t k2 n2 t2 w' (lt_blk ((b.block _ (lt_blk h0)).trans h0)) (cell_blk ((b.block _ (lt_blk h0)).trans h0))⟩
  refine hx.mono ?_
  rintro e w3 ⟨rfl, h3⟩
  refine ⟨?_, h3⟩
  unfold knownV cmpA
  by_cases h1 : xk = 0 ∨ yk = 0 <;> simp [h1]
theorem ord60 : OrdA 60 (fun c => c == 0) := ⟨enters_of Try.func60 (by kernel_rfl) rfl, fun w c => by
  go_enter Try.func60, Try.ntmps60
  go_wp2
  go_ret
  exact ⟨rfl, rfl⟩⟩
theorem ord61 : OrdA 61 (fun c => c != 0) := ⟨enters_of Try.func61 (by kernel_rfl) rfl, fun w c => by
  go_enter Try.func61, Try.ntmps61
  go_wp2
  go_ret
  exact ⟨rfl, rfl⟩⟩
theorem ord62 : OrdA 62 (fun c => decide (c < 0)) := ⟨enters_of Try.func62 (by kernel_rfl) rfl, fun w c => by
  go_enter Try.func62, Try.ntmps62
  go_wp2
  go_ret
  exact ⟨rfl, rfl⟩⟩
theorem ord63 : OrdA 63 (fun c => decide (c ≤ 0)) := ⟨enters_of Try.func63 (by kernel_rfl) rfl, fun w c => by
  go_enter Try.func63, Try.ntmps63
  go_wp2
  go_ret
  exact ⟨rfl, rfl⟩⟩
theorem ord64 : OrdA 64 (fun c => decide (0 < c)) := ⟨enters_of Try.func64 (by kernel_rfl) rfl, fun w c => by
  go_enter Try.func64, Try.ntmps64
  go_wp2
  go_ret
  exact ⟨rfl, rfl⟩⟩
theorem ord65 : OrdA 65 (fun c => decide (0 ≤ c)) := ⟨enters_of Try.func65 (by kernel_rfl) rfl, fun w c => by
  go_enter Try.func65, Try.ntmps65
  go_wp2
  go_ret
  exact ⟨rfl, rfl⟩⟩
theorem ints13 : IntsA 13 addR addC := ⟨enters_of Try.func13 (by kernel_rfl) rfl, fun w a b ha hb => (implAdd_any a b w ha hb).mono fun _ _ h => ⟨h.1, by rw [h.2]; exact Below.refl _ _⟩⟩
theorem ints67 : IntsA 67 subR subC := ⟨ent67, fun w a b ha hb => (implSub_any a b w ha hb).mono fun _ _ h => ⟨h.1, by rw [h.2]; exact Below.refl _ _⟩⟩
theorem ints15 : IntsA 15 mulR mulC := ⟨enters_of Try.func15 (by kernel_rfl) rfl, fun w a b ha hb => implMul_any a b w ha hb⟩
theorem ints68 : IntsA 68 divQ divC := ⟨enters_of Try.func68 (by kernel_rfl) rfl, fun w a b ha _ => by
  have hc := implDiv_any a b w ha
  generalize divQ a b = q at *
  generalize divM a b = m at *
  generalize divC a b = c at *
  clear ha
  go_enter Try.func68, Try.ntmps68
  go_wp2_with fail
  refine hc.mono ?_
  rintro e w1 ⟨rfl, b1⟩
  go_wp2
  go_ret2
  exact ⟨rfl, b1⟩⟩
/-- What is left: nothing where the quotient is out of range. -/
def remR (a b : Int) : Int := if divC a b = 4 then 0 else divM a b
def remC (a b : Int) : Int := if divC a b = 4 then 0 else divC a b
theorem ints69 : IntsA 69 remR remC := ⟨enters_of Try.func69 (by kernel_rfl) rfl, fun w a b ha _ => by
  have hc := implDiv_any a b w ha
  unfold remR remC
  generalize divQ a b = q at *
  generalize divM a b = m at *
  generalize divC a b = c at *
  clear ha
  by_cases h4 : c = 4
  · subst h4
    go_enter Try.func69, Try.ntmps69
    go_wp2_with fail
    refine hc.mono ?_
    rintro e w1 ⟨rfl, b1⟩
    go_wp2
    go_ret2
    exact ⟨rfl, b1⟩
  · have h4' : (c == 4) = false := by simpa using h4
    rw [if_neg h4, if_neg h4]
    go_enter Try.func69, Try.ntmps69
    go_wp2_with fail
    refine hc.mono ?_
    rintro e w1 ⟨rfl, b1⟩
    go_wp2
    go_ret2
    exact ⟨rfl, b1⟩⟩
set_option maxRecDepth 100000 in
theorem decided1_any (k n : Int) (t : ByteArray) (k2 n2 : Int) (t2 : ByteArray) (w : World) :
    Calls Try.prog 96 #[VV k n t, VV k2 n2 t2] w fun e w' => e = .returned (VC k n t 0) ∧ Below w.heap.size w w' := by
  go_enter Try.func96, Try.ntmps96
  go_wp2
  exact bodyPost_ret (v := VC k n t 0) (by simp [results, Try.results96, go_sem]) rfl ⟨rfl, below3 w _ _ _⟩
set_option maxRecDepth 100000 in
theorem decided_any (k n : Int) (t : ByteArray) (w : World) : Calls Try.prog 57 #[VV k n t] w fun e w' => e = .returned (.func (.func 97) #[] #[.pointer (some ⟨w.heap.size, 0, none⟩), .pointer (some ⟨w.heap.size + 1 + 1, 0, none⟩)]) ∧ Below w.heap.size w w' ∧ BoxV w' w.heap.size k n t ∧ w'.heap[w.heap.size + 1]? = some (.cells #[fnV 96] 58 (0, 0)) ∧ w'.heap[w.heap.size + 1 + 1]? = some (.cells #[.func (.func 109) #[] #[.pointer (some ⟨w.heap.size + 1, 0, none⟩)]] 58 (0, 0)) := by
  have hc := known_any 96 #[] (w.alloc (.cells #[.int .i64 k, .int .i64 n, .string t] 24))
  have hmf : ∀ (fn : Fn) (first cap : Array Value) (w : World), (Instr.makeFunc fn first cap).run Try.prog w = .ok (.func fn first cap) w := fun _ _ _ _ => rfl
  go_enter Try.func57, Try.ntmps57
  go_wp2_with fail
  refine hc.mono ?_
  rintro e w1 ⟨rfl, rfl⟩
  go_wp2
  go_ret
  exact ⟨rfl, below3 w _ _ _, (blk3 w _ _ _).1, (blk3 w _ _ _).2.1, (blk3 w _ _ _).2.2⟩
/-- What decides, if one of two is it; else null if one is null; else the first one. -/
def decA (d : Int) (a b : V3) : V3 × Int := if a = (1, d, noT) ∨ b = (1, d, noT) then ((1, d, noT), 0) else if a.1 = 0 ∨ b.1 = 0 then zA 0 else (a, 0)
def eqV3 (a b : V3) : Bool := a.1 == b.1 && (a.2.1 == b.2.1 && a.2.2.toList == b.2.2.toList)
theorem eqV3_iff (a b : V3) : eqV3 a b = true ↔ a = b := by
  obtain ⟨k, n, t⟩ := a
  obtain ⟨k2, n2, t2⟩ := b
  unfold eqV3
  simp only [Bool.and_eq_true, beq_iff_eq, Prod.mk.injEq]
  exact ⟨fun h => ⟨h.1, h.2.1, bytes_eq h.2.2⟩, fun h => ⟨h.1, h.2.1, by rw [h.2.2]⟩⟩
theorem eq_val (k n : Int) (t : ByteArray) (k2 n2 : Int) (t2 : ByteArray) (w : World) : (Op.equalIn 10000 24 (VV k n t) (VV k2 n2 t2)).run Try.prog w = .ok (eqV3 (k, n, t) (k2, n2, t2)) w := by
  have hS : Try.prog.underlying 24 = some (.struct (Try.prog.fieldsOf 24)) := by kernel_rfl
  have hp : Try.prog.stoodInHeld 24 = false := by kernel_rfl
  rw [show (10000 : Nat) = 9999 + 1 from rfl, run_equalIn_agg w 9999 24 _ _ hS hp]
  have p0 : ∀ (k n : Int) (t : ByteArray) W, (part 3 #[.int .i64 k, .int .i64 n, .string t] 0).run Try.prog W = .ok (.int .i64 k) W := fun k n t W => run_part_plain (P := Try.prog) W (e := 3) (by kernel_rfl) (xs := #[.int .i64 k, .int .i64 n, .string t]) (off := 0) (v := .int .i64 k) rfl
  have p1 : ∀ (k n : Int) (t : ByteArray) W, (part 3 #[.int .i64 k, .int .i64 n, .string t] 1).run Try.prog W = .ok (.int .i64 n) W := fun k n t W => run_part_plain (P := Try.prog) W (e := 3) (by kernel_rfl) (xs := #[.int .i64 k, .int .i64 n, .string t]) (off := 1) (v := .int .i64 n) rfl
  have p2 : ∀ (k n : Int) (t : ByteArray) W, (part 9 #[.int .i64 k, .int .i64 n, .string t] 2).run Try.prog W = .ok (.string t) W := fun k n t W => run_part_plain (P := Try.prog) W (e := 9) (by kernel_rfl) (xs := #[.int .i64 k, .int .i64 n, .string t]) (off := 2) (v := .string t) rfl
  simp only [Program.fieldsOf, Try.underlying24]
  have hi : ∀ (a b : Int) (W : World), (Op.equalIn 9999 3 (.int .i64 a) (.int .i64 b)).run Try.prog W = .ok (a == b) W := fun a b W => run_equalIn_int (P := Try.prog) W 9998 3 .i64 .i64 a b Try.underlying3
  have hs : ∀ (a b : ByteArray) (W : World), (Op.equalIn 9999 9 (.string a) (.string b)).run Try.prog W = .ok (a.toList == b.toList) W := fun a b W => run_equalIn_string (P := Try.prog) W 9998 9 a b Try.underlying9
  simp [Op.eqFields, p0, p1, p2, hi, hs, eqV3]
  by_cases h1 : k = k2 <;> by_cases h2 : n = n2 <;> by_cases h3 : t.toList = t2.toList <;> simp [h1, h2, h3]
set_option maxRecDepth 100000 in
theorem decided2_any (d : Int) (k n : Int) (t : ByteArray) (k2 n2 : Int) (t2 : ByteArray) (b0 b1 b2 : Nat) (w : World) (h0 : BoxV w b0 1 d noT) (h1 : w.heap[b1]? = some (.cells #[.func (.func 109) #[] #[.pointer (some ⟨b2, 0, none⟩)]] 58 (0, 0))) (h2 : w.heap[b2]? = some (.cells #[fnV 96] 58 (0, 0))) :
    Calls Try.prog 97 #[VV k n t, VV k2 n2 t2, .pointer (some ⟨b0, 0, none⟩), .pointer (some ⟨b1, 0, none⟩)] w fun e w' => e = .returned (ansV (decA d (k, n, t) (k2, n2, t2))) ∧ Below w.heap.size w w' := by
  obtain ⟨a0, a1, a2, _, _, _⟩ := box_facts h0
  have hl0 := lt_blk h0
  have hl1 := lt_blk h1
  have m1 : b0 < w.heap.size + 1 := by omega
  have m2 : b0 < w.heap.size + 1 + 1 := by omega
  have m3 : b1 < w.heap.size + 1 := by omega
  have m4 : b1 < w.heap.size + 1 + 1 := by omega
  have c1 := cell_blk h1
  have q1 := fun W => eq_val k n t 1 d noT W
  have q2 := fun W => eq_val k2 n2 t2 1 d noT W
  have i1 := eqV3_iff (k, n, t) (1, d, noT)
  have i2 := eqV3_iff (k2, n2, t2) (1, d, noT)
  have HK : Hid (∀ w1, Below w.heap.size w w1 → Calls Try.prog 109 #[VV k n t, VV k2 n2 t2, .pointer (some ⟨b2, 0, none⟩)] w1 fun e w' => e = .returned (knownV (fun k n t _ _ _ => VC k n t 0) k n t k2 n2 t2) ∧ Below w1.heap.size w1 w') := fun w1 b => by
    have g2 := (b.block _ (lt_blk h2)).trans h2
    exact known1_any b2 96 #[] (fun _ _ _ _ _ _ => True) k n 0 t k n t k2 n2 t2 (fun k n t _ _ _ => VC k n t 0) w1 rfl trivial (lt_blk g2) (cell_blk g2) ⟨ent96, fun w' _ k n t k2 n2 t2 _ => decided1_any k n t k2 n2 t2 w'⟩
  have HD : Hid (decA d (k, n, t) (k2, n2, t2) = if (k, n, t) = (1, d, noT) ∨ (k2, n2, t2) = (1, d, noT) then ((1, d, noT), 0) else if k = 0 ∨ k2 = 0 then zA 0 else ((k, n, t), 0)) := rfl
  have HV : Hid (∀ X, X = (if k = 0 ∨ k2 = 0 then zA 0 else ((k, n, t), 0)) → ansV X = knownV (fun k n t _ _ _ => VC k n t 0) k n t k2 n2 t2) := fun X hX => by
    subst hX
    unfold knownV
    by_cases h : k = 0 ∨ k2 = 0 <;> simp [h]
  generalize decA d (k, n, t) (k2, n2, t2) = X at *
  generalize knownV (fun k n t _ _ _ => VC k n t 0) k n t k2 n2 t2 = Y at *
  generalize eqV3 (k, n, t) (1, d, noT) = e1 at *
  generalize eqV3 (k2, n2, t2) (1, d, noT) = e2 at *
  have H1 : Hid (e1 = true ↔ (k, n, t) = (1, d, noT)) := i1
  have H2 : Hid (e2 = true ↔ (k2, n2, t2) = (1, d, noT)) := i2
  clear i1 i2 h0 h1 h2
  cases e1 with
  | true =>
    have HX : Hid (X = ((1, d, noT), 0)) := HD.out.trans (if_pos (.inl (H1.out.1 rfl)))
    clear HD H1 H2 HV HK
    go_enter Try.func97, Try.ntmps97
    go_wp2_with fail
    exact bodyPost_ret (v := VC 1 d noT 0) (by simp [results, Try.results97, go_sem]) rfl ⟨by rw [HX.out], below3 w _ _ _⟩
  | false =>
    cases e2 with
    | true =>
      have HX : Hid (X = ((1, d, noT), 0)) := HD.out.trans (if_pos (.inr (H2.out.1 rfl)))
      clear HD H1 H2 HV HK
      go_enter Try.func97, Try.ntmps97
      go_wp2_with fail
      exact bodyPost_ret (v := VC 1 d noT 0) (by simp [results, Try.results97, go_sem]) rfl ⟨by rw [HX.out], below3 w _ _ _⟩
    | false =>
      have HE : Hid (ansV X = Y) := HV.out X (by rw [HD.out, if_neg (fun h => h.elim (fun e => by cases H1.out.2 e) (fun e => by cases H2.out.2 e))])
      obtain ⟨⟨xk, xn, xt⟩, xc⟩ := X
      have hk := HK.out _ (below3 w (.cells #[.int .i64 k, .int .i64 n, .string t] 24) (.cells #[.int .i64 k2, .int .i64 n2, .string t2] 24) (.cells #[.int .i64 0, .int .i64 0, .string noT] 24))
      have hy := HE.out
      subst hy
      have HB : Hid (w.heap.size + 1 + 1 < (((w.alloc (.cells #[.int .i64 k, .int .i64 n, .string t] 24)).alloc (.cells #[.int .i64 k2, .int .i64 n2, .string t2] 24)).alloc (.cells #[.int .i64 0, .int .i64 0, .string noT] 24)).heap.size ∧ BoxV (((w.alloc (.cells #[.int .i64 k, .int .i64 n, .string t] 24)).alloc (.cells #[.int .i64 k2, .int .i64 n2, .string t2] 24)).alloc (.cells #[.int .i64 0, .int .i64 0, .string noT] 24)) (w.heap.size + 1 + 1) 0 0 noT) := ⟨by simp, (blk3 w _ _ _).2.2⟩
      clear HD HK HE HV H1 H2
      go_enter Try.func97, Try.ntmps97
      go_wp2_with fail
      refine hk.mono ?_
      rintro e w1 ⟨rfl, bb⟩
      have hb := (bb.block _ HB.out.1).trans HB.out.2
      obtain ⟨v0, v1, v2, y0, y1, y2⟩ := box_facts hb
      have HB1 : Hid (BoxV w1 (w.heap.size + 1 + 1) 0 0 noT) := hb
      have B1 : Hid (Below w.heap.size w w1) := (below3 w _ _ _).trans (bb.mono (below3 w _ _ _).size)
      clear hb HB hk bb
      go_wp2_with fail
      obtain ⟨q0, q1, q2, _, _, _⟩ := box_facts (box_set HB1.out xk xn xt)
      exact bodyPost_ret (v := VC xk xn xt xc) (by simp [results, Try.results97, go_sem, q0, q1, q2]) rfl ⟨rfl, below_set3 B1.out (by omega) _ _ _⟩
theorem dec_clo (d : Int) (b : Nat) (w : World) (hb : b < w.heap.size) :
    Calls Try.prog 57 #[VV 1 d noT] w fun e w' => ∃ v, e = .returned v ∧ Below w.heap.size w w' ∧ Clo b w' v (decA d) := by
  refine (decided_any 1 d noT w).mono ?_
  rintro e w' ⟨rfl, hB, h0, h2, h1⟩
  refine ⟨_, rfl, hB, 97, _, rfl, ent97, fun u' k x y _ _ => ?_⟩
  exact decided2_any d x.1 x.2.1 x.2.2 y.1 y.2.1 y.2.2 w.heap.size (w.heap.size + 1 + 1) (w.heap.size + 1) u' ((k.2 _ (lt_blk h0) (by omega)).trans h0) ((k.2 _ (lt_blk h1) (by omega)).trans h1) ((k.2 _ (lt_blk h2) (by omega)).trans h2)
end Go.Proofs.Yteloioopkndcmaa
