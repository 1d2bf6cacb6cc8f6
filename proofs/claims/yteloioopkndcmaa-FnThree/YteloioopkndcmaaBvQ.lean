/- A region that draws its order, by an invariant; the two regions of the law on BinaryValue (stage 12). -/
import Derived.Test.YteloioopkndcmaaBvU
import Derived.Deep.RegionHeld3
namespace Go.Proofs.Yteloioopkndcmaa
open Go.RowKit

theorem ready_lt {md : Region.Mode} {ops : Array Oper} {l : Array Bool} {i : Nat} (h : i ∈ Region.ready md ops l) : i < ops.size := by
  unfold Region.ready at h
  rw [List.mem_filter, List.mem_range] at h
  exact h.1
theorem ready_new {md : Region.Mode} {ops : Array Oper} {l : Array Bool} {i : Nat} (h : i ∈ Region.ready md ops l) : l.getD i true = false := by
  unfold Region.ready at h
  rw [List.mem_filter] at h
  have := h.2
  simp only [Bool.and_eq_true, Bool.not_eq_true'] at this
  exact this.1
theorem ready_deps {md : Region.Mode} {ops : Array Oper} {l : Array Bool} {i : Nat} {o : Oper} (h : i ∈ Region.ready md ops l) (ho : ops[i]? = some o) : o.after.all (fun e => !Region.binds md e || l.getD e.on false) = true := by
  unfold Region.ready at h
  rw [List.mem_filter] at h
  have := h.2
  rw [ho] at this
  simp only [Bool.and_eq_true, Option.map_some, Option.getD_some] at this
  exact this.2

/-- How many are still to come. -/
def toCome (n : Nat) (l : Array Bool) : Nat := ((List.range n).filter fun i => !l.getD i true).length
theorem toCome_set {n i : Nat} {l : Array Bool} (hi : i < n) (hs : l.size = n) (hn : l.getD i true = false) : toCome n (l.setIfInBounds i true) < toCome n l := by
  unfold toCome
  have key : ∀ k, k ≤ n → ((List.range k).filter fun j => !(l.setIfInBounds i true).getD j true).length + (if i < k then 1 else 0) = ((List.range k).filter fun j => !l.getD j true).length := by
    intro k
    induction k with
    | zero => intro _; simp
    | succ k ih =>
      intro hk
      have ih := ih (by omega)
      rw [List.range_succ, List.filter_append, List.filter_append, List.length_append, List.length_append]
      by_cases e : i = k
      · subst e
        have g1 : (l.setIfInBounds i true).getD i true = true := by simp [Array.getD, hs, hi]
        rw [if_neg (by omega)] at ih
        rw [if_pos (by omega)]
        simp only [List.filter_cons, List.filter_nil, g1, hn]
        simp
        simp at ih
        omega
      · have g1 : (l.setIfInBounds i true).getD k true = l.getD k true := by
          simp only [Array.getD_eq_getD_getElem?]
          rw [Array.getElem?_setIfInBounds_ne (by omega)]
        have : (if i < k + 1 then 1 else 0) = (if i < k then 1 else 0) := by
          by_cases h : i < k
          · rw [if_pos h, if_pos (by omega)]
          · rw [if_neg h, if_neg (by omega)]
        rw [this]
        simp only [List.filter_cons, List.filter_nil, g1]
        omega
  have := key n (Nat.le_refl _)
  rw [if_pos hi] at this
  omega

theorem wpAny_inv {P : Program} {md : Region.Mode} {ops : Array Oper} {Q : Exit → Act → World → Prop} (I : Array Bool → Act → World → Prop)
    (hstep : ∀ l a w i, l.size = ops.size → I l a w → i ∈ Region.ready md ops l → wpOp P ops Q i (I (l.setIfInBounds i true)) a w)
    (hend : ∀ l a w, l.size = ops.size → I l a w → Region.ready md ops l = [] → Q .normal a w) :
    ∀ (fuel : Nat) (l : Array Bool) (a : Act) (w : World), l.size = ops.size → toCome ops.size l ≤ fuel → I l a w → wpAny P md ops Q fuel l a w
  | 0, l, a, w, hs, hc, h => by
    have hr : Region.ready md ops l = [] := by
      rw [List.eq_nil_iff_forall_not_mem]
      intro i hi
      have h1 := toCome_set (ready_lt hi) hs (ready_new hi)
      omega
    exact ⟨hr, hend l a w hs h hr⟩
  | fuel + 1, l, a, w, hs, hc, h => by
    refine ⟨fun hr => hend l a w hs h hr, fun i hi => ?_⟩
    refine wpOp_mono (fun a' w' h' => ?_) (hstep l a w i hs h hi)
    have h1 := toCome_set (ready_lt hi) hs (ready_new hi)
    exact wpAny_inv I hstep hend fuel _ a' w' (by simpa using hs) (by omega) h'
theorem toCome_all (n : Nat) : toCome n (Array.replicate n false) ≤ n := by
  unfold toCome
  refine Nat.le_trans (List.length_filter_le _ _) ?_
  simp
/-- The region, by an invariant. -/
theorem wp_region_inv {P : Program} {ops : Array Oper} {Q : Exit → Act → World → Prop} {id : Nat} {a : Act} {w : World} (hm : P.follows .mixedOrders = true) (I : Array Bool → Act → World → Prop)
    (h0 : I (Array.replicate ops.size false) a w.drew)
    (hstep : ∀ l a w i, l.size = ops.size → I l a w → i ∈ Region.ready .any ops l → wpOp P ops Q i (I (l.setIfInBounds i true)) a w)
    (hend : ∀ l a w, l.size = ops.size → I l a w → Region.ready .any ops l = [] → Q .normal a w) : (Code.region id ops true).wp P Q a w :=
  wp_region_any hm (wpAny_inv I hstep hend _ _ _ _ (by simp) (toCome_all _) h0)
/-- Each edge leads back. -/
def backs (md : Region.Mode) (ops : Array Oper) : Bool := (List.range ops.size).all fun i => ((ops[i]?).map (·.after.all fun e => !Region.binds md e || decide (e.on < i))).getD true
theorem ready_done {md : Region.Mode} {ops : Array Oper} {l : Array Bool} (hb : backs md ops = true) (hs : l.size = ops.size) (hr : Region.ready md ops l = []) : ∀ i, i < ops.size → l.getD i false = true := by
  intro i
  induction i using Nat.strongRecOn with
  | ind i ih =>
    intro hi
    cases hc : l.getD i false
    · exfalso
      have ht : l.getD i true = false := by
        have e1 : l[i]? = some l[i] := Array.getElem?_eq_getElem (by omega)
        simp only [Array.getD_eq_getD_getElem?, e1, Option.getD_some] at hc ⊢
        exact hc
      have : i ∈ Region.ready md ops l := by
        unfold Region.ready
        rw [List.mem_filter, List.mem_range]
        refine ⟨hi, ?_⟩
        unfold backs at hb
        rw [List.all_eq_true] at hb
        have h1 := hb i (List.mem_range.mpr hi)
        rw [ht]
        have e1 : ops[i]? = some ops[i] := Array.getElem?_eq_getElem hi
        rw [e1] at h1 ⊢
        simp only [Option.map_some, Option.getD_some, Bool.not_false, Bool.true_and] at h1 ⊢
        rw [Array.all_eq_true] at h1 ⊢
        intro k hk
        have := h1 k hk
        rw [Bool.or_eq_true] at this ⊢
        rcases this with h | h
        · exact .inl h
        · have hlt : ops[i].after[k].on < i := of_decide_eq_true h
          exact .inr (ih _ hlt (by omega))
      rw [hr] at this
      cases this
    · rfl
theorem below_draw {w : World} : Below w.heap.size w w.drew := (Below.refl _ _).drew
/-- A value of the law's own type in a block. -/
abbrev BoxV' (w : World) (g : Nat) (k n : Int) (t : ByteArray) : Prop := w.heap[g]? = some (.cells #[.int .i64 k, .int .i64 n, .string t] 41 (0, 0))
theorem lt_blk' {w : World} {g : Nat} {o : Obj} (h : w.heap[g]? = some o) : g < w.heap.size := (Array.getElem?_eq_some_iff.1 h).1
theorem box_load {w w' : World} {g : Nat} {k n : Int} {t : ByteArray} (H : BoxV' w g k n t) (hb : Below w.heap.size w w') : w'.cell? ⟨g, 0, none⟩ = some (.int .i64 k) ∧ w'.cell? ⟨g, 1, none⟩ = some (.int .i64 n) ∧ w'.cell? ⟨g, 2, none⟩ = some (.string t) := by
  have h := (hb.block g (lt_blk' H)).trans H
  refine ⟨?_, ?_, ?_⟩ <;> simp [World.cell?, h]
theorem keep_box {w w' : World} {g : Nat} {k n : Int} {t : ByteArray} (h : BoxV w g k n t) (hb : Below w.heap.size w w') : BoxV w' g k n t := (hb.block g (lt_blk' h)).trans h
/-- What stands behind each set of the operations of region 10. -/
def Ib10 (w : World) (s : ByteArray) (ga gb : Nat) (k n : Int) (t : ByteArray) (k2 n2 : Int) (t2 : ByteArray) (xk xn : Int) (xt : ByteArray) (xc : Int) (s1 s2 s3 s6 s7 s10 s11 s12 s13 s14 s15 s16 s17 s18 s19 s20 s21 s22 s23 s24 s34 s35 s36 s37 s38 s39 s40 s41 s42 s43 s44 s45 s46 s47 s48 s49 s50 s51 : Value) (lst : Array Bool) (a : Act) (w' : World) : Prop :=
  ∃ l0 l1 l2 l3 l4 l5 l6 l7 l8 l9 l10 l11 x26 x27 x28 x29 x30 x31 x25 x32 x33 x8 x9, lst = #[l0, l1, l2, l3, l4, l5, l6, l7, l8, l9, l10, l11] ∧ a = ⟨#[.string s, s1, s2, s3, .pointer (some ⟨ga, 0, none⟩), .pointer (some ⟨gb, 0, none⟩), s6, s7, x8, x9, s10, s11, s12, s13, s14, s15, s16, s17, s18, s19, s20, s21, s22, s23, s24, x25, x26, x27, x28, x29, x30, x31, x32, x33, s34, s35, s36, s37, s38, s39, s40, s41, s42, s43, s44, s45, s46, s47, s48, s49, s50, s51], []⟩ ∧ (l0 = true → x26 = .string s) ∧ (l1 = true → x27 = VV k n t) ∧ (l2 = true → x28 = VV k n t) ∧ (l3 = true → x29 = VV k2 n2 t2) ∧ (l4 = true → x30 = VV k2 n2 t2) ∧ (l5 = true → x31 = VC xk xn xt xc) ∧ (l6 = true → x25 = VC xk xn xt xc) ∧ (l7 = true → x32 = VV xk xn xt) ∧ (l8 = true → x33 = .int .i64 xc) ∧ (l9 = true → ∃ Y, x8 = .pointer (some ⟨Y, 0, none⟩) ∧ w.heap.size ≤ Y ∧ (l10 = false → BoxV w' Y 0 0 noT) ∧ (l10 = true → BoxV w' Y xk xn xt)) ∧ (l10 = true → l9 = true) ∧ (l11 = true → x9 = .int .i64 xc) ∧ Below w.heap.size w w'
set_option maxRecDepth 100000 in
set_option maxHeartbeats 16000000 in
theorem regb10 {Q : Exit → Act → World → Prop} (w : World) (s : ByteArray) (ga gb : Nat) (k n : Int) (t : ByteArray) (k2 n2 : Int) (t2 : ByteArray) (xk xn : Int) (xt : ByteArray) (xc : Int) (s1 s2 s3 s6 s7 s10 s11 s12 s13 s14 s15 s16 s17 s18 s19 s20 s21 s22 s23 s24 s34 s35 s36 s37 s38 s39 s40 s41 s42 s43 s44 s45 s46 s47 s48 s49 s50 s51 : Value)
    (ha : BoxV' w ga k n t) (hb0 : BoxV' w gb k2 n2 t2)
    (hT : ∀ w', Calls Try.prog 27 #[VV k n t] w' fun e w'' => e = .returned (VV k n t) ∧ Below w'.heap.size w' w'') (hT2 : ∀ w', Calls Try.prog 27 #[VV k2 n2 t2] w' fun e w'' => e = .returned (VV k2 n2 t2) ∧ Below w'.heap.size w' w'')
    (hc : ∀ w', Calls Try.prog 20 #[.string s, VV k n t, VV k2 n2 t2] w' fun e w'' => e = .returned (VC xk xn xt xc) ∧ Below w'.heap.size w' w'')
    (hQ : ∀ x26 x27 x28 x29 x30 x31 x25 x32 x33 Y w', BoxV w' Y xk xn xt → w.heap.size ≤ Y → Below w.heap.size w w' → Q .normal ⟨#[.string s, s1, s2, s3, .pointer (some ⟨ga, 0, none⟩), .pointer (some ⟨gb, 0, none⟩), s6, s7, .pointer (some ⟨Y, 0, none⟩), .int .i64 xc, s10, s11, s12, s13, s14, s15, s16, s17, s18, s19, s20, s21, s22, s23, s24, x25, x26, x27, x28, x29, x30, x31, x32, x33, s34, s35, s36, s37, s38, s39, s40, s41, s42, s43, s44, s45, s46, s47, s48, s49, s50, s51], []⟩ w') :
    (Code.region 10 #[{ dst := some 26, op := Go.Op.move (Go.Operand.tmp 0), type := 9, pos := "exact.go:8126", after := #[], guard := none }, { dst := some 27, op := Go.Op.load 41 (Go.Operand.tmp 4), type := 41, pos := "exact.go:8126", after := #[], guard := none }, { dst := some 28, op := Go.Op.call { callee := Go.Callee.value (Go.Operand.func 27), args := #[Go.Operand.tmp 27], argTypes := #[41] }, type := 24, pos := "exact.go:8126", after := #[{ on := 1, ground := Go.Ground.data }], guard := none }, { dst := some 29, op := Go.Op.load 41 (Go.Operand.tmp 5), type := 41, pos := "exact.go:8126", after := #[], guard := none }, { dst := some 30, op := Go.Op.call { callee := Go.Callee.value (Go.Operand.func 27), args := #[Go.Operand.tmp 29], argTypes := #[41] }, type := 24, pos := "exact.go:8126", after := #[{ on := 3, ground := Go.Ground.data }, { on := 2, ground := Go.Ground.chain }], guard := none }, { dst := some 31, op := Go.Op.call { callee := Go.Callee.value (Go.Operand.func 20), args := #[Go.Operand.tmp 26, Go.Operand.tmp 28, Go.Operand.tmp 30], argTypes := #[9, 24, 24] }, type := 33, pos := "exact.go:8126", after := #[{ on := 0, ground := Go.Ground.data }, { on := 2, ground := Go.Ground.data }, { on := 4, ground := Go.Ground.data }, { on := 4, ground := Go.Ground.chain }], guard := none }, { dst := some 25, op := Go.Op.move (Go.Operand.tmp 31), type := 33, pos := "exact.go:8126", after := #[{ on := 5, ground := Go.Ground.data }], guard := none }, { dst := some 32, op := Go.Op.extract (Go.Operand.tmp 25) 0, type := 24, pos := "exact.go:8126", after := #[{ on := 6, ground := Go.Ground.data }], guard := none }, { dst := some 33, op := Go.Op.extract (Go.Operand.tmp 25) 1, type := 3, pos := "exact.go:8126", after := #[{ on := 6, ground := Go.Ground.data }, { on := 10, ground := Go.Ground.gcOnly Go.Departure.lateStores }], guard := none }, { dst := some 8, op := Go.Op.alloc 24, type := 0, pos := "exact.go:8126", after := #[], guard := none }, { dst := none, op := Go.Op.store 24 (Go.Operand.tmp 8) (Go.Operand.tmp 32), type := 0, pos := "exact.go:8126", after := #[{ on := 9, ground := Go.Ground.data }, { on := 7, ground := Go.Ground.data }, { on := 5, ground := Go.Ground.chain }, { on := 0, ground := Go.Ground.phase }, { on := 1, ground := Go.Ground.phase }, { on := 2, ground := Go.Ground.phase }, { on := 3, ground := Go.Ground.phase }, { on := 4, ground := Go.Ground.phase }, { on := 5, ground := Go.Ground.phase }, { on := 6, ground := Go.Ground.phase }, { on := 7, ground := Go.Ground.phase }, { on := 8, ground := Go.Ground.textOnly Go.Departure.lateStores }, { on := 9, ground := Go.Ground.phase }], guard := none }, { dst := some 9, op := Go.Op.assign (Go.Operand.tmp 33), type := 3, pos := "exact.go:8126", after := #[{ on := 8, ground := Go.Ground.data }, { on := 10, ground := Go.Ground.chain }, { on := 0, ground := Go.Ground.phase }, { on := 1, ground := Go.Ground.phase }, { on := 2, ground := Go.Ground.phase }, { on := 3, ground := Go.Ground.phase }, { on := 4, ground := Go.Ground.phase }, { on := 5, ground := Go.Ground.phase }, { on := 6, ground := Go.Ground.phase }, { on := 7, ground := Go.Ground.phase }, { on := 8, ground := Go.Ground.phase }, { on := 9, ground := Go.Ground.phase }, { on := 10, ground := Go.Ground.phase }], guard := none }] true).wp Try.prog Q ⟨#[.string s, s1, s2, s3, .pointer (some ⟨ga, 0, none⟩), .pointer (some ⟨gb, 0, none⟩), s6, s7, undef, undef, s10, s11, s12, s13, s14, s15, s16, s17, s18, s19, s20, s21, s22, s23, s24, undef, undef, undef, undef, undef, undef, undef, undef, undef, s34, s35, s36, s37, s38, s39, s40, s41, s42, s43, s44, s45, s46, s47, s48, s49, s50, s51], []⟩ w := by
  have HA : Hid (BoxV' w ga k n t) := ha
  have HB : Hid (BoxV' w gb k2 n2 t2) := hb0
  clear ha hb0
  refine wp_region_inv (by kernel_rfl) (Ib10 w s ga gb k n t k2 n2 t2 xk xn xt xc s1 s2 s3 s6 s7 s10 s11 s12 s13 s14 s15 s16 s17 s18 s19 s20 s21 s22 s23 s24 s34 s35 s36 s37 s38 s39 s40 s41 s42 s43 s44 s45 s46 s47 s48 s49 s50 s51) ?h0 ?hstep ?hend
  case h0 =>
    refine ⟨false, false, false, false, false, false, false, false, false, false, false, false, undef, undef, undef, undef, undef, undef, undef, undef, undef, undef, undef, rfl, rfl, ?_, ?_, ?_, ?_, ?_, ?_, ?_, ?_, ?_, ?_, ?_, ?_, ?_⟩
    all_goals first | (intro h; cases h) | exact below_draw
  case hstep =>
    clear hQ
    rintro lst a w' i hsz ⟨l0, l1, l2, l3, l4, l5, l6, l7, l8, l9, l10, l11, x26, x27, x28, x29, x30, x31, x25, x32, x33, x8, x9, rfl, rfl, m0, m1, m2, m3, m4, m5, m6, m7, m8, k9, q10, m11, hb⟩ hi
    have hlt : i < 12 := ready_lt hi
    have hnew := ready_new hi
    rcases (show i = 0 ∨ i = 1 ∨ i = 2 ∨ i = 3 ∨ i = 4 ∨ i = 5 ∨ i = 6 ∨ i = 7 ∨ i = 8 ∨ i = 9 ∨ i = 10 ∨ i = 11 by omega) with rfl | rfl | rfl | rfl | rfl | rfl | rfl | rfl | rfl | rfl | rfl | rfl
    all_goals (refine wpOp_step (by rfl) (fun K hK => ?_))
    all_goals (have hd := ready_deps hi rfl)
    all_goals (simp [Region.binds] at hd hnew)
    · subst hnew
      go_simp
      exact hK _ _ ⟨_, _, _, _, _, _, _, _, _, _, _, _, _, _, _, _, _, _, _, _, _, _, _, rfl, rfl, (fun _ => rfl), (by first | exact m1 | exact (fun _ => rfl)), (by first | exact m2 | exact (fun _ => rfl)), (by first | exact m3 | exact (fun _ => rfl)), (by first | exact m4 | exact (fun _ => rfl)), (by first | exact m5 | exact (fun _ => rfl)), (by first | exact m6 | exact (fun _ => rfl)), (by first | exact m7 | exact (fun _ => rfl)), (by first | exact m8 | exact (fun _ => rfl)), (by first | exact k9 | exact (fun h => k9 h)), (by first | exact q10 | exact (fun h => q10 h) | simp), (by first | exact m11 | exact (fun _ => rfl)), hb⟩
    · subst hnew
      obtain ⟨c0, c1, c2⟩ := box_load (H := HA.out) hb
      go_simp
      exact hK _ _ ⟨_, _, _, _, _, _, _, _, _, _, _, _, _, _, _, _, _, _, _, _, _, _, _, rfl, rfl, (by first | exact m0 | exact (fun _ => rfl)), (fun _ => rfl), (by first | exact m2 | exact (fun _ => rfl)), (by first | exact m3 | exact (fun _ => rfl)), (by first | exact m4 | exact (fun _ => rfl)), (by first | exact m5 | exact (fun _ => rfl)), (by first | exact m6 | exact (fun _ => rfl)), (by first | exact m7 | exact (fun _ => rfl)), (by first | exact m8 | exact (fun _ => rfl)), (by first | exact k9 | exact (fun h => k9 h)), (by first | exact q10 | exact (fun h => q10 h) | simp), (by first | exact m11 | exact (fun _ => rfl)), hb⟩
    · have hl : l1 = true := (by simp [hd])
      subst hnew
      obtain rfl := m1 hl
      go_simp
      go_at_call 27
      refine (hT w').mono ?_
      rintro r w'' ⟨rfl, b2⟩
      exact hK _ _ ⟨_, _, _, _, _, _, _, _, _, _, _, _, _, _, _, _, _, _, _, _, _, _, _, rfl, rfl, (by first | exact m0 | exact (fun _ => rfl)), (by first | exact m1 | exact (fun _ => rfl)), (fun _ => rfl), (by first | exact m3 | exact (fun _ => rfl)), (by first | exact m4 | exact (fun _ => rfl)), (by first | exact m5 | exact (fun _ => rfl)), (by first | exact m6 | exact (fun _ => rfl)), (by first | exact m7 | exact (fun _ => rfl)), (by first | exact m8 | exact (fun _ => rfl)), (fun h => (by obtain ⟨Y, e, hY, y1, y2⟩ := k9 h; exact ⟨Y, e, hY, (fun g => keep_box (y1 g) b2), (fun g => keep_box (y2 g) b2)⟩)), (by first | exact q10 | exact (fun h => q10 h) | simp), (by first | exact m11 | exact (fun _ => rfl)), (below_step hb (Nat.le_refl _) b2)⟩
    · subst hnew
      obtain ⟨c0, c1, c2⟩ := box_load (H := HB.out) hb
      go_simp
      exact hK _ _ ⟨_, _, _, _, _, _, _, _, _, _, _, _, _, _, _, _, _, _, _, _, _, _, _, rfl, rfl, (by first | exact m0 | exact (fun _ => rfl)), (by first | exact m1 | exact (fun _ => rfl)), (by first | exact m2 | exact (fun _ => rfl)), (fun _ => rfl), (by first | exact m4 | exact (fun _ => rfl)), (by first | exact m5 | exact (fun _ => rfl)), (by first | exact m6 | exact (fun _ => rfl)), (by first | exact m7 | exact (fun _ => rfl)), (by first | exact m8 | exact (fun _ => rfl)), (by first | exact k9 | exact (fun h => k9 h)), (by first | exact q10 | exact (fun h => q10 h) | simp), (by first | exact m11 | exact (fun _ => rfl)), hb⟩
    · have hl : l3 = true := (by simp [hd])
      subst hnew
      obtain rfl := m3 hl
      go_simp
      go_at_call 27
      refine (hT2 w').mono ?_
      rintro r w'' ⟨rfl, b2⟩
      exact hK _ _ ⟨_, _, _, _, _, _, _, _, _, _, _, _, _, _, _, _, _, _, _, _, _, _, _, rfl, rfl, (by first | exact m0 | exact (fun _ => rfl)), (by first | exact m1 | exact (fun _ => rfl)), (by first | exact m2 | exact (fun _ => rfl)), (by first | exact m3 | exact (fun _ => rfl)), (fun _ => rfl), (by first | exact m5 | exact (fun _ => rfl)), (by first | exact m6 | exact (fun _ => rfl)), (by first | exact m7 | exact (fun _ => rfl)), (by first | exact m8 | exact (fun _ => rfl)), (fun h => (by obtain ⟨Y, e, hY, y1, y2⟩ := k9 h; exact ⟨Y, e, hY, (fun g => keep_box (y1 g) b2), (fun g => keep_box (y2 g) b2)⟩)), (by first | exact q10 | exact (fun h => q10 h) | simp), (by first | exact m11 | exact (fun _ => rfl)), (below_step hb (Nat.le_refl _) b2)⟩
    · have hl0 : l0 = true := (by simp [hd])
      have hl2 : l2 = true := (by simp [hd])
      have hl4 : l4 = true := (by simp [hd])
      subst hnew
      obtain rfl := m0 hl0
      obtain rfl := m2 hl2
      obtain rfl := m4 hl4
      go_simp
      go_at_call 20
      refine (hc w').mono ?_
      rintro r w'' ⟨rfl, b2⟩
      exact hK _ _ ⟨_, _, _, _, _, _, _, _, _, _, _, _, _, _, _, _, _, _, _, _, _, _, _, rfl, rfl, (by first | exact m0 | exact (fun _ => rfl)), (by first | exact m1 | exact (fun _ => rfl)), (by first | exact m2 | exact (fun _ => rfl)), (by first | exact m3 | exact (fun _ => rfl)), (by first | exact m4 | exact (fun _ => rfl)), (fun _ => rfl), (by first | exact m6 | exact (fun _ => rfl)), (by first | exact m7 | exact (fun _ => rfl)), (by first | exact m8 | exact (fun _ => rfl)), (fun h => (by obtain ⟨Y, e, hY, y1, y2⟩ := k9 h; exact ⟨Y, e, hY, (fun g => keep_box (y1 g) b2), (fun g => keep_box (y2 g) b2)⟩)), (by first | exact q10 | exact (fun h => q10 h) | simp), (by first | exact m11 | exact (fun _ => rfl)), (below_step hb (Nat.le_refl _) b2)⟩
    · have hl : l5 = true := (by simp [hd])
      subst hnew
      obtain rfl := m5 hl
      go_simp
      exact hK _ _ ⟨_, _, _, _, _, _, _, _, _, _, _, _, _, _, _, _, _, _, _, _, _, _, _, rfl, rfl, (by first | exact m0 | exact (fun _ => rfl)), (by first | exact m1 | exact (fun _ => rfl)), (by first | exact m2 | exact (fun _ => rfl)), (by first | exact m3 | exact (fun _ => rfl)), (by first | exact m4 | exact (fun _ => rfl)), (by first | exact m5 | exact (fun _ => rfl)), (fun _ => rfl), (by first | exact m7 | exact (fun _ => rfl)), (by first | exact m8 | exact (fun _ => rfl)), (by first | exact k9 | exact (fun h => k9 h)), (by first | exact q10 | exact (fun h => q10 h) | simp), (by first | exact m11 | exact (fun _ => rfl)), hb⟩
    · have hl : l6 = true := (by simp [hd])
      subst hnew
      obtain rfl := m6 hl
      go_simp
      exact hK _ _ ⟨_, _, _, _, _, _, _, _, _, _, _, _, _, _, _, _, _, _, _, _, _, _, _, rfl, rfl, (by first | exact m0 | exact (fun _ => rfl)), (by first | exact m1 | exact (fun _ => rfl)), (by first | exact m2 | exact (fun _ => rfl)), (by first | exact m3 | exact (fun _ => rfl)), (by first | exact m4 | exact (fun _ => rfl)), (by first | exact m5 | exact (fun _ => rfl)), (by first | exact m6 | exact (fun _ => rfl)), (fun _ => rfl), (by first | exact m8 | exact (fun _ => rfl)), (by first | exact k9 | exact (fun h => k9 h)), (by first | exact q10 | exact (fun h => q10 h) | simp), (by first | exact m11 | exact (fun _ => rfl)), hb⟩
    · have hl : l6 = true := (by simp [hd])
      subst hnew
      obtain rfl := m6 hl
      go_simp
      exact hK _ _ ⟨_, _, _, _, _, _, _, _, _, _, _, _, _, _, _, _, _, _, _, _, _, _, _, rfl, rfl, (by first | exact m0 | exact (fun _ => rfl)), (by first | exact m1 | exact (fun _ => rfl)), (by first | exact m2 | exact (fun _ => rfl)), (by first | exact m3 | exact (fun _ => rfl)), (by first | exact m4 | exact (fun _ => rfl)), (by first | exact m5 | exact (fun _ => rfl)), (by first | exact m6 | exact (fun _ => rfl)), (by first | exact m7 | exact (fun _ => rfl)), (fun _ => rfl), (by first | exact k9 | exact (fun h => k9 h)), (by first | exact q10 | exact (fun h => q10 h) | simp), (by first | exact m11 | exact (fun _ => rfl)), hb⟩
    · obtain rfl : l10 = false := (by cases h : l10; rfl; exact absurd (q10 h) (by simp [hnew]))
      subst hnew
      go_simp
      exact hK _ _ ⟨_, _, _, _, _, _, _, _, _, _, _, _, _, _, _, _, _, _, _, _, _, _, _, rfl, rfl, (by first | exact m0 | exact (fun _ => rfl)), (by first | exact m1 | exact (fun _ => rfl)), (by first | exact m2 | exact (fun _ => rfl)), (by first | exact m3 | exact (fun _ => rfl)), (by first | exact m4 | exact (fun _ => rfl)), (by first | exact m5 | exact (fun _ => rfl)), (by first | exact m6 | exact (fun _ => rfl)), (by first | exact m7 | exact (fun _ => rfl)), (by first | exact m8 | exact (fun _ => rfl)), (fun _ => ⟨w'.heap.size, rfl, hb.size, (fun _ => heap_alloc_new w' _), (fun h => by cases h)⟩), (fun h => by cases h), (by first | exact m11 | exact (fun _ => rfl)), (hb.alloc hb.size _)⟩
    · have h9 : l9 = true := (by simp [hd])
      have h7 : l7 = true := (by simp [hd])
      subst hnew
      obtain rfl := m7 h7
      obtain ⟨Y, rfl, hY, y1, _⟩ := k9 h9
      have hB := y1 rfl
      obtain ⟨c0, c1, c2, f0, f1, f2⟩ := box_facts hB
      go_simp
      exact hK _ _ ⟨_, _, _, _, _, _, _, _, _, _, _, _, _, _, _, _, _, _, _, _, _, _, _, rfl, rfl, (by first | exact m0 | exact (fun _ => rfl)), (by first | exact m1 | exact (fun _ => rfl)), (by first | exact m2 | exact (fun _ => rfl)), (by first | exact m3 | exact (fun _ => rfl)), (by first | exact m4 | exact (fun _ => rfl)), (by first | exact m5 | exact (fun _ => rfl)), (by first | exact m6 | exact (fun _ => rfl)), (by first | exact m7 | exact (fun _ => rfl)), (by first | exact m8 | exact (fun _ => rfl)), (fun _ => ⟨Y, rfl, hY, (fun h => by cases h), (fun _ => box_set hB xk xn xt)⟩), (fun _ => h9), (by first | exact m11 | exact (fun _ => rfl)), (below_set3 hb hY _ _ _)⟩
    · have hl : l8 = true := (by simp [hd])
      subst hnew
      obtain rfl := m8 hl
      go_simp
      exact hK _ _ ⟨_, _, _, _, _, _, _, _, _, _, _, _, _, _, _, _, _, _, _, _, _, _, _, rfl, rfl, (by first | exact m0 | exact (fun _ => rfl)), (by first | exact m1 | exact (fun _ => rfl)), (by first | exact m2 | exact (fun _ => rfl)), (by first | exact m3 | exact (fun _ => rfl)), (by first | exact m4 | exact (fun _ => rfl)), (by first | exact m5 | exact (fun _ => rfl)), (by first | exact m6 | exact (fun _ => rfl)), (by first | exact m7 | exact (fun _ => rfl)), (by first | exact m8 | exact (fun _ => rfl)), (by first | exact k9 | exact (fun h => k9 h)), (by first | exact q10 | exact (fun h => q10 h) | simp), (fun _ => rfl), hb⟩
  case hend =>
    rintro lst a w' hsz ⟨l0, l1, l2, l3, l4, l5, l6, l7, l8, l9, l10, l11, x26, x27, x28, x29, x30, x31, x25, x32, x33, x8, x9, rfl, rfl, m0, m1, m2, m3, m4, m5, m6, m7, m8, k9, q10, m11, hb⟩ hrd
    have hall := ready_done (by kernel_rfl) hsz hrd
    obtain ⟨Y, rfl, hY, _, y2⟩ := k9 (hall 9 (by decide))
    obtain rfl := m11 (hall 11 (by decide))
    exact hQ _ _ _ _ _ _ _ _ _ Y w' (y2 (hall 10 (by decide))) hY hb
/-- What stands behind each set of the operations of region 11. -/
def Ib11 (w : World) (s : ByteArray) (ga gb : Nat) (k n : Int) (t : ByteArray) (k2 n2 : Int) (t2 : ByteArray) (xk xn : Int) (xt : ByteArray) (xc : Int) (s1 s2 s3 s6 s7 s8 s9 s12 s13 s14 s15 s16 s17 s18 s19 s20 s21 s22 s23 s24 s25 s26 s27 s28 s29 s30 s31 s32 s33 s43 s44 s45 s46 s47 s48 s49 s50 s51 : Value) (lst : Array Bool) (a : Act) (w' : World) : Prop :=
  ∃ l0 l1 l2 l3 l4 l5 l6 l7 l8 l9 l10 l11 x35 x36 x37 x38 x39 x40 x34 x41 x42 x10 x11, lst = #[l0, l1, l2, l3, l4, l5, l6, l7, l8, l9, l10, l11] ∧ a = ⟨#[.string s, s1, s2, s3, .pointer (some ⟨ga, 0, none⟩), .pointer (some ⟨gb, 0, none⟩), s6, s7, s8, s9, x10, x11, s12, s13, s14, s15, s16, s17, s18, s19, s20, s21, s22, s23, s24, s25, s26, s27, s28, s29, s30, s31, s32, s33, x34, x35, x36, x37, x38, x39, x40, x41, x42, s43, s44, s45, s46, s47, s48, s49, s50, s51], []⟩ ∧ (l0 = true → x35 = .string s) ∧ (l1 = true → x36 = VV k n t) ∧ (l2 = true → x37 = VV k n t) ∧ (l3 = true → x38 = VV k2 n2 t2) ∧ (l4 = true → x39 = VV k2 n2 t2) ∧ (l5 = true → x40 = VC xk xn xt xc) ∧ (l6 = true → x34 = VC xk xn xt xc) ∧ (l7 = true → x41 = VV xk xn xt) ∧ (l8 = true → x42 = .int .i64 xc) ∧ (l9 = true → ∃ Y, x10 = .pointer (some ⟨Y, 0, none⟩) ∧ w.heap.size ≤ Y ∧ (l10 = false → BoxV w' Y 0 0 noT) ∧ (l10 = true → BoxV w' Y xk xn xt)) ∧ (l10 = true → l9 = true) ∧ (l11 = true → x11 = .int .i64 xc) ∧ Below w.heap.size w w'
set_option maxRecDepth 100000 in
set_option maxHeartbeats 16000000 in
theorem regb11 {Q : Exit → Act → World → Prop} (w : World) (s : ByteArray) (ga gb : Nat) (k n : Int) (t : ByteArray) (k2 n2 : Int) (t2 : ByteArray) (xk xn : Int) (xt : ByteArray) (xc : Int) (s1 s2 s3 s6 s7 s8 s9 s12 s13 s14 s15 s16 s17 s18 s19 s20 s21 s22 s23 s24 s25 s26 s27 s28 s29 s30 s31 s32 s33 s43 s44 s45 s46 s47 s48 s49 s50 s51 : Value)
    (ha : BoxV' w ga k n t) (hb0 : BoxV' w gb k2 n2 t2)
    (hT : ∀ w', Calls Try.prog 27 #[VV k n t] w' fun e w'' => e = .returned (VV k n t) ∧ Below w'.heap.size w' w'') (hT2 : ∀ w', Calls Try.prog 27 #[VV k2 n2 t2] w' fun e w'' => e = .returned (VV k2 n2 t2) ∧ Below w'.heap.size w' w'')
    (hc : ∀ w', Calls Try.prog 19 #[.string s, VV k n t, VV k2 n2 t2] w' fun e w'' => e = .returned (VC xk xn xt xc) ∧ Below w'.heap.size w' w'')
    (hQ : ∀ x35 x36 x37 x38 x39 x40 x34 x41 x42 Y w', BoxV w' Y xk xn xt → w.heap.size ≤ Y → Below w.heap.size w w' → Q .normal ⟨#[.string s, s1, s2, s3, .pointer (some ⟨ga, 0, none⟩), .pointer (some ⟨gb, 0, none⟩), s6, s7, s8, s9, .pointer (some ⟨Y, 0, none⟩), .int .i64 xc, s12, s13, s14, s15, s16, s17, s18, s19, s20, s21, s22, s23, s24, s25, s26, s27, s28, s29, s30, s31, s32, s33, x34, x35, x36, x37, x38, x39, x40, x41, x42, s43, s44, s45, s46, s47, s48, s49, s50, s51], []⟩ w') :
    (Code.region 11 #[{ dst := some 35, op := Go.Op.move (Go.Operand.tmp 0), type := 9, pos := "exact.go:8127", after := #[], guard := none }, { dst := some 36, op := Go.Op.load 41 (Go.Operand.tmp 4), type := 41, pos := "exact.go:8127", after := #[], guard := none }, { dst := some 37, op := Go.Op.call { callee := Go.Callee.value (Go.Operand.func 27), args := #[Go.Operand.tmp 36], argTypes := #[41] }, type := 24, pos := "exact.go:8127", after := #[{ on := 1, ground := Go.Ground.data }], guard := none }, { dst := some 38, op := Go.Op.load 41 (Go.Operand.tmp 5), type := 41, pos := "exact.go:8127", after := #[], guard := none }, { dst := some 39, op := Go.Op.call { callee := Go.Callee.value (Go.Operand.func 27), args := #[Go.Operand.tmp 38], argTypes := #[41] }, type := 24, pos := "exact.go:8127", after := #[{ on := 3, ground := Go.Ground.data }, { on := 2, ground := Go.Ground.chain }], guard := none }, { dst := some 40, op := Go.Op.call { callee := Go.Callee.value (Go.Operand.func 19), args := #[Go.Operand.tmp 35, Go.Operand.tmp 37, Go.Operand.tmp 39], argTypes := #[9, 24, 24] }, type := 33, pos := "exact.go:8127", after := #[{ on := 0, ground := Go.Ground.data }, { on := 2, ground := Go.Ground.data }, { on := 4, ground := Go.Ground.data }, { on := 4, ground := Go.Ground.chain }], guard := none }, { dst := some 34, op := Go.Op.move (Go.Operand.tmp 40), type := 33, pos := "exact.go:8127", after := #[{ on := 5, ground := Go.Ground.data }], guard := none }, { dst := some 41, op := Go.Op.extract (Go.Operand.tmp 34) 0, type := 24, pos := "exact.go:8127", after := #[{ on := 6, ground := Go.Ground.data }], guard := none }, { dst := some 42, op := Go.Op.extract (Go.Operand.tmp 34) 1, type := 3, pos := "exact.go:8127", after := #[{ on := 6, ground := Go.Ground.data }, { on := 10, ground := Go.Ground.gcOnly Go.Departure.lateStores }], guard := none }, { dst := some 10, op := Go.Op.alloc 24, type := 0, pos := "exact.go:8127", after := #[], guard := none }, { dst := none, op := Go.Op.store 24 (Go.Operand.tmp 10) (Go.Operand.tmp 41), type := 0, pos := "exact.go:8127", after := #[{ on := 9, ground := Go.Ground.data }, { on := 7, ground := Go.Ground.data }, { on := 5, ground := Go.Ground.chain }, { on := 0, ground := Go.Ground.phase }, { on := 1, ground := Go.Ground.phase }, { on := 2, ground := Go.Ground.phase }, { on := 3, ground := Go.Ground.phase }, { on := 4, ground := Go.Ground.phase }, { on := 5, ground := Go.Ground.phase }, { on := 6, ground := Go.Ground.phase }, { on := 7, ground := Go.Ground.phase }, { on := 8, ground := Go.Ground.textOnly Go.Departure.lateStores }, { on := 9, ground := Go.Ground.phase }], guard := none }, { dst := some 11, op := Go.Op.assign (Go.Operand.tmp 42), type := 3, pos := "exact.go:8127", after := #[{ on := 8, ground := Go.Ground.data }, { on := 10, ground := Go.Ground.chain }, { on := 0, ground := Go.Ground.phase }, { on := 1, ground := Go.Ground.phase }, { on := 2, ground := Go.Ground.phase }, { on := 3, ground := Go.Ground.phase }, { on := 4, ground := Go.Ground.phase }, { on := 5, ground := Go.Ground.phase }, { on := 6, ground := Go.Ground.phase }, { on := 7, ground := Go.Ground.phase }, { on := 8, ground := Go.Ground.phase }, { on := 9, ground := Go.Ground.phase }, { on := 10, ground := Go.Ground.phase }], guard := none }] true).wp Try.prog Q ⟨#[.string s, s1, s2, s3, .pointer (some ⟨ga, 0, none⟩), .pointer (some ⟨gb, 0, none⟩), s6, s7, s8, s9, undef, undef, s12, s13, s14, s15, s16, s17, s18, s19, s20, s21, s22, s23, s24, s25, s26, s27, s28, s29, s30, s31, s32, s33, undef, undef, undef, undef, undef, undef, undef, undef, undef, s43, s44, s45, s46, s47, s48, s49, s50, s51], []⟩ w := by
  have HA : Hid (BoxV' w ga k n t) := ha
  have HB : Hid (BoxV' w gb k2 n2 t2) := hb0
  clear ha hb0
  refine wp_region_inv (by kernel_rfl) (Ib11 w s ga gb k n t k2 n2 t2 xk xn xt xc s1 s2 s3 s6 s7 s8 s9 s12 s13 s14 s15 s16 s17 s18 s19 s20 s21 s22 s23 s24 s25 s26 s27 s28 s29 s30 s31 s32 s33 s43 s44 s45 s46 s47 s48 s49 s50 s51) ?h0 ?hstep ?hend
  case h0 =>
    refine ⟨false, false, false, false, false, false, false, false, false, false, false, false, undef, undef, undef, undef, undef, undef, undef, undef, undef, undef, undef, rfl, rfl, ?_, ?_, ?_, ?_, ?_, ?_, ?_, ?_, ?_, ?_, ?_, ?_, ?_⟩
    all_goals first | (intro h; cases h) | exact below_draw
  case hstep =>
    clear hQ
    rintro lst a w' i hsz ⟨l0, l1, l2, l3, l4, l5, l6, l7, l8, l9, l10, l11, x35, x36, x37, x38, x39, x40, x34, x41, x42, x10, x11, rfl, rfl, m0, m1, m2, m3, m4, m5, m6, m7, m8, k9, q10, m11, hb⟩ hi
    have hlt : i < 12 := ready_lt hi
    have hnew := ready_new hi
    rcases (show i = 0 ∨ i = 1 ∨ i = 2 ∨ i = 3 ∨ i = 4 ∨ i = 5 ∨ i = 6 ∨ i = 7 ∨ i = 8 ∨ i = 9 ∨ i = 10 ∨ i = 11 by omega) with rfl | rfl | rfl | rfl | rfl | rfl | rfl | rfl | rfl | rfl | rfl | rfl
    all_goals (refine wpOp_step (by rfl) (fun K hK => ?_))
    all_goals (have hd := ready_deps hi rfl)
    all_goals (simp [Region.binds] at hd hnew)
    · subst hnew
      go_simp
      exact hK _ _ ⟨_, _, _, _, _, _, _, _, _, _, _, _, _, _, _, _, _, _, _, _, _, _, _, rfl, rfl, (fun _ => rfl), (by first | exact m1 | exact (fun _ => rfl)), (by first | exact m2 | exact (fun _ => rfl)), (by first | exact m3 | exact (fun _ => rfl)), (by first | exact m4 | exact (fun _ => rfl)), (by first | exact m5 | exact (fun _ => rfl)), (by first | exact m6 | exact (fun _ => rfl)), (by first | exact m7 | exact (fun _ => rfl)), (by first | exact m8 | exact (fun _ => rfl)), (by first | exact k9 | exact (fun h => k9 h)), (by first | exact q10 | exact (fun h => q10 h) | simp), (by first | exact m11 | exact (fun _ => rfl)), hb⟩
    · subst hnew
      obtain ⟨c0, c1, c2⟩ := box_load (H := HA.out) hb
      go_simp
      exact hK _ _ ⟨_, _, _, _, _, _, _, _, _, _, _, _, _, _, _, _, _, _, _, _, _, _, _, rfl, rfl, (by first | exact m0 | exact (fun _ => rfl)), (fun _ => rfl), (by first | exact m2 | exact (fun _ => rfl)), (by first | exact m3 | exact (fun _ => rfl)), (by first | exact m4 | exact (fun _ => rfl)), (by first | exact m5 | exact (fun _ => rfl)), (by first | exact m6 | exact (fun _ => rfl)), (by first | exact m7 | exact (fun _ => rfl)), (by first | exact m8 | exact (fun _ => rfl)), (by first | exact k9 | exact (fun h => k9 h)), (by first | exact q10 | exact (fun h => q10 h) | simp), (by first | exact m11 | exact (fun _ => rfl)), hb⟩
    · have hl : l1 = true := (by simp [hd])
      subst hnew
      obtain rfl := m1 hl
      go_simp
      go_at_call 27
      refine (hT w').mono ?_
      rintro r w'' ⟨rfl, b2⟩
      exact hK _ _ ⟨_, _, _, _, _, _, _, _, _, _, _, _, _, _, _, _, _, _, _, _, _, _, _, rfl, rfl, (by first | exact m0 | exact (fun _ => rfl)), (by first | exact m1 | exact (fun _ => rfl)), (fun _ => rfl), (by first | exact m3 | exact (fun _ => rfl)), (by first | exact m4 | exact (fun _ => rfl)), (by first | exact m5 | exact (fun _ => rfl)), (by first | exact m6 | exact (fun _ => rfl)), (by first | exact m7 | exact (fun _ => rfl)), (by first | exact m8 | exact (fun _ => rfl)), (fun h => (by obtain ⟨Y, e, hY, y1, y2⟩ := k9 h; exact ⟨Y, e, hY, (fun g => keep_box (y1 g) b2), (fun g => keep_box (y2 g) b2)⟩)), (by first | exact q10 | exact (fun h => q10 h) | simp), (by first | exact m11 | exact (fun _ => rfl)), (below_step hb (Nat.le_refl _) b2)⟩
    · subst hnew
      obtain ⟨c0, c1, c2⟩ := box_load (H := HB.out) hb
      go_simp
      exact hK _ _ ⟨_, _, _, _, _, _, _, _, _, _, _, _, _, _, _, _, _, _, _, _, _, _, _, rfl, rfl, (by first | exact m0 | exact (fun _ => rfl)), (by first | exact m1 | exact (fun _ => rfl)), (by first | exact m2 | exact (fun _ => rfl)), (fun _ => rfl), (by first | exact m4 | exact (fun _ => rfl)), (by first | exact m5 | exact (fun _ => rfl)), (by first | exact m6 | exact (fun _ => rfl)), (by first | exact m7 | exact (fun _ => rfl)), (by first | exact m8 | exact (fun _ => rfl)), (by first | exact k9 | exact (fun h => k9 h)), (by first | exact q10 | exact (fun h => q10 h) | simp), (by first | exact m11 | exact (fun _ => rfl)), hb⟩
    · have hl : l3 = true := (by simp [hd])
      subst hnew
      obtain rfl := m3 hl
      go_simp
      go_at_call 27
      refine (hT2 w').mono ?_
      rintro r w'' ⟨rfl, b2⟩
      exact hK _ _ ⟨_, _, _, _, _, _, _, _, _, _, _, _, _, _, _, _, _, _, _, _, _, _, _, rfl, rfl, (by first | exact m0 | exact (fun _ => rfl)), (by first | exact m1 | exact (fun _ => rfl)), (by first | exact m2 | exact (fun _ => rfl)), (by first | exact m3 | exact (fun _ => rfl)), (fun _ => rfl), (by first | exact m5 | exact (fun _ => rfl)), (by first | exact m6 | exact (fun _ => rfl)), (by first | exact m7 | exact (fun _ => rfl)), (by first | exact m8 | exact (fun _ => rfl)), (fun h => (by obtain ⟨Y, e, hY, y1, y2⟩ := k9 h; exact ⟨Y, e, hY, (fun g => keep_box (y1 g) b2), (fun g => keep_box (y2 g) b2)⟩)), (by first | exact q10 | exact (fun h => q10 h) | simp), (by first | exact m11 | exact (fun _ => rfl)), (below_step hb (Nat.le_refl _) b2)⟩
    · have hl0 : l0 = true := (by simp [hd])
      have hl2 : l2 = true := (by simp [hd])
      have hl4 : l4 = true := (by simp [hd])
      subst hnew
      obtain rfl := m0 hl0
      obtain rfl := m2 hl2
      obtain rfl := m4 hl4
      go_simp
      go_at_call 19
      refine (hc w').mono ?_
      rintro r w'' ⟨rfl, b2⟩
      exact hK _ _ ⟨_, _, _, _, _, _, _, _, _, _, _, _, _, _, _, _, _, _, _, _, _, _, _, rfl, rfl, (by first | exact m0 | exact (fun _ => rfl)), (by first | exact m1 | exact (fun _ => rfl)), (by first | exact m2 | exact (fun _ => rfl)), (by first | exact m3 | exact (fun _ => rfl)), (by first | exact m4 | exact (fun _ => rfl)), (fun _ => rfl), (by first | exact m6 | exact (fun _ => rfl)), (by first | exact m7 | exact (fun _ => rfl)), (by first | exact m8 | exact (fun _ => rfl)), (fun h => (by obtain ⟨Y, e, hY, y1, y2⟩ := k9 h; exact ⟨Y, e, hY, (fun g => keep_box (y1 g) b2), (fun g => keep_box (y2 g) b2)⟩)), (by first | exact q10 | exact (fun h => q10 h) | simp), (by first | exact m11 | exact (fun _ => rfl)), (below_step hb (Nat.le_refl _) b2)⟩
    · have hl : l5 = true := (by simp [hd])
      subst hnew
      obtain rfl := m5 hl
      go_simp
      exact hK _ _ ⟨_, _, _, _, _, _, _, _, _, _, _, _, _, _, _, _, _, _, _, _, _, _, _, rfl, rfl, (by first | exact m0 | exact (fun _ => rfl)), (by first | exact m1 | exact (fun _ => rfl)), (by first | exact m2 | exact (fun _ => rfl)), (by first | exact m3 | exact (fun _ => rfl)), (by first | exact m4 | exact (fun _ => rfl)), (by first | exact m5 | exact (fun _ => rfl)), (fun _ => rfl), (by first | exact m7 | exact (fun _ => rfl)), (by first | exact m8 | exact (fun _ => rfl)), (by first | exact k9 | exact (fun h => k9 h)), (by first | exact q10 | exact (fun h => q10 h) | simp), (by first | exact m11 | exact (fun _ => rfl)), hb⟩
    · have hl : l6 = true := (by simp [hd])
      subst hnew
      obtain rfl := m6 hl
      go_simp
      exact hK _ _ ⟨_, _, _, _, _, _, _, _, _, _, _, _, _, _, _, _, _, _, _, _, _, _, _, rfl, rfl, (by first | exact m0 | exact (fun _ => rfl)), (by first | exact m1 | exact (fun _ => rfl)), (by first | exact m2 | exact (fun _ => rfl)), (by first | exact m3 | exact (fun _ => rfl)), (by first | exact m4 | exact (fun _ => rfl)), (by first | exact m5 | exact (fun _ => rfl)), (by first | exact m6 | exact (fun _ => rfl)), (fun _ => rfl), (by first | exact m8 | exact (fun _ => rfl)), (by first | exact k9 | exact (fun h => k9 h)), (by first | exact q10 | exact (fun h => q10 h) | simp), (by first | exact m11 | exact (fun _ => rfl)), hb⟩
    · have hl : l6 = true := (by simp [hd])
      subst hnew
      obtain rfl := m6 hl
      go_simp
      exact hK _ _ ⟨_, _, _, _, _, _, _, _, _, _, _, _, _, _, _, _, _, _, _, _, _, _, _, rfl, rfl, (by first | exact m0 | exact (fun _ => rfl)), (by first | exact m1 | exact (fun _ => rfl)), (by first | exact m2 | exact (fun _ => rfl)), (by first | exact m3 | exact (fun _ => rfl)), (by first | exact m4 | exact (fun _ => rfl)), (by first | exact m5 | exact (fun _ => rfl)), (by first | exact m6 | exact (fun _ => rfl)), (by first | exact m7 | exact (fun _ => rfl)), (fun _ => rfl), (by first | exact k9 | exact (fun h => k9 h)), (by first | exact q10 | exact (fun h => q10 h) | simp), (by first | exact m11 | exact (fun _ => rfl)), hb⟩
    · obtain rfl : l10 = false := (by cases h : l10; rfl; exact absurd (q10 h) (by simp [hnew]))
      subst hnew
      go_simp
      exact hK _ _ ⟨_, _, _, _, _, _, _, _, _, _, _, _, _, _, _, _, _, _, _, _, _, _, _, rfl, rfl, (by first | exact m0 | exact (fun _ => rfl)), (by first | exact m1 | exact (fun _ => rfl)), (by first | exact m2 | exact (fun _ => rfl)), (by first | exact m3 | exact (fun _ => rfl)), (by first | exact m4 | exact (fun _ => rfl)), (by first | exact m5 | exact (fun _ => rfl)), (by first | exact m6 | exact (fun _ => rfl)), (by first | exact m7 | exact (fun _ => rfl)), (by first | exact m8 | exact (fun _ => rfl)), (fun _ => ⟨w'.heap.size, rfl, hb.size, (fun _ => heap_alloc_new w' _), (fun h => by cases h)⟩), (fun h => by cases h), (by first | exact m11 | exact (fun _ => rfl)), (hb.alloc hb.size _)⟩
    · have h9 : l9 = true := (by simp [hd])
      have h7 : l7 = true := (by simp [hd])
      subst hnew
      obtain rfl := m7 h7
      obtain ⟨Y, rfl, hY, y1, _⟩ := k9 h9
      have hB := y1 rfl
      obtain ⟨c0, c1, c2, f0, f1, f2⟩ := box_facts hB
      go_simp
      exact hK _ _ ⟨_, _, _, _, _, _, _, _, _, _, _, _, _, _, _, _, _, _, _, _, _, _, _, rfl, rfl, (by first | exact m0 | exact (fun _ => rfl)), (by first | exact m1 | exact (fun _ => rfl)), (by first | exact m2 | exact (fun _ => rfl)), (by first | exact m3 | exact (fun _ => rfl)), (by first | exact m4 | exact (fun _ => rfl)), (by first | exact m5 | exact (fun _ => rfl)), (by first | exact m6 | exact (fun _ => rfl)), (by first | exact m7 | exact (fun _ => rfl)), (by first | exact m8 | exact (fun _ => rfl)), (fun _ => ⟨Y, rfl, hY, (fun h => by cases h), (fun _ => box_set hB xk xn xt)⟩), (fun _ => h9), (by first | exact m11 | exact (fun _ => rfl)), (below_set3 hb hY _ _ _)⟩
    · have hl : l8 = true := (by simp [hd])
      subst hnew
      obtain rfl := m8 hl
      go_simp
      exact hK _ _ ⟨_, _, _, _, _, _, _, _, _, _, _, _, _, _, _, _, _, _, _, _, _, _, _, rfl, rfl, (by first | exact m0 | exact (fun _ => rfl)), (by first | exact m1 | exact (fun _ => rfl)), (by first | exact m2 | exact (fun _ => rfl)), (by first | exact m3 | exact (fun _ => rfl)), (by first | exact m4 | exact (fun _ => rfl)), (by first | exact m5 | exact (fun _ => rfl)), (by first | exact m6 | exact (fun _ => rfl)), (by first | exact m7 | exact (fun _ => rfl)), (by first | exact m8 | exact (fun _ => rfl)), (by first | exact k9 | exact (fun h => k9 h)), (by first | exact q10 | exact (fun h => q10 h) | simp), (fun _ => rfl), hb⟩
  case hend =>
    rintro lst a w' hsz ⟨l0, l1, l2, l3, l4, l5, l6, l7, l8, l9, l10, l11, x35, x36, x37, x38, x39, x40, x34, x41, x42, x10, x11, rfl, rfl, m0, m1, m2, m3, m4, m5, m6, m7, m8, k9, q10, m11, hb⟩ hrd
    have hall := ready_done (by kernel_rfl) hsz hrd
    obtain ⟨Y, rfl, hY, _, y2⟩ := k9 (hall 9 (by decide))
    obtain rfl := m11 (hall 11 (by decide))
    exact hQ _ _ _ _ _ _ _ _ _ Y w' (y2 (hall 10 (by decide))) hY hb
end Go.Proofs.Yteloioopkndcmaa
