/- How both sides read a meta. -/
import Derived.Test.YtbnnplelbbcanaaMetD
namespace Go.Proofs.Ytbnnplelbbcanaa
open Go.RowKit

/-- The numbers that a sector tells as a meta. -/
def mE (s : ByteArray) : Nat := numOf (s.extract 2 6).data.toList
def mF (s : ByteArray) : Int := byU s.data.toList 6
def mL (s : ByteArray) : Nat := numOf (s.extract 7 9).data.toList
/-- The sector is just a right meta's. -/
def mOK (s : ByteArray) : Bool := okM (mE s) (mF s) (mL s) && (tx (metaL (mE s) (mF s) (mL s))).toList == s.toList

/-- Three cells of a block. -/
abbrev St3 (b : Nat) (x F y : Int) (w' : World) : Prop := w'.cell? ⟨b, 0, none⟩ = some (.int .i64 x) ∧ w'.cell? ⟨b, 1, none⟩ = some (.int .i64 F) ∧ w'.cell? ⟨b, 2, none⟩ = some (.int .i64 y)
theorem St3.keep {b B : Nat} {x F y : Int} {w1 w2 : World} (hs : St3 b x F y w1) (hb : Below B w1 w2) (hB : b < B) : St3 b x F y w2 :=
  ⟨(hb.cell (p := ⟨b, 0, none⟩) hB).trans hs.1, (hb.cell (p := ⟨b, 1, none⟩) hB).trans hs.2.1, (hb.cell (p := ⟨b, 2, none⟩) hB).trans hs.2.2⟩
/-- The world behind the answer's place and the meta's. -/
abbrev rmW (w : World) (x F y : Int) : World := (w.alloc (.cells #[.int .i64 0, .int .i64 0, .int .i64 0] 31)).alloc (.cells #[.int .i64 x, .int .i64 F, .int .i64 y] 31)
theorem rmW_at (w : World) (x F y : Int) : St3 (w.heap.size + 1) x F y (rmW w x F y) := by
  have h : (rmW w x F y).heap[w.heap.size + 1]? = some (.cells #[.int .i64 x, .int .i64 F, .int .i64 y] 31 (0, 0)) := heap_new' _ _ _ (by simp)
  exact ⟨slab_cell h, slab_cell h, slab_cell h⟩
theorem rmW_res (w : World) (x F y : Int) : (rmW w x F y).heap[w.heap.size]? = some (.cells #[.int .i64 0, .int .i64 0, .int .i64 0] 31 (0, 0)) := (heap_old _ _ _ (by simp)).trans (heap_new' _ _ _ rfl)
theorem rmW_below (w : World) (x F y : Int) : Below w.heap.size w (rmW w x F y) := ((Below.refl _ _).alloc (Nat.le_refl _) _).alloc (by simp) _
theorem res_cells {w : World} {b : Nat} (h : w.heap[b]? = some (.cells #[.int .i64 0, .int .i64 0, .int .i64 0] 31 (0, 0))) : w.cell? ⟨b, 0, none⟩ = some (.int .i64 0) ∧ w.cell? ⟨b, 1, none⟩ = some (.int .i64 0) ∧ w.cell? ⟨b, 2, none⟩ = some (.int .i64 0) ∧ w.frozen? ⟨b, 0, none⟩ = false ∧ w.frozen? ⟨b, 1, none⟩ = false ∧ w.frozen? ⟨b, 2, none⟩ = false :=
  ⟨slab_cell h, slab_cell h, slab_cell h, slab_free h, slab_free h, slab_free h⟩

theorem step_if {c : Prop} [Decidable c] {A E : Prop} (hc : c) (h : A) : if c then A else E := by rw [if_pos hc]; exact h
theorem wp_c40 {o : Oper} {a : Act} {w : World} {K : Act → World → Prop} {Q : Exit → Act → World → Prop} (t : Tmp)
    (ho : o.op = .call { callee := .value (.func 40), args := #[.tmp t], argTypes := #[31] }) (v : Value) (hx : a.tmps[t]?.getD undef = v) (r : Value) (hc : Calls Try.prog 40 #[v] w fun e w' => e = .returned r ∧ Below w.heap.size w w')
    (h : ∀ w', Below w.heap.size w w' → K (a.put o.dst r) w') : Oper.wp Try.prog o a w K Q := by
  obtain ⟨dst, op, ty, pos, aft, gd⟩ := o
  subst ho
  go_simp
  refine hc.mono ?_
  rintro e w' ⟨rfl, hb⟩
  exact h w' hb
theorem wp_c41 {o : Oper} {a : Act} {w : World} {K : Act → World → Prop} {Q : Exit → Act → World → Prop} (t : Tmp)
    (ho : o.op = .call { callee := .value (.func 41), args := #[.tmp t], argTypes := #[31] }) (v : Value) (hx : a.tmps[t]?.getD undef = v) (r : Value) (hc : Calls Try.prog 41 #[v] w fun e w' => e = .returned r ∧ Below w.heap.size w w')
    (h : ∀ w', Below w.heap.size w w' → K (a.put o.dst r) w') : Oper.wp Try.prog o a w K Q := by
  obtain ⟨dst, op, ty, pos, aft, gd⟩ := o
  subst ho
  go_simp
  refine hc.mono ?_
  rintro e w' ⟨rfl, hb⟩
  exact h w' hb
theorem eql_text {ρ : Operand → Value} {o : Oper} {t u : Tmp} {T s : ByteArray} {ok : Bool} {w1 : World} (ho : o.op = .binOp .eql 9 (.tmp t) (.tmp u) 9) (h1 : ρ (.tmp t) = .string T) (h2 : ρ (.tmp u) = .string s) (hb : (T.toList == s.toList) = ok) : (execOp ρ o).run Try.prog w1 = .ok (.value (.bool ok)) w1 := by
  subst hb
  unfold execOp
  rw [ho]
  simp [h1, h2, go_sem]
theorem load_St3 {b : Nat} {x F y : Int} {w1 : World} (hs : St3 b x F y w1) {ρ : Operand → Value} {o : Oper} {t : Tmp} (ho : o.op = .load 31 (.tmp t)) (hρ : ρ (.tmp t) = .pointer (some ⟨b, 0, none⟩)) : (execOp ρ o).run Try.prog w1 = .ok (.value (MV x F y)) w1 := by
  have hr : w1.rangeAt b 0 [.int .i64 x, .int .i64 F, .int .i64 y] := fun j v hv => by
    rw [Nat.zero_add]
    match j, hv with
    | 0, hv => cases hv; exact hs.1
    | 1, hv => cases hv; exact hs.2.1
    | 2, hv => cases hv; exact hs.2.2
    | n + 3, hv => simp at hv
  have h := run_loadAt_mid (P := Try.prog) w1 b 0 31 [.int .i64 x, .int .i64 F, .int .i64 y] _ hr Try.underlying31 rfl (by kernel_rfl)
  unfold execOp
  rw [ho]
  simp only [hρ, Sem.run_bind, h, Result.andThen_ok, Sem.run_pure]

theorem one3 (x F y : Int) : ((#[.int .i64 x, .int .i64 F, .int .i64 y] : Array Value).all fun v => v.oneCell') = true :=
  all_oneCell_toArray (cs := [.int .i64 x, .int .i64 F, .int .i64 y]) (fun v hv => by simp at hv; rcases hv with rfl | rfl | rfl <;> rfl)
theorem there3 {w : World} {b : Nat} {p q r : Value} (h : w.heap[b]? = some (.cells #[p, q, r] 31 (0, 0))) : w.there b 0 3 := fun j hj => by
  rw [slab_cell h, slab_free h, Nat.zero_add]
  have : j = 0 ∨ j = 1 ∨ j = 2 := by omega
  rcases this with rfl | rfl | rfl <;> exact ⟨rfl, rfl⟩
theorem St3.put {w w5 : World} {x F y : Int} {vs : List Value} (h : St3 (w.heap.size + 1) x F y w5) (hz : w.heap.size + 1 < w5.heap.size) : St3 (w.heap.size + 1) x F y (w5.setCells w.heap.size 0 vs) := by
  have hb := (grown_setCells w.heap.size vs 0 w5).block (w.heap.size + 1) hz (fun e => by simp at e)
  exact ⟨(World.cell?_of_block (a := ⟨w.heap.size + 1, 0, none⟩) hb).trans h.1, (World.cell?_of_block (a := ⟨w.heap.size + 1, 1, none⟩) hb).trans h.2.1, (World.cell?_of_block (a := ⟨w.heap.size + 1, 2, none⟩) hb).trans h.2.2⟩
theorem res_put {w : World} {b : Nat} {p q r : Value} (h : w.heap[b]? = some (.cells #[p, q, r] 31 (0, 0))) (x F y : Int) : St3 b x F y (w.setCells b 0 [.int .i64 x, .int .i64 F, .int .i64 y]) := by
  have := World.rangeAt_setCells_same w b 0 [.int .i64 x, .int .i64 F, .int .i64 y] (there3 h)
  exact ⟨this 0 _ rfl, this 1 _ rfl, this 2 _ rfl⟩
theorem below_setCells {B g : Nat} {a w : World} (h : Below B a w) (hg : B ≤ g) (hB : B ≤ w.heap.size) (o : Nat) (vs : List Value) : Below B a (w.setCells g o vs) :=
  h.grown (grown_setCells g vs o w) hB (fun k hk => by cases hk; exact hg)

set_option maxRecDepth 100000 in
set_option maxHeartbeats 8000000 in
theorem l03ReadMeta_any (s : ByteArray) (w : World) (hs : s.size = 32) :
    Calls Try.prog 42 #[.string s] w fun e w' => e = .returned (.tuple #[MV (mE s) (mF s) (mL s), .bool (mOK s)]) ∧ Below w.heap.size w w' := by
  obtain ⟨x, hx⟩ : ∃ x, mE s = x := ⟨_, rfl⟩
  obtain ⟨y, hy⟩ : ∃ y, mL s = y := ⟨_, rfl⟩
  obtain ⟨F, hF⟩ : ∃ F, mF s = F := ⟨_, rfl⟩
  have HE : Hid (mE s = x ∧ mF s = F ∧ mL s = y) := ⟨hx, hF, hy⟩
  have HX : Hid (numOf (s.extract 2 6).data.toList = x) := hx
  have HY : Hid (numOf (s.extract 7 9).data.toList = y) := hy
  have HS1 : Hid ((s.extract 2 6).size ≤ 4) := by show _ ≤ _; rw [ext_size s 2 6 hs (by omega)]; omega
  have HS2 : Hid ((s.extract 7 9).size ≤ 4) := by show _ ≤ _; rw [ext_size s 7 9 hs (by omega)]; omega
  have g4 : 6 < s.size := by omega
  have hw6 : IntKind.i64.wrap ((s[6]'g4).toNat : Int) = F := by
    rw [← hF]
    unfold mF byU
    rw [getB s 6 g4, IntKind.wrap_i64]
    have := (s.data.toList.getD 6 0).toNat_lt
    omega
  have HZ : Hid (mOK s = (okM x F y && (tx (metaL x F y)).toList == s.toList)) := by show _ = _; unfold mOK; rw [hx, hy, hF]
  have HB1 : Hid (Below w.heap.size w (rmW w x F y)) := rmW_below w x F y
  have HA : Hid (St3 (w.heap.size + 1) x F y (rmW w x F y).drew.drew) := rmW_at w x F y
  have HRs : Hid ((rmW w x F y).drew.drew.heap[w.heap.size]? = some (.cells #[.int .i64 0, .int .i64 0, .int .i64 0] 31 (0, 0))) := rmW_res w x F y
  have HSz : Hid (w.heap.size + 1 < (rmW w x F y).drew.drew.heap.size) := by show _ < (rmW w x F y).heap.size; simp
  clear hx hy hF
  have g1 : (9 : Int) ≤ (s.size : Int) := by omega
  have g2 : (6 : Int) < (s.size : Int) := by omega
  have g3 : (6 : Int) ≤ (s.size : Int) := by omega
  have HSS : Hid (s.size = 32) := hs
  clear hs
  have hl : okM x F y = true → (0 : Int) ≤ (y : Int) ∧ (y : Int) ≤ 3000 := fun h => okM_len h
  have HLn : Hid (okM x F y = true → (0 : Int) ≤ (y : Int) ∧ (y : Int) ≤ 3000) := hl
  clear hl
  go_enter Try.func42, Try.ntmps42
  go_wp2_with fail
  rename_i K hK
  have rest : K { tmps := #[Value.string s, undef, Value.pointer (some ⟨w.heap.size, 0, none⟩), Value.bool false, Value.pointer (some ⟨w.heap.size + 1, 0, none⟩), Value.string s, Value.string (s.extract 2 6), Value.int .i64 x, Value.string s, Value.int .u8 (s[6]'g4).toNat, Value.int .i64 F, Value.string s, Value.string (s.extract 7 9), Value.int .i64 y, Value.agg #[Value.int .i64 x, Value.int .i64 F, Value.int .i64 y], undef, undef, undef, undef, undef, undef, undef, undef, undef], defers := [] } (rmW w x F y).drew := by
    apply hK
    clear hw6 HX HY HS1 HS2 g1 g2 g3
    generalize Value.int .u8 (s[6]'g4).toNat = vb
    cases hok : okM x F y
    · have HK : Hid (mOK s = false) := by show _ = _; rw [HZ.out, hok]; rfl
      go_wp2_with fail
      refine wp_region_noPanic ?_
      refine wp_region_held_drew (S := St3 (w.heap.size + 1) x F y) (by kernel_rfl) HA.out (fun _ => ?_)
      refine wpAnyH_take (fuel := 10) (i := 0) (v := MV x F y) (by rfl) (by kernel_rfl) (by kernel_rfl) (by kernel_rfl) (fun c a w h => h) (.inl ⟨by rfl, fun w1 hS1 => load_St3 hS1 rfl rfl⟩) HA.out ?_
      change wpAnyH _ _ _ _ _ _ _ { tmps := #[Value.string s, undef, Value.pointer (some ⟨w.heap.size, 0, none⟩), Value.bool false, Value.pointer (some ⟨w.heap.size + 1, 0, none⟩), Value.string s, Value.string (s.extract 2 6), Value.int .i64 x, Value.string s, vb, Value.int .i64 F, Value.string s, Value.string (s.extract 7 9), Value.int .i64 y, MV x F y, MV x F y, undef, undef, undef, undef, undef, undef, undef, undef], defers := [] } _
      refine wpAnyH_take (fuel := 9) (i := 1) (v := MV x F y) (by rfl) (by kernel_rfl) (by kernel_rfl) (by kernel_rfl) (fun c a w h => h) (.inl ⟨by rfl, fun w1 hS1 => load_St3 hS1 rfl rfl⟩) HA.out ?_
      change wpAnyH _ _ _ _ _ _ _ { tmps := #[Value.string s, undef, Value.pointer (some ⟨w.heap.size, 0, none⟩), Value.bool false, Value.pointer (some ⟨w.heap.size + 1, 0, none⟩), Value.string s, Value.string (s.extract 2 6), Value.int .i64 x, Value.string s, vb, Value.int .i64 F, Value.string s, Value.string (s.extract 7 9), Value.int .i64 y, MV x F y, MV x F y, MV x F y, undef, undef, undef, undef, undef, undef, undef], defers := [] } _
      refine wpAnyH_ready (rs := [2]) (by kernel_rfl) (by decide) (AllReadyH.cons (by rfl) (fun K' hK' => ?_) AllReadyH.nil)
      refine step_if (by rfl) ?_
      refine wp_c40 16 (by rfl) (MV x F y) (by rfl) (.bool false) ?_ (fun w5 hb => hK'.out _ _ (HA.out.keep hb HSz.out) (fun HA5 => ?_))
      · have := l03MetaOK_any x F y (rmW w x F y).drew.drew
        rw [hok] at this
        exact this
      have hr5 := (hb.block w.heap.size (Nat.lt_of_succ_lt HSz.out)).trans HRs.out
      have B0 : Below w.heap.size w (rmW w x F y).drew.drew := below_drewN (below_drewN HB1.out 1) 1
      have B5 : Below w.heap.size w w5 := B0.trans (hb.mono (Nat.le_trans (Nat.le_succ _) (Nat.le_of_lt HSz.out)))
      have z5 : w.heap.size + 1 < w5.heap.size := Nat.lt_of_lt_of_le HSz.out hb.size
      change wpAnyH _ _ _ _ _ _ _ { tmps := #[Value.string s, undef, Value.pointer (some ⟨w.heap.size, 0, none⟩), Value.bool false, Value.pointer (some ⟨w.heap.size + 1, 0, none⟩), Value.string s, Value.string (s.extract 2 6), Value.int .i64 x, Value.string s, vb, Value.int .i64 F, Value.string s, Value.string (s.extract 7 9), Value.int .i64 y, MV x F y, MV x F y, MV x F y, Value.bool false, undef, undef, undef, undef, undef, undef], defers := [] } _
      refine wpAnyH_take (fuel := 7) (i := 3) (v := .bool false) (by rfl) (by kernel_rfl) (by kernel_rfl) (by kernel_rfl) (fun c a w h => h) (.inl ⟨by rfl, fun w1 _ => by rfl⟩) HA5 ?_
      change wpAnyH _ _ _ _ _ _ _ { tmps := #[Value.string s, undef, Value.pointer (some ⟨w.heap.size, 0, none⟩), Value.bool false, Value.pointer (some ⟨w.heap.size + 1, 0, none⟩), Value.string s, Value.string (s.extract 2 6), Value.int .i64 x, Value.string s, vb, Value.int .i64 F, Value.string s, Value.string (s.extract 7 9), Value.int .i64 y, MV x F y, MV x F y, MV x F y, Value.bool false, Value.bool false, undef, undef, undef, undef, undef], defers := [] } _
      refine wpAnyH_take (fuel := 6) (i := 4) (v := undef) (by rfl) (by kernel_rfl) (by kernel_rfl) (by kernel_rfl) (fun c a w h => h) (.inr ⟨by rfl, rfl⟩) HA5 ?_
      change wpAnyH _ _ _ _ _ _ _ { tmps := #[Value.string s, undef, Value.pointer (some ⟨w.heap.size, 0, none⟩), Value.bool false, Value.pointer (some ⟨w.heap.size + 1, 0, none⟩), Value.string s, Value.string (s.extract 2 6), Value.int .i64 x, Value.string s, vb, Value.int .i64 F, Value.string s, Value.string (s.extract 7 9), Value.int .i64 y, MV x F y, MV x F y, MV x F y, Value.bool false, Value.bool false, undef, undef, undef, undef, undef], defers := [] } _
      refine wpAnyH_take (fuel := 5) (i := 5) (v := undef) (by rfl) (by kernel_rfl) (by kernel_rfl) (by kernel_rfl) (fun c a w h => h) (.inr ⟨by rfl, rfl⟩) HA5 ?_
      change wpAnyH _ _ _ _ _ _ _ { tmps := #[Value.string s, undef, Value.pointer (some ⟨w.heap.size, 0, none⟩), Value.bool false, Value.pointer (some ⟨w.heap.size + 1, 0, none⟩), Value.string s, Value.string (s.extract 2 6), Value.int .i64 x, Value.string s, vb, Value.int .i64 F, Value.string s, Value.string (s.extract 7 9), Value.int .i64 y, MV x F y, MV x F y, MV x F y, Value.bool false, Value.bool false, undef, undef, undef, undef, undef], defers := [] } _
      refine wpAnyH_take (fuel := 4) (i := 6) (v := undef) (by rfl) (by kernel_rfl) (by kernel_rfl) (by kernel_rfl) (fun c a w h => h) (.inr ⟨by rfl, rfl⟩) HA5 ?_
      change wpAnyH _ _ _ _ _ _ _ { tmps := #[Value.string s, undef, Value.pointer (some ⟨w.heap.size, 0, none⟩), Value.bool false, Value.pointer (some ⟨w.heap.size + 1, 0, none⟩), Value.string s, Value.string (s.extract 2 6), Value.int .i64 x, Value.string s, vb, Value.int .i64 F, Value.string s, Value.string (s.extract 7 9), Value.int .i64 y, MV x F y, MV x F y, MV x F y, Value.bool false, Value.bool false, undef, undef, undef, undef, undef], defers := [] } _
      refine wpAnyH_take (fuel := 3) (i := 7) (v := undef) (by rfl) (by kernel_rfl) (by kernel_rfl) (by kernel_rfl) (fun c a w h => h) (.inr ⟨by rfl, rfl⟩) HA5 ?_
      change wpAnyH _ _ _ _ _ _ _ { tmps := #[Value.string s, undef, Value.pointer (some ⟨w.heap.size, 0, none⟩), Value.bool false, Value.pointer (some ⟨w.heap.size + 1, 0, none⟩), Value.string s, Value.string (s.extract 2 6), Value.int .i64 x, Value.string s, vb, Value.int .i64 F, Value.string s, Value.string (s.extract 7 9), Value.int .i64 y, MV x F y, MV x F y, MV x F y, Value.bool false, Value.bool false, undef, undef, undef, undef, undef], defers := [] } _
      refine wpAnyH_take (fuel := 2) (i := 8) (v := .bool false) (by rfl) (by kernel_rfl) (by kernel_rfl) (by kernel_rfl) (fun c a w h => h) (.inl ⟨by rfl, fun w1 _ => by rfl⟩) HA5 ?_
      change wpAnyH _ _ _ _ _ _ _ { tmps := #[Value.string s, undef, Value.pointer (some ⟨w.heap.size, 0, none⟩), Value.bool false, Value.pointer (some ⟨w.heap.size + 1, 0, none⟩), Value.string s, Value.string (s.extract 2 6), Value.int .i64 x, Value.string s, vb, Value.int .i64 F, Value.string s, Value.string (s.extract 7 9), Value.int .i64 y, MV x F y, MV x F y, MV x F y, Value.bool false, Value.bool false, undef, undef, undef, undef, Value.bool false], defers := [] } _
      refine wpAnyH_ready (rs := [9]) (by kernel_rfl) (by decide) (AllReadyH.cons (by rfl) (fun K' hK' => ?_) AllReadyH.nil)
      refine step_if (by rfl) ?_
      refine wp_store_mid 31 _ _ (by rfl) w.heap.size 0 #[.int .i64 x, .int .i64 F, .int .i64 y] (by rfl) (by rfl) (there3 hr5) (by kernel_rfl) (one3 x F y) (hK'.out _ _ (St3.put HA5 z5) (fun HA6 => ?_))
      change wpAnyH _ _ _ _ _ _ _ { tmps := #[Value.string s, undef, Value.pointer (some ⟨w.heap.size, 0, none⟩), Value.bool false, Value.pointer (some ⟨w.heap.size + 1, 0, none⟩), Value.string s, Value.string (s.extract 2 6), Value.int .i64 x, Value.string s, vb, Value.int .i64 F, Value.string s, Value.string (s.extract 7 9), Value.int .i64 y, MV x F y, MV x F y, MV x F y, Value.bool false, Value.bool false, undef, undef, undef, undef, Value.bool false], defers := [] } _
      refine wpAnyH_take (fuel := 0) (i := 10) (v := .bool false) (by rfl) (by kernel_rfl) (by kernel_rfl) (by kernel_rfl) (fun c a w h => h) (.inl ⟨by rfl, fun w1 _ => by rfl⟩) HA6 ?_
      refine wpAnyH_done (by kernel_rfl) (NoPanic.normal ?_) 0
      obtain ⟨r0, r1, r2⟩ := res_put (w := w5) hr5 x F y
      have B6 : Below w.heap.size w (w5.setCells w.heap.size 0 [.int .i64 x, .int .i64 F, .int .i64 y]) := below_setCells B5 (Nat.le_refl _) (Nat.le_of_lt (Nat.lt_of_succ_lt z5)) _ _
      change Exit.then _ _ Exit.normal { tmps := #[Value.string s, undef, Value.pointer (some ⟨w.heap.size, 0, none⟩), Value.bool false, Value.pointer (some ⟨w.heap.size + 1, 0, none⟩), Value.string s, Value.string (s.extract 2 6), Value.int .i64 x, Value.string s, vb, Value.int .i64 F, Value.string s, Value.string (s.extract 7 9), Value.int .i64 y, MV x F y, MV x F y, MV x F y, Value.bool false, Value.bool false, undef, undef, undef, undef, Value.bool false], defers := [] } (w5.setCells w.heap.size 0 [.int .i64 x, .int .i64 F, .int .i64 y])
      obtain ⟨W6, hW6⟩ : ∃ W6, w5.setCells w.heap.size 0 [.int .i64 x, .int .i64 F, .int .i64 y] = W6 := ⟨_, rfl⟩
      rw [hW6] at r0 r1 r2 B6 ⊢
      clear hW6 HA6 HA5 hr5 z5
      obtain ⟨e1, e2, e3⟩ := HE.out
      have HQ : Hid (Value.tuple #[MV (mE s) (mF s) (mL s), .bool (mOK s)] = .tuple #[MV x F y, .bool false]) := by show _ = _; rw [e1, e2, e3, HK.out]
      clear e1 e2 e3
      go_wp2
      rw [HQ.out]
      exact bodyPost_ret (v := .tuple #[MV x F y, .bool false]) (by simp [results, Try.results42, go_sem, r0, r1, r2]) rfl ⟨rfl, B6⟩
    · obtain ⟨l0, l1⟩ := HLn.out hok
      obtain ⟨T, hT⟩ : ∃ T, tx (metaL x F y) = T := ⟨_, rfl⟩
      have HM : Hid (tx (metaL x F y) = T) := hT
      by_cases hTs : T.toList = s.toList
      · have HK : Hid (mOK s = true) := by show _ = _; rw [HZ.out, hok, hT]; simp [hTs]
        clear hT
        go_wp2_with fail
        refine wp_region_noPanic ?_
        refine wp_region_held_drew (S := St3 (w.heap.size + 1) x F y) (by kernel_rfl) HA.out (fun _ => ?_)
        refine wpAnyH_take (fuel := 10) (i := 0) (v := MV x F y) (by rfl) (by kernel_rfl) (by kernel_rfl) (by kernel_rfl) (fun c a w h => h) (.inl ⟨by rfl, fun w1 hS1 => load_St3 hS1 rfl rfl⟩) HA.out ?_
        change wpAnyH _ _ _ _ _ _ _ { tmps := #[Value.string s, undef, Value.pointer (some ⟨w.heap.size, 0, none⟩), Value.bool false, Value.pointer (some ⟨w.heap.size + 1, 0, none⟩), Value.string s, Value.string (s.extract 2 6), Value.int .i64 x, Value.string s, vb, Value.int .i64 F, Value.string s, Value.string (s.extract 7 9), Value.int .i64 y, MV x F y, MV x F y, undef, undef, undef, undef, undef, undef, undef, undef], defers := [] } _
        refine wpAnyH_take (fuel := 9) (i := 1) (v := MV x F y) (by rfl) (by kernel_rfl) (by kernel_rfl) (by kernel_rfl) (fun c a w h => h) (.inl ⟨by rfl, fun w1 hS1 => load_St3 hS1 rfl rfl⟩) HA.out ?_
        change wpAnyH _ _ _ _ _ _ _ { tmps := #[Value.string s, undef, Value.pointer (some ⟨w.heap.size, 0, none⟩), Value.bool false, Value.pointer (some ⟨w.heap.size + 1, 0, none⟩), Value.string s, Value.string (s.extract 2 6), Value.int .i64 x, Value.string s, vb, Value.int .i64 F, Value.string s, Value.string (s.extract 7 9), Value.int .i64 y, MV x F y, MV x F y, MV x F y, undef, undef, undef, undef, undef, undef, undef], defers := [] } _
        refine wpAnyH_ready (rs := [2]) (by kernel_rfl) (by decide) (AllReadyH.cons (by rfl) (fun K' hK' => ?_) AllReadyH.nil)
        refine step_if (by rfl) ?_
        refine wp_c40 16 (by rfl) (MV x F y) (by rfl) (.bool true) ?_ (fun w5 hb => hK'.out _ _ (HA.out.keep hb HSz.out) (fun HA5 => ?_))
        · have := l03MetaOK_any x F y (rmW w x F y).drew.drew
          rw [hok] at this
          exact this
        have hr5 := (hb.block w.heap.size (Nat.lt_of_succ_lt HSz.out)).trans HRs.out
        have B0 : Below w.heap.size w (rmW w x F y).drew.drew := below_drewN (below_drewN HB1.out 1) 1
        have B5 : Below w.heap.size w w5 := B0.trans (hb.mono (Nat.le_trans (Nat.le_succ _) (Nat.le_of_lt HSz.out)))
        have z5 : w.heap.size + 1 < w5.heap.size := Nat.lt_of_lt_of_le HSz.out hb.size
        change wpAnyH _ _ _ _ _ _ _ { tmps := #[Value.string s, undef, Value.pointer (some ⟨w.heap.size, 0, none⟩), Value.bool false, Value.pointer (some ⟨w.heap.size + 1, 0, none⟩), Value.string s, Value.string (s.extract 2 6), Value.int .i64 x, Value.string s, vb, Value.int .i64 F, Value.string s, Value.string (s.extract 7 9), Value.int .i64 y, MV x F y, MV x F y, MV x F y, Value.bool true, undef, undef, undef, undef, undef, undef], defers := [] } _
        refine wpAnyH_take (fuel := 7) (i := 3) (v := .bool true) (by rfl) (by kernel_rfl) (by kernel_rfl) (by kernel_rfl) (fun c a w h => h) (.inl ⟨by rfl, fun w1 _ => by rfl⟩) HA5 ?_
        change wpAnyH _ _ _ _ _ _ _ { tmps := #[Value.string s, undef, Value.pointer (some ⟨w.heap.size, 0, none⟩), Value.bool false, Value.pointer (some ⟨w.heap.size + 1, 0, none⟩), Value.string s, Value.string (s.extract 2 6), Value.int .i64 x, Value.string s, vb, Value.int .i64 F, Value.string s, Value.string (s.extract 7 9), Value.int .i64 y, MV x F y, MV x F y, MV x F y, Value.bool true, Value.bool true, undef, undef, undef, undef, undef], defers := [] } _
        refine wpAnyH_take (fuel := 6) (i := 4) (v := MV x F y) (by rfl) (by kernel_rfl) (by kernel_rfl) (by kernel_rfl) (fun c a w h => h) (.inl ⟨by rfl, fun w1 hS1 => load_St3 hS1 rfl rfl⟩) HA5 ?_
        change wpAnyH _ _ _ _ _ _ _ { tmps := #[Value.string s, undef, Value.pointer (some ⟨w.heap.size, 0, none⟩), Value.bool false, Value.pointer (some ⟨w.heap.size + 1, 0, none⟩), Value.string s, Value.string (s.extract 2 6), Value.int .i64 x, Value.string s, vb, Value.int .i64 F, Value.string s, Value.string (s.extract 7 9), Value.int .i64 y, MV x F y, MV x F y, MV x F y, Value.bool true, Value.bool true, MV x F y, undef, undef, undef, undef], defers := [] } _
        refine wpAnyH_take (fuel := 5) (i := 6) (v := .string s) (by rfl) (by kernel_rfl) (by kernel_rfl) (by kernel_rfl) (fun c a w h => h) (.inl ⟨by rfl, fun w1 _ => by rfl⟩) HA5 ?_
        change wpAnyH _ _ _ _ _ _ _ { tmps := #[Value.string s, undef, Value.pointer (some ⟨w.heap.size, 0, none⟩), Value.bool false, Value.pointer (some ⟨w.heap.size + 1, 0, none⟩), Value.string s, Value.string (s.extract 2 6), Value.int .i64 x, Value.string s, vb, Value.int .i64 F, Value.string s, Value.string (s.extract 7 9), Value.int .i64 y, MV x F y, MV x F y, MV x F y, Value.bool true, Value.bool true, MV x F y, undef, Value.string s, undef, undef], defers := [] } _
        refine wpAnyH_ready (rs := [5]) (by kernel_rfl) (by decide) (AllReadyH.cons (by rfl) (fun K2 hK2 => ?_) AllReadyH.nil)
        refine step_if (by rfl) ?_
        refine wp_c41 19 (by rfl) (MV x F y) (by rfl) (.string T) ?_ (fun w7 hb7 => hK2.out _ _ (HA5.keep hb7 z5) (fun HA7 => ?_))
        · have := l03Meta_any x F y w5 l0 l1
          rw [HM.out] at this
          exact this
        have hr7 := (hb7.block w.heap.size (Nat.lt_of_succ_lt z5)).trans hr5
        have B7 : Below w.heap.size w w7 := below_step B5 (Nat.le_refl _) hb7
        have z7 : w.heap.size + 1 < w7.heap.size := Nat.lt_of_lt_of_le z5 hb7.size
        change wpAnyH _ _ _ _ _ _ _ { tmps := #[Value.string s, undef, Value.pointer (some ⟨w.heap.size, 0, none⟩), Value.bool false, Value.pointer (some ⟨w.heap.size + 1, 0, none⟩), Value.string s, Value.string (s.extract 2 6), Value.int .i64 x, Value.string s, vb, Value.int .i64 F, Value.string s, Value.string (s.extract 7 9), Value.int .i64 y, MV x F y, MV x F y, MV x F y, Value.bool true, Value.bool true, MV x F y, Value.string T, Value.string s, undef, undef], defers := [] } _
        refine wpAnyH_take (fuel := 3) (i := 7) (v := .bool true) (by rfl) (by kernel_rfl) (by kernel_rfl) (by kernel_rfl) (fun c a w h => h) (.inl ⟨by rfl, fun w1 _ => eql_text (by rfl) (by rfl) (by rfl) (by simp [hTs])⟩) HA7 ?_
        change wpAnyH _ _ _ _ _ _ _ { tmps := #[Value.string s, undef, Value.pointer (some ⟨w.heap.size, 0, none⟩), Value.bool false, Value.pointer (some ⟨w.heap.size + 1, 0, none⟩), Value.string s, Value.string (s.extract 2 6), Value.int .i64 x, Value.string s, vb, Value.int .i64 F, Value.string s, Value.string (s.extract 7 9), Value.int .i64 y, MV x F y, MV x F y, MV x F y, Value.bool true, Value.bool true, MV x F y, Value.string T, Value.string s, Value.bool true, undef], defers := [] } _
        refine wpAnyH_take (fuel := 2) (i := 8) (v := .bool true) (by rfl) (by kernel_rfl) (by kernel_rfl) (by kernel_rfl) (fun c a w h => h) (.inl ⟨by rfl, fun w1 _ => by rfl⟩) HA7 ?_
        change wpAnyH _ _ _ _ _ _ _ { tmps := #[Value.string s, undef, Value.pointer (some ⟨w.heap.size, 0, none⟩), Value.bool false, Value.pointer (some ⟨w.heap.size + 1, 0, none⟩), Value.string s, Value.string (s.extract 2 6), Value.int .i64 x, Value.string s, vb, Value.int .i64 F, Value.string s, Value.string (s.extract 7 9), Value.int .i64 y, MV x F y, MV x F y, MV x F y, Value.bool true, Value.bool true, MV x F y, Value.string T, Value.string s, Value.bool true, Value.bool true], defers := [] } _
        refine wpAnyH_ready (rs := [9]) (by kernel_rfl) (by decide) (AllReadyH.cons (by rfl) (fun K' hK' => ?_) AllReadyH.nil)
        refine step_if (by rfl) ?_
        refine wp_store_mid 31 _ _ (by rfl) w.heap.size 0 #[.int .i64 x, .int .i64 F, .int .i64 y] (by rfl) (by rfl) (there3 hr7) (by kernel_rfl) (one3 x F y) (hK'.out _ _ (St3.put HA7 z7) (fun HA6 => ?_))
        change wpAnyH _ _ _ _ _ _ _ { tmps := #[Value.string s, undef, Value.pointer (some ⟨w.heap.size, 0, none⟩), Value.bool false, Value.pointer (some ⟨w.heap.size + 1, 0, none⟩), Value.string s, Value.string (s.extract 2 6), Value.int .i64 x, Value.string s, vb, Value.int .i64 F, Value.string s, Value.string (s.extract 7 9), Value.int .i64 y, MV x F y, MV x F y, MV x F y, Value.bool true, Value.bool true, MV x F y, Value.string T, Value.string s, Value.bool true, Value.bool true], defers := [] } _
        refine wpAnyH_take (fuel := 0) (i := 10) (v := .bool true) (by rfl) (by kernel_rfl) (by kernel_rfl) (by kernel_rfl) (fun c a w h => h) (.inl ⟨by rfl, fun w1 _ => by rfl⟩) HA6 ?_
        refine wpAnyH_done (by kernel_rfl) (NoPanic.normal ?_) 0
        obtain ⟨r0, r1, r2⟩ := res_put (w := w7) hr7 x F y
        have B6 : Below w.heap.size w (w7.setCells w.heap.size 0 [.int .i64 x, .int .i64 F, .int .i64 y]) := below_setCells B7 (Nat.le_refl _) (Nat.le_of_lt (Nat.lt_of_succ_lt z7)) _ _
        change Exit.then _ _ Exit.normal { tmps := #[Value.string s, undef, Value.pointer (some ⟨w.heap.size, 0, none⟩), Value.bool true, Value.pointer (some ⟨w.heap.size + 1, 0, none⟩), Value.string s, Value.string (s.extract 2 6), Value.int .i64 x, Value.string s, vb, Value.int .i64 F, Value.string s, Value.string (s.extract 7 9), Value.int .i64 y, MV x F y, MV x F y, MV x F y, Value.bool true, Value.bool true, MV x F y, Value.string T, Value.string s, Value.bool true, Value.bool true], defers := [] } (w7.setCells w.heap.size 0 [.int .i64 x, .int .i64 F, .int .i64 y])
        obtain ⟨W6, hW6⟩ : ∃ W6, w7.setCells w.heap.size 0 [.int .i64 x, .int .i64 F, .int .i64 y] = W6 := ⟨_, rfl⟩
        rw [hW6] at r0 r1 r2 B6 ⊢
        clear hW6 HA6 HA7 hr7 z7
        obtain ⟨e1, e2, e3⟩ := HE.out
        have HQ : Hid (Value.tuple #[MV (mE s) (mF s) (mL s), .bool (mOK s)] = .tuple #[MV x F y, .bool true]) := by show _ = _; rw [e1, e2, e3, HK.out]
        clear e1 e2 e3
        go_wp2
        rw [HQ.out]
        exact bodyPost_ret (v := .tuple #[MV x F y, .bool true]) (by simp [results, Try.results42, go_sem, r0, r1, r2]) rfl ⟨rfl, B6⟩
      · have HK : Hid (mOK s = false) := by show _ = _; rw [HZ.out, hok, hT]; simp [hTs]
        clear hT
        go_wp2_with fail
        refine wp_region_noPanic ?_
        refine wp_region_held_drew (S := St3 (w.heap.size + 1) x F y) (by kernel_rfl) HA.out (fun _ => ?_)
        refine wpAnyH_take (fuel := 10) (i := 0) (v := MV x F y) (by rfl) (by kernel_rfl) (by kernel_rfl) (by kernel_rfl) (fun c a w h => h) (.inl ⟨by rfl, fun w1 hS1 => load_St3 hS1 rfl rfl⟩) HA.out ?_
        change wpAnyH _ _ _ _ _ _ _ { tmps := #[Value.string s, undef, Value.pointer (some ⟨w.heap.size, 0, none⟩), Value.bool false, Value.pointer (some ⟨w.heap.size + 1, 0, none⟩), Value.string s, Value.string (s.extract 2 6), Value.int .i64 x, Value.string s, vb, Value.int .i64 F, Value.string s, Value.string (s.extract 7 9), Value.int .i64 y, MV x F y, MV x F y, undef, undef, undef, undef, undef, undef, undef, undef], defers := [] } _
        refine wpAnyH_take (fuel := 9) (i := 1) (v := MV x F y) (by rfl) (by kernel_rfl) (by kernel_rfl) (by kernel_rfl) (fun c a w h => h) (.inl ⟨by rfl, fun w1 hS1 => load_St3 hS1 rfl rfl⟩) HA.out ?_
        change wpAnyH _ _ _ _ _ _ _ { tmps := #[Value.string s, undef, Value.pointer (some ⟨w.heap.size, 0, none⟩), Value.bool false, Value.pointer (some ⟨w.heap.size + 1, 0, none⟩), Value.string s, Value.string (s.extract 2 6), Value.int .i64 x, Value.string s, vb, Value.int .i64 F, Value.string s, Value.string (s.extract 7 9), Value.int .i64 y, MV x F y, MV x F y, MV x F y, undef, undef, undef, undef, undef, undef, undef], defers := [] } _
        refine wpAnyH_ready (rs := [2]) (by kernel_rfl) (by decide) (AllReadyH.cons (by rfl) (fun K' hK' => ?_) AllReadyH.nil)
        refine step_if (by rfl) ?_
        refine wp_c40 16 (by rfl) (MV x F y) (by rfl) (.bool true) ?_ (fun w5 hb => hK'.out _ _ (HA.out.keep hb HSz.out) (fun HA5 => ?_))
        · have := l03MetaOK_any x F y (rmW w x F y).drew.drew
          rw [hok] at this
          exact this
        have hr5 := (hb.block w.heap.size (Nat.lt_of_succ_lt HSz.out)).trans HRs.out
        have B0 : Below w.heap.size w (rmW w x F y).drew.drew := below_drewN (below_drewN HB1.out 1) 1
        have B5 : Below w.heap.size w w5 := B0.trans (hb.mono (Nat.le_trans (Nat.le_succ _) (Nat.le_of_lt HSz.out)))
        have z5 : w.heap.size + 1 < w5.heap.size := Nat.lt_of_lt_of_le HSz.out hb.size
        change wpAnyH _ _ _ _ _ _ _ { tmps := #[Value.string s, undef, Value.pointer (some ⟨w.heap.size, 0, none⟩), Value.bool false, Value.pointer (some ⟨w.heap.size + 1, 0, none⟩), Value.string s, Value.string (s.extract 2 6), Value.int .i64 x, Value.string s, vb, Value.int .i64 F, Value.string s, Value.string (s.extract 7 9), Value.int .i64 y, MV x F y, MV x F y, MV x F y, Value.bool true, undef, undef, undef, undef, undef, undef], defers := [] } _
        refine wpAnyH_take (fuel := 7) (i := 3) (v := .bool true) (by rfl) (by kernel_rfl) (by kernel_rfl) (by kernel_rfl) (fun c a w h => h) (.inl ⟨by rfl, fun w1 _ => by rfl⟩) HA5 ?_
        change wpAnyH _ _ _ _ _ _ _ { tmps := #[Value.string s, undef, Value.pointer (some ⟨w.heap.size, 0, none⟩), Value.bool false, Value.pointer (some ⟨w.heap.size + 1, 0, none⟩), Value.string s, Value.string (s.extract 2 6), Value.int .i64 x, Value.string s, vb, Value.int .i64 F, Value.string s, Value.string (s.extract 7 9), Value.int .i64 y, MV x F y, MV x F y, MV x F y, Value.bool true, Value.bool true, undef, undef, undef, undef, undef], defers := [] } _
        refine wpAnyH_take (fuel := 6) (i := 4) (v := MV x F y) (by rfl) (by kernel_rfl) (by kernel_rfl) (by kernel_rfl) (fun c a w h => h) (.inl ⟨by rfl, fun w1 hS1 => load_St3 hS1 rfl rfl⟩) HA5 ?_
        change wpAnyH _ _ _ _ _ _ _ { tmps := #[Value.string s, undef, Value.pointer (some ⟨w.heap.size, 0, none⟩), Value.bool false, Value.pointer (some ⟨w.heap.size + 1, 0, none⟩), Value.string s, Value.string (s.extract 2 6), Value.int .i64 x, Value.string s, vb, Value.int .i64 F, Value.string s, Value.string (s.extract 7 9), Value.int .i64 y, MV x F y, MV x F y, MV x F y, Value.bool true, Value.bool true, MV x F y, undef, undef, undef, undef], defers := [] } _
        refine wpAnyH_take (fuel := 5) (i := 6) (v := .string s) (by rfl) (by kernel_rfl) (by kernel_rfl) (by kernel_rfl) (fun c a w h => h) (.inl ⟨by rfl, fun w1 _ => by rfl⟩) HA5 ?_
        change wpAnyH _ _ _ _ _ _ _ { tmps := #[Value.string s, undef, Value.pointer (some ⟨w.heap.size, 0, none⟩), Value.bool false, Value.pointer (some ⟨w.heap.size + 1, 0, none⟩), Value.string s, Value.string (s.extract 2 6), Value.int .i64 x, Value.string s, vb, Value.int .i64 F, Value.string s, Value.string (s.extract 7 9), Value.int .i64 y, MV x F y, MV x F y, MV x F y, Value.bool true, Value.bool true, MV x F y, undef, Value.string s, undef, undef], defers := [] } _
        refine wpAnyH_ready (rs := [5]) (by kernel_rfl) (by decide) (AllReadyH.cons (by rfl) (fun K2 hK2 => ?_) AllReadyH.nil)
        refine step_if (by rfl) ?_
        refine wp_c41 19 (by rfl) (MV x F y) (by rfl) (.string T) ?_ (fun w7 hb7 => hK2.out _ _ (HA5.keep hb7 z5) (fun HA7 => ?_))
        · have := l03Meta_any x F y w5 l0 l1
          rw [HM.out] at this
          exact this
        have hr7 := (hb7.block w.heap.size (Nat.lt_of_succ_lt z5)).trans hr5
        have B7 : Below w.heap.size w w7 := below_step B5 (Nat.le_refl _) hb7
        have z7 : w.heap.size + 1 < w7.heap.size := Nat.lt_of_lt_of_le z5 hb7.size
        change wpAnyH _ _ _ _ _ _ _ { tmps := #[Value.string s, undef, Value.pointer (some ⟨w.heap.size, 0, none⟩), Value.bool false, Value.pointer (some ⟨w.heap.size + 1, 0, none⟩), Value.string s, Value.string (s.extract 2 6), Value.int .i64 x, Value.string s, vb, Value.int .i64 F, Value.string s, Value.string (s.extract 7 9), Value.int .i64 y, MV x F y, MV x F y, MV x F y, Value.bool true, Value.bool true, MV x F y, Value.string T, Value.string s, undef, undef], defers := [] } _
        refine wpAnyH_take (fuel := 3) (i := 7) (v := .bool false) (by rfl) (by kernel_rfl) (by kernel_rfl) (by kernel_rfl) (fun c a w h => h) (.inl ⟨by rfl, fun w1 _ => eql_text (by rfl) (by rfl) (by rfl) (by simp [hTs])⟩) HA7 ?_
        change wpAnyH _ _ _ _ _ _ _ { tmps := #[Value.string s, undef, Value.pointer (some ⟨w.heap.size, 0, none⟩), Value.bool false, Value.pointer (some ⟨w.heap.size + 1, 0, none⟩), Value.string s, Value.string (s.extract 2 6), Value.int .i64 x, Value.string s, vb, Value.int .i64 F, Value.string s, Value.string (s.extract 7 9), Value.int .i64 y, MV x F y, MV x F y, MV x F y, Value.bool true, Value.bool true, MV x F y, Value.string T, Value.string s, Value.bool false, undef], defers := [] } _
        refine wpAnyH_take (fuel := 2) (i := 8) (v := .bool false) (by rfl) (by kernel_rfl) (by kernel_rfl) (by kernel_rfl) (fun c a w h => h) (.inl ⟨by rfl, fun w1 _ => by rfl⟩) HA7 ?_
        change wpAnyH _ _ _ _ _ _ _ { tmps := #[Value.string s, undef, Value.pointer (some ⟨w.heap.size, 0, none⟩), Value.bool false, Value.pointer (some ⟨w.heap.size + 1, 0, none⟩), Value.string s, Value.string (s.extract 2 6), Value.int .i64 x, Value.string s, vb, Value.int .i64 F, Value.string s, Value.string (s.extract 7 9), Value.int .i64 y, MV x F y, MV x F y, MV x F y, Value.bool true, Value.bool true, MV x F y, Value.string T, Value.string s, Value.bool false, Value.bool false], defers := [] } _
        refine wpAnyH_ready (rs := [9]) (by kernel_rfl) (by decide) (AllReadyH.cons (by rfl) (fun K' hK' => ?_) AllReadyH.nil)
        refine step_if (by rfl) ?_
        refine wp_store_mid 31 _ _ (by rfl) w.heap.size 0 #[.int .i64 x, .int .i64 F, .int .i64 y] (by rfl) (by rfl) (there3 hr7) (by kernel_rfl) (one3 x F y) (hK'.out _ _ (St3.put HA7 z7) (fun HA6 => ?_))
        change wpAnyH _ _ _ _ _ _ _ { tmps := #[Value.string s, undef, Value.pointer (some ⟨w.heap.size, 0, none⟩), Value.bool false, Value.pointer (some ⟨w.heap.size + 1, 0, none⟩), Value.string s, Value.string (s.extract 2 6), Value.int .i64 x, Value.string s, vb, Value.int .i64 F, Value.string s, Value.string (s.extract 7 9), Value.int .i64 y, MV x F y, MV x F y, MV x F y, Value.bool true, Value.bool true, MV x F y, Value.string T, Value.string s, Value.bool false, Value.bool false], defers := [] } _
        refine wpAnyH_take (fuel := 0) (i := 10) (v := .bool false) (by rfl) (by kernel_rfl) (by kernel_rfl) (by kernel_rfl) (fun c a w h => h) (.inl ⟨by rfl, fun w1 _ => by rfl⟩) HA6 ?_
        refine wpAnyH_done (by kernel_rfl) (NoPanic.normal ?_) 0
        obtain ⟨r0, r1, r2⟩ := res_put (w := w7) hr7 x F y
        have B6 : Below w.heap.size w (w7.setCells w.heap.size 0 [.int .i64 x, .int .i64 F, .int .i64 y]) := below_setCells B7 (Nat.le_refl _) (Nat.le_of_lt (Nat.lt_of_succ_lt z7)) _ _
        change Exit.then _ _ Exit.normal { tmps := #[Value.string s, undef, Value.pointer (some ⟨w.heap.size, 0, none⟩), Value.bool false, Value.pointer (some ⟨w.heap.size + 1, 0, none⟩), Value.string s, Value.string (s.extract 2 6), Value.int .i64 x, Value.string s, vb, Value.int .i64 F, Value.string s, Value.string (s.extract 7 9), Value.int .i64 y, MV x F y, MV x F y, MV x F y, Value.bool true, Value.bool true, MV x F y, Value.string T, Value.string s, Value.bool false, Value.bool false], defers := [] } (w7.setCells w.heap.size 0 [.int .i64 x, .int .i64 F, .int .i64 y])
        obtain ⟨W6, hW6⟩ : ∃ W6, w7.setCells w.heap.size 0 [.int .i64 x, .int .i64 F, .int .i64 y] = W6 := ⟨_, rfl⟩
        rw [hW6] at r0 r1 r2 B6 ⊢
        clear hW6 HA6 HA7 hr7 z7
        obtain ⟨e1, e2, e3⟩ := HE.out
        have HQ : Hid (Value.tuple #[MV (mE s) (mF s) (mL s), .bool (mOK s)] = .tuple #[MV x F y, .bool false]) := by show _ = _; rw [e1, e2, e3, HK.out]
        clear e1 e2 e3
        go_wp2
        rw [HQ.out]
        exact bodyPost_ret (v := .tuple #[MV x F y, .bool false]) (by simp [results, Try.results42, go_sem, r0, r1, r2]) rfl ⟨rfl, B6⟩
  go_region_held3 (fun _ => True) (trivial) (first | (go_at_call 49; (with_reducible change Calls _ 49 #[.string (s.extract 2 6)] _ _); refine (l03Of_x _ x _ HS1.out HX.out).mono ?_; rintro e w' ⟨rfl, hq⟩; obtain rfl := hq.symm) | (go_at_call 49; (with_reducible change Calls _ 49 #[.string (s.extract 7 9)] _ _); refine (l03Of_x _ y _ HS2.out HY.out).mono ?_; rintro e w' ⟨rfl, hq⟩; obtain rfl := hq.symm))
  all_goals exact rest
end Go.Proofs.Ytbnnplelbbcanaa
