/- Unary signs: impl's (stage 12). -/
import Derived.Test.YteloioopkndcmaaBvC
import Derived.Deep.RegionHeld3
namespace Go.Proofs.Yteloioopkndcmaa
open Go.RowKit

abbrev sNeg : ByteArray := ⟨#[45]⟩
abbrev sNot : ByteArray := ⟨#[110, 111, 116]⟩
abbrev sNul : ByteArray := ⟨#[105, 115, 110, 117, 108, 108]⟩
abbrev sNnl : ByteArray := ⟨#[105, 115, 110, 111, 116, 110, 117, 108, 108]⟩
abbrev fnV (g : Nat) : Value := .func (.func g) #[] #[]
/-- An answer: a value and a code. -/
abbrev ansV (x : V3 × Int) : Value := VC x.1.1 x.1.2.1 x.1.2.2 x.2
abbrev zA (c : Int) : V3 × Int := ((0, 0, noT), c)

theorem ent81 : Ent 81 := enters_of Try.func81 (by kernel_rfl) rfl
theorem ent82 : Ent 82 := enters_of Try.func82 (by kernel_rfl) rfl
theorem ent83 : Ent 83 := enters_of Try.func83 (by kernel_rfl) rfl
theorem ent85 : Ent 85 := enters_of Try.func85 (by kernel_rfl) rfl
theorem ent100 : Ent 100 := enters_of Try.func100 (by kernel_rfl) rfl
theorem ent109 : Ent 109 := enters_of Try.func109 (by kernel_rfl) rfl
theorem ent67 : Ent 67 := enters_of Try.func67 (by kernel_rfl) rfl

/-- What is reckoned of two values: a number, or a code alone. -/
def reckA (R C : Int → Int → Int) (a b : V3) : V3 × Int := if a.1 = 0 ∨ b.1 = 0 then zA 0 else if C a.2.1 b.2.1 = 0 then ((2, R a.2.1 b.2.1, noT), 0) else zA (C a.2.1 b.2.1)
/-- The function value that reckoned makes, in the world behind it. -/
theorem reckW (R C : Int → Int → Int) (g : Nat) (w w' : World) (hE : Ent g) (hI : IntsW w g R C) (hw : w' = (w.alloc (.cells #[fnV g] 27)).alloc (.cells #[.func (.func 100) #[] #[.pointer (some ⟨w.heap.size, 0, none⟩)]] 58))
    (w2 : World) (hb : Below w'.heap.size w' w2) (a b : V3) (ha : In64 a.2.1) (hb2 : In64 b.2.1) :
    Calls Try.prog 109 #[VV a.1 a.2.1 a.2.2, VV b.1 b.2.1 b.2.2, .pointer (some ⟨w.heap.size + 1, 0, none⟩)] w2 fun e w3 => e = .returned (ansV (reckA R C a b)) ∧ Below w2.heap.size w2 w3 := by
  subst hw
  obtain ⟨k, n, t⟩ := a
  obtain ⟨k2, n2, t2⟩ := b
  have B0 : Below w.heap.size w ((w.alloc (.cells #[fnV g] 27)).alloc (.cells #[.func (.func 100) #[] #[.pointer (some ⟨w.heap.size, 0, none⟩)]] 58)) := ((Below.refl _ _).alloc (Nat.le_refl _) _).alloc (by simp) _
  have hsz : w.heap.size + 1 + 1 ≤ w2.heap.size := by have := hb.size; simp at this; omega
  have e0 : w2.cell? ⟨w.heap.size, 0, none⟩ = some (fnV g) := (hb.cell (p := ⟨w.heap.size, 0, none⟩) (by simp; omega)).trans (by simp)
  have e1 : w2.cell? ⟨w.heap.size + 1, 0, none⟩ = some (.func (.func 100) #[] #[.pointer (some ⟨w.heap.size, 0, none⟩)]) := (hb.cell (p := ⟨w.heap.size + 1, 0, none⟩) (by simp)).trans (by have := World.cell?_alloc_at (w := w.alloc (.cells #[fnV g] 27)) #[.func (.func 100) #[] #[.pointer (some ⟨w.heap.size, 0, none⟩)]] 58 (w.heap.size + 1) 0 (by simp); simp [this])
  have hx := known1_any (w.heap.size + 1) 100 #[.pointer (some ⟨w.heap.size, 0, none⟩)] (fun _ n _ _ n2 _ => In64 n ∧ In64 n2) (if C n n2 = 0 then 2 else 0) (if C n n2 = 0 then R n n2 else 0) (C n n2) noT k n t k2 n2 t2
    (fun _ n _ _ n2 _ => .tuple #[if C n n2 = 0 then VV 2 (R n n2) noT else VV 0 0 noT, .int .i64 (C n n2)]) w2 (by by_cases h : C n n2 = 0 <;> simp [h]) ⟨ha, hb2⟩ (by omega) e1
    ⟨ent100, fun w' b k n t k2 n2 t2 hp => reck_any R C g w.heap.size k n t k2 n2 t2 w' hp.1 hp.2 ((b.cell (p := ⟨w.heap.size, 0, none⟩) (show w.heap.size < _ by omega)).trans e0) (Nat.lt_of_lt_of_le (by omega) b.size) hE (fun w3 b3 => hI w3 ((B0.trans (hb.mono B0.size)).trans ((b.mono (Nat.le_trans B0.size hb.size)).trans (b3.mono (Nat.le_trans B0.size (Nat.le_trans hb.size b.size))))))⟩
  refine hx.mono ?_
  rintro e w3 ⟨rfl, h3⟩
  refine ⟨?_, h3⟩
  unfold knownV reckA
  by_cases h1 : k = 0 ∨ k2 = 0
  · simp [h1]
  · by_cases h2 : C n n2 = 0 <;> simp [h1, h2]
theorem sub67 (w : World) : IntsW w 67 subR subC := fun w' _ a b ha hb => (implSub_any a b w' ha hb).mono fun e w'' h => ⟨h.1, by rw [h.2]; exact Below.refl _ _⟩
abbrev BoxV (w : World) (g : Nat) (k n : Int) (t : ByteArray) : Prop := w.heap[g]? = some (.cells #[.int .i64 k, .int .i64 n, .string t] 24 (0, 0))
theorem box_facts {w : World} {g : Nat} {k n : Int} {t : ByteArray} (h : BoxV w g k n t) : w.cell? ⟨g, 0, none⟩ = some (.int .i64 k) ∧ w.cell? ⟨g, 1, none⟩ = some (.int .i64 n) ∧ w.cell? ⟨g, 2, none⟩ = some (.string t) ∧ w.frozen? ⟨g, 0, none⟩ = false ∧ w.frozen? ⟨g, 1, none⟩ = false ∧ w.frozen? ⟨g, 2, none⟩ = false := by
  refine ⟨?_, ?_, ?_, ?_, ?_, ?_⟩ <;> simp [World.cell?, World.frozen?, h]
theorem box_set {w : World} {g : Nat} {k n : Int} {t : ByteArray} (h : BoxV w g k n t) (k' n' : Int) (t' : ByteArray) : BoxV (((w.setCell ⟨g, 0, none⟩ (.int .i64 k')).setCell ⟨g, 1, none⟩ (.int .i64 n')).setCell ⟨g, 2, none⟩ (.string t')) g k' n' t' := by
  have q := slab_set (o := 2) (slab_set (o := 1) (slab_set (o := 0) h (.int .i64 k')) (.int .i64 n')) (.string t')
  exact q
theorem below_set3 {B : Nat} {w w' : World} (h : Below B w w') {g : Nat} (hg : B ≤ g) (a b c : Value) : Below B w (((w'.setCell ⟨g, 0, none⟩ a).setCell ⟨g, 1, none⟩ b).setCell ⟨g, 2, none⟩ c) := ((h.setCell hg _).setCell hg _).setCell hg _
theorem blk2 (w : World) (o1 o2 o3 : Obj) : (((w.alloc o1).alloc o2).alloc o3).heap[w.heap.size + 1]? = some o2 :=
  (Below.heap_alloc _ _ _ (by simp)).trans (by have := heap_alloc_new (w.alloc o1) o2; simpa using this)
theorem blk2' (w : World) (o1 o2 : Obj) : ((w.alloc o1).alloc o2).heap[w.heap.size + 1]? = some o2 := by have := heap_alloc_new (w.alloc o1) o2; simpa using this
theorem blk1' (w : World) (o1 o2 : Obj) : ((w.alloc o1).alloc o2).heap[w.heap.size]? = some o1 :=
  (Below.heap_alloc _ _ _ (by simp)).trans (heap_alloc_new w o1)
theorem below3 (w : World) (o1 o2 o3 : Obj) : Below w.heap.size w (((w.alloc o1).alloc o2).alloc o3) := (((Below.refl _ _).alloc (Nat.le_refl _) _).alloc (by simp) _).alloc (by simp; omega) _
theorem below2 (w : World) (o1 o2 : Obj) : Below w.heap.size w ((w.alloc o1).alloc o2) := ((Below.refl _ _).alloc (Nat.le_refl _) _).alloc (by simp) _
/-- What negated's region reads and writes. -/
abbrev NgS (w : World) (k n : Int) (t : ByteArray) (w' : World) : Prop := (w'.cell? ⟨w.heap.size, 0, none⟩ = some (.int .i64 k) ∧ w'.cell? ⟨w.heap.size, 1, none⟩ = some (.int .i64 n) ∧ w'.cell? ⟨w.heap.size, 2, none⟩ = some (.string t)) ∧
  (w'.cell? ⟨w.heap.size + 1, 0, none⟩ = some (.int .i64 0) ∧ w'.cell? ⟨w.heap.size + 1, 1, none⟩ = some (.int .i64 0) ∧ w'.cell? ⟨w.heap.size + 1, 2, none⟩ = some (.string noT)) ∧
  (w'.frozen? ⟨w.heap.size + 1, 0, none⟩ = false ∧ w'.frozen? ⟨w.heap.size + 1, 1, none⟩ = false ∧ w'.frozen? ⟨w.heap.size + 1, 2, none⟩ = false) ∧ Hid (w.heap.size + 1 < w'.heap.size ∧ Below w.heap.size w w' ∧ BoxV w' w.heap.size k n t ∧ BoxV w' (w.heap.size + 1) 0 0 noT)
theorem NgS.mk {w w' : World} {k n : Int} {t : ByteArray} (h : w.heap.size + 1 < w'.heap.size ∧ Below w.heap.size w w' ∧ BoxV w' w.heap.size k n t ∧ BoxV w' (w.heap.size + 1) 0 0 noT) : NgS w k n t w' := by
  obtain ⟨a0, a1, a2, _, _, _⟩ := box_facts h.2.2.1
  obtain ⟨b0, b1, b2, b3, b4, b5⟩ := box_facts h.2.2.2
  exact ⟨⟨a0, a1, a2⟩, ⟨b0, b1, b2⟩, ⟨b3, b4, b5⟩, h⟩
theorem NgS.keep {w w1 w2 : World} {k n : Int} {t : ByteArray} (h : NgS w k n t w1) (hb : Below w1.heap.size w1 w2) : NgS w k n t w2 := by
  obtain ⟨_, _, _, ⟨h1, h2, h3, h4⟩⟩ := h
  exact NgS.mk ⟨Nat.lt_of_lt_of_le h1 hb.size, h2.trans (hb.mono h2.size), (hb.block _ (by omega)).trans h3, (hb.block _ h1).trans h4⟩
theorem reck_below {w w' : World} {o1 o2 : Obj} (h : w' = (w.alloc o1).alloc o2) : Below w.heap.size w w' := by subst h; exact below2 w o1 o2
theorem reckoned_hid (g : Nat) (w : World) : Calls Try.prog 66 #[fnV g] w fun e w' => e = .returned (.func (.func 109) #[] #[.pointer (some ⟨w.heap.size + 1, 0, none⟩)]) ∧ Hid (w' = (w.alloc (.cells #[fnV g] 27)).alloc (.cells #[.func (.func 100) #[] #[.pointer (some ⟨w.heap.size, 0, none⟩)]] 58)) ∧ Below w.heap.size w w' :=
  (reckoned_any g w).mono fun _ _ h => ⟨h.1, h.2, reck_below h.2⟩
set_option maxRecDepth 100000 in
set_option maxHeartbeats 2000000 in
theorem negated_any (k n : Int) (t : ByteArray) (w : World) (hn : In64 n) : Calls Try.prog 81 #[VV k n t] w fun e w' => e = .returned (ansV (reckA subR subC (2, 0, noT) (k, n, t))) ∧ Below w.heap.size w w' := by
  obtain ⟨W0, hW0⟩ : ∃ W0, W0 = ((w.alloc (.cells #[.int .i64 k, .int .i64 n, .string t] 24)).alloc (.cells #[.int .i64 0, .int .i64 0, .string noT] 24)).drew := ⟨_, rfl⟩
  have hs0 : W0.heap.size + 1 = w.heap.size + 1 + 1 + 1 := by subst hW0; simp
  have HC : Hid (∀ (w' : World), Hid (w' = (W0.alloc (.cells #[fnV 67] 27)).alloc (.cells #[.func (.func 100) #[] #[.pointer (some ⟨W0.heap.size, 0, none⟩)]] 58)) → Calls Try.prog 109 #[VV 2 0 noT, VV k n t, .pointer (some ⟨w.heap.size + 1 + 1 + 1, 0, none⟩)] w' fun e w3 => e = .returned (ansV (reckA subR subC (2, 0, noT) (k, n, t))) ∧ Below w'.heap.size w' w3) :=
    fun w' hw => by rw [← hs0]; exact reckW subR subC 67 W0 w' ent67 (sub67 W0) hw.out w' (Below.refl _ _) (2, 0, noT) (k, n, t) (by show In64 0; unfold In64; omega) hn
  clear hn hs0
  generalize reckA subR subC (2, 0, noT) (k, n, t) = X at *
  obtain ⟨⟨xk, xn, xt⟩, xc⟩ := X
  have hP : NgS w k n t W0 := by subst hW0; exact NgS.mk ⟨by simp, (below2 w _ _).drew, blk1' w _ _, blk2' w _ _⟩
  subst hW0
  go_enter Try.func81, Try.ntmps81
  go_wp2_with fail
  go_region_with
    (first
    | (go_at_call 66; refine (reckoned_hid 67 _).mono ?_; rintro e wA ⟨rfl, hwA, hb⟩; have SA : Hid (NgS w k n t wA) := NgS.keep hP hb; obtain ⟨⟨a0, a1, a2⟩, _, _, _⟩ := SA.out; clear hb)
    | (go_at_call 109; refine (HC.out _ hwA).mono ?_; rintro e wB ⟨rfl, hb⟩; have SB := NgS.keep SA.out hb; obtain ⟨_, ⟨b0, b1, b2⟩, ⟨b3, b4, b5⟩, HX⟩ := SB; clear hb)
    | fail)
  all_goals
    go_wp2
    obtain ⟨q0, q1, q2, _, _, _⟩ := box_facts (box_set HX.out.2.2.2 xk xn xt)
    exact bodyPost_ret (v := VC xk xn xt xc) (by simp [results, Try.results81, go_sem, q0, q1, q2]) rfl ⟨rfl, below_set3 HX.out.2.1 (by omega) _ _ _⟩
set_option maxRecDepth 100000 in
theorem turned_any (k n : Int) (t : ByteArray) (w : World) : Calls Try.prog 82 #[VV k n t] w fun e w' => e = .returned (ansV (if k = 0 then zA 0 else ((1, bit (n == 0), noT), 0))) ∧ Below w.heap.size w w' := by
  by_cases hk : k = 0
  · have hk' : (k == 0) = true := by simpa using hk
    rw [if_pos hk]
    go_enter Try.func82, Try.ntmps82
    go_wp2
    exact bodyPost_ret (v := VC 0 0 noT 0) (by simp [results, Try.results82, go_sem]) rfl ⟨rfl, below3 w _ _ _⟩
  · have hk' : (k == 0) = false := by simpa using hk
    rw [if_neg hk]
    obtain ⟨W, hW⟩ : ∃ W, W = (((w.alloc (.cells #[.int .i64 k, .int .i64 n, .string t] 24)).alloc (.cells #[.int .i64 0, .int .i64 0, .string noT] 24)).alloc (.cells #[.int .i64 k, .int .i64 n, .string t] 24)) := ⟨_, rfl⟩
    have B0 : Below w.heap.size w W := by subst hW; exact below3 w _ _ _
    have HB : Hid (w.heap.size + 1 < W.heap.size ∧ BoxV W (w.heap.size + 1) 0 0 noT) := by subst hW; exact ⟨by simp, blk2 w _ _ _⟩
    have hc := implBool_any (n == 0) W
    generalize bit (n == 0) = x at *
    go_enter Try.func82, Try.ntmps82
    go_wp2_with (first | (go_at_call 84; go_in) | fail)
    rw [← hW]
    refine hc.mono ?_
    rintro e w1 ⟨rfl, b1⟩
    have hb := (b1.block _ HB.out.1).trans HB.out.2
    obtain ⟨v0, v1, v2, y0, y1, y2⟩ := box_facts hb
    have HB1 : Hid (BoxV w1 (w.heap.size + 1) 0 0 noT) := hb
    have B1 : Hid (Below w.heap.size w w1) := B0.trans (b1.mono B0.size)
    clear hb HB hc b1 B0 hW
    go_wp2
    obtain ⟨q0, q1, q2, _, _, _⟩ := box_facts (box_set HB1.out 1 x noT)
    exact bodyPost_ret (v := VC 1 x noT 0) (by simp [results, Try.results82, go_sem, q0, q1, q2]) rfl ⟨rfl, below_set3 B1.out (by omega) _ _ _⟩
set_option maxRecDepth 100000 in
theorem null83_any (k n : Int) (t : ByteArray) (w : World) : Calls Try.prog 83 #[VV k n t] w fun e w' => e = .returned (ansV ((1, bit (k == 0), noT), 0)) ∧ Below w.heap.size w w' := by
  obtain ⟨W, hW⟩ : ∃ W, W = (((w.alloc (.cells #[.int .i64 k, .int .i64 n, .string t] 24)).alloc (.cells #[.int .i64 0, .int .i64 0, .string noT] 24)).alloc (.cells #[.int .i64 k, .int .i64 n, .string t] 24)) := ⟨_, rfl⟩
  have B0 : Below w.heap.size w W := by subst hW; exact below3 w _ _ _
  have HB : Hid (w.heap.size + 1 < W.heap.size ∧ BoxV W (w.heap.size + 1) 0 0 noT) := by subst hW; exact ⟨by simp, blk2 w _ _ _⟩
  have hc := implBool_any (k == 0) W
  generalize bit (k == 0) = x at *
  go_enter Try.func83, Try.ntmps83
  go_wp2_with (first | (go_at_call 84; go_in) | fail)
  rw [← hW]
  refine hc.mono ?_
  rintro e w1 ⟨rfl, b1⟩
  have hb := (b1.block _ HB.out.1).trans HB.out.2
  obtain ⟨v0, v1, v2, y0, y1, y2⟩ := box_facts hb
  have HB1 : Hid (BoxV w1 (w.heap.size + 1) 0 0 noT) := hb
  have B1 : Hid (Below w.heap.size w w1) := B0.trans (b1.mono B0.size)
  clear hb HB hc b1 B0 hW
  go_wp2
  obtain ⟨q0, q1, q2, _, _, _⟩ := box_facts (box_set HB1.out 1 x noT)
  exact bodyPost_ret (v := VC 1 x noT 0) (by simp [results, Try.results83, go_sem, q0, q1, q2]) rfl ⟨rfl, below_set3 B1.out (by omega) _ _ _⟩
set_option maxRecDepth 100000 in
theorem null85_any (k n : Int) (t : ByteArray) (w : World) : Calls Try.prog 85 #[VV k n t] w fun e w' => e = .returned (ansV ((1, bit (!(k == 0)), noT), 0)) ∧ Below w.heap.size w w' := by
  obtain ⟨W, hW⟩ : ∃ W, W = (((w.alloc (.cells #[.int .i64 k, .int .i64 n, .string t] 24)).alloc (.cells #[.int .i64 0, .int .i64 0, .string noT] 24)).alloc (.cells #[.int .i64 k, .int .i64 n, .string t] 24)) := ⟨_, rfl⟩
  have B0 : Below w.heap.size w W := by subst hW; exact below3 w _ _ _
  have HB : Hid (w.heap.size + 1 < W.heap.size ∧ BoxV W (w.heap.size + 1) 0 0 noT) := by subst hW; exact ⟨by simp, blk2 w _ _ _⟩
  have hc := implBool_any (!(k == 0)) W
  generalize bit (!(k == 0)) = x at *
  go_enter Try.func85, Try.ntmps85
  go_wp2_with (first | (go_at_call 84; go_in) | fail)
  rw [← hW]
  refine hc.mono ?_
  rintro e w1 ⟨rfl, b1⟩
  have hb := (b1.block _ HB.out.1).trans HB.out.2
  obtain ⟨v0, v1, v2, y0, y1, y2⟩ := box_facts hb
  have HB1 : Hid (BoxV w1 (w.heap.size + 1) 0 0 noT) := hb
  have B1 : Hid (Below w.heap.size w w1) := B0.trans (b1.mono B0.size)
  clear hb HB hc b1 B0 hW
  go_wp2
  obtain ⟨q0, q1, q2, _, _, _⟩ := box_facts (box_set HB1.out 1 x noT)
  exact bodyPost_ret (v := VC 1 x noT 0) (by simp [results, Try.results85, go_sem, q0, q1, q2]) rfl ⟨rfl, below_set3 B1.out (by omega) _ _ _⟩
def fU : List UInt8 → Option Value := putF (putF (putF (putF (fun _ => none) sNeg (fnV 81)) sNot (fnV 82)) sNul (fnV 83)) sNnl (fnV 85)
set_option maxRecDepth 100000 in
theorem unarySigns_any (w : World) : Calls Try.prog 45 #[] w fun e w' => ∃ b, e = .returned (.map (some b)) ∧ MapF w' b 4 fU ∧ Below w.heap.size w w' := by
  have hmm : (Instr.makeMap 69 none).run Try.prog w = .ok (.map (some w.heap.size)) (w.alloc (.map #[] 0)) := rfl
  have M0 := MapF.made w
  have B0 : Below w.heap.size w (w.alloc (.map #[] 0)) := (Below.refl _ _).alloc (Nat.le_refl _) _
  obtain ⟨w1, r1, M1, g1⟩ := M0.put Try.underlying69 sNeg (by decide) (by decide) (fnV 81)
  have B1 := grown_below B0 B0.size (Nat.le_refl _) g1
  obtain ⟨w2, r2, M2, g2⟩ := M1.put Try.underlying69 sNot (by decide) (by decide) (fnV 82)
  have B2 := grown_below B1 B1.size (Nat.le_refl _) g2
  obtain ⟨w3, r3, M3, g3⟩ := M2.put Try.underlying69 sNul (by decide) (by decide) (fnV 83)
  have B3 := grown_below B2 B2.size (Nat.le_refl _) g3
  obtain ⟨w4, r4, M4, g4⟩ := M3.put Try.underlying69 sNnl (by decide) (by decide) (fnV 85)
  have B4 := grown_below B3 B3.size (Nat.le_refl _) g4
  have HM : Hid (MapF w4 w.heap.size 4 fU) := M4
  have HB : Hid (Below w.heap.size w w4) := B4
  clear M0 M1 M2 M3 M4 B0 B1 B2 B3 B4 g1 g2 g3 g4
  go_enter Try.func45, Try.ntmps45
  go_wp2
  go_ret
  exact ⟨_, rfl, HM.out, HB.out⟩
end Go.Proofs.Yteloioopkndcmaa
