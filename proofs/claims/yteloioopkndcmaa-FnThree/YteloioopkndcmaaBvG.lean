/- What the binary signs' functions are (stage 12). -/
import Derived.Test.YteloioopkndcmaaBvE
import Derived.Test.YteloioopkndcmaaCompare
namespace Go.Proofs.Yteloioopkndcmaa
open Go.RowKit

/-- All blocks but b stay as they were. -/
def Keeps (b : Nat) (u u' : World) : Prop := u.heap.size ≤ u'.heap.size ∧ ∀ i, i < u.heap.size → i ≠ b → u'.heap[i]? = u.heap[i]?
theorem Keeps.refl (b : Nat) (u : World) : Keeps b u u := ⟨Nat.le_refl _, fun _ _ _ => rfl⟩
theorem Keeps.trans {b : Nat} {u u1 u2 : World} (h : Keeps b u u1) (k : Keeps b u1 u2) : Keeps b u u2 :=
  ⟨Nat.le_trans h.1 k.1, fun i hi hb => (k.2 i (Nat.lt_of_lt_of_le hi h.1) hb).trans (h.2 i hi hb)⟩
theorem Keeps.of_below {b : Nat} {u u' : World} (h : Below u.heap.size u u') : Keeps b u u' := ⟨h.size, fun i hi _ => h.block i hi⟩
theorem Keeps.of_grown {b : Nat} {u u' : World} (h : u.grownBy u' (some b)) : Keeps b u u' := ⟨h.size, fun i hi hb => h.block i hi (fun e => hb (by cases e; rfl))⟩
/-- A function value that works two values out as F says, as long as all blocks but b stay. -/
def Clo (b : Nat) (u : World) (v : Value) (F : V3 → V3 → V3 × Int) : Prop :=
  ∃ g cap, v = .func (.func g) #[] cap ∧ Ent g ∧ ∀ u', Keeps b u u' → ∀ x y : V3, In64 x.2.1 → In64 y.2.1 →
    Calls Try.prog g (#[VV x.1 x.2.1 x.2.2, VV y.1 y.2.1 y.2.2] ++ cap) u' fun e u'' => e = .returned (ansV (F x y)) ∧ Below u'.heap.size u' u''
theorem Clo.keep {b : Nat} {u u1 : World} {v : Value} {F : V3 → V3 → V3 × Int} (h : Clo b u v F) (k : Keeps b u u1) : Clo b u1 v F := by
  obtain ⟨g, cap, e, hE, hc⟩ := h
  exact ⟨g, cap, e, hE, fun u' k' => hc u' (k.trans k')⟩
theorem cell_blk {w : World} {g : Nat} {v : Value} {e : TypeId} (h : w.heap[g]? = some (.cells #[v] e (0, 0))) : w.cell? ⟨g, 0, none⟩ = some v := by simp [World.cell?, h]
theorem lt_blk {w : World} {g : Nat} {o : Obj} (h : w.heap[g]? = some o) : g < w.heap.size := (Array.getElem?_eq_some_iff.1 h).1

/-- A function of two numbers, in every world. -/
def IntsA (g : Nat) (R C : Int → Int → Int) : Prop := Ent g ∧ ∀ w a b, In64 a → In64 b → Calls Try.prog g #[.int .i64 a, .int .i64 b] w fun e w'' => e = .returned (NC (R a b) (C a b)) ∧ Below w.heap.size w w''
theorem reck_clo (R C : Int → Int → Int) (g b : Nat) (hI : IntsA g R C) (w : World) (hb : b < w.heap.size) :
    Calls Try.prog 66 #[fnV g] w fun e w' => ∃ v, e = .returned v ∧ Below w.heap.size w w' ∧ Clo b w' v (reckA R C) := by
  refine (reckoned_any g w).mono ?_
  rintro e w' ⟨rfl, hw⟩
  refine ⟨_, rfl, reck_below hw, 109, _, rfl, ent109, fun u' k x y hx hy => ?_⟩
  have h0 : u'.heap[w.heap.size]? = some (.cells #[fnV g] 27 (0, 0)) := (k.2 _ (by rw [hw]; simp; omega) (by omega)).trans (by rw [hw]; exact blk1' w _ _)
  have h1 : u'.heap[w.heap.size + 1]? = some (.cells #[.func (.func 100) #[] #[.pointer (some ⟨w.heap.size, 0, none⟩)]] 58 (0, 0)) := (k.2 _ (by rw [hw]; simp) (by omega)).trans (by rw [hw]; exact blk2' w _ _)
  obtain ⟨xk, n, t⟩ := x
  obtain ⟨yk, n2, t2⟩ := y
  have hx := known1_any (w.heap.size + 1) 100 #[.pointer (some ⟨w.heap.size, 0, none⟩)] (fun _ n _ _ n2 _ => In64 n ∧ In64 n2) (if C n n2 = 0 then 2 else 0) (if C n n2 = 0 then R n n2 else 0) (C n n2) noT xk n t yk n2 t2
    (fun _ n _ _ n2 _ => .tuple #[if C n n2 = 0 then VV 2 (R n n2) noT else VV 0 0 noT, .int .i64 (C n n2)]) u' (by by_cases h : C n n2 = 0 <;> simp [h]) ⟨hx, hy⟩ (lt_blk h1) (cell_blk h1)
    ⟨ent100, fun w' b k n t k2 n2 t2 hp => reck_any R C g w.heap.size k n t k2 n2 t2 w' hp.1 hp.2 (cell_blk ((b.block _ (lt_blk h0)).trans h0)) (lt_blk ((b.block _ (lt_blk h0)).trans h0)) hI.1 (fun w3 _ => hI.2 w3)⟩
  refine hx.mono ?_
  rintro e w3 ⟨rfl, h3⟩
  refine ⟨?_, h3⟩
  unfold knownV reckA
  by_cases h1 : xk = 0 ∨ yk = 0
  · simp [h1]
  · by_cases h2 : C n n2 = 0 <;> simp [h1, h2]

/-- What a comparison says of two values. -/
def cmpA (p : Int → Bool) (a b : V3) : V3 × Int := if a.1 = 0 ∨ b.1 = 0 then zA 0 else ((1, bit (p (cmpV a.1 a.2.1 a.2.2 b.1 b.2.1 b.2.2)), noT), 0)
/-- A function of an order, in every world. -/
def OrdA (h : Nat) (p : Int → Bool) : Prop := Ent h ∧ ∀ w c, Calls Try.prog h #[.int .i64 c] w fun e w' => e = .returned (.bool (p c)) ∧ w' = w
/-- What compared's function reads and writes. -/
abbrev CpS (w : World) (bx h : Nat) (k n : Int) (t : ByteArray) (k2 n2 : Int) (t2 : ByteArray) (w' : World) : Prop :=
  (w'.cell? ⟨w.heap.size, 0, none⟩ = some (.int .i64 k) ∧ w'.cell? ⟨w.heap.size, 1, none⟩ = some (.int .i64 n) ∧ w'.cell? ⟨w.heap.size, 2, none⟩ = some (.string t)) ∧
  (w'.cell? ⟨w.heap.size + 1, 0, none⟩ = some (.int .i64 k2) ∧ w'.cell? ⟨w.heap.size + 1, 1, none⟩ = some (.int .i64 n2) ∧ w'.cell? ⟨w.heap.size + 1, 2, none⟩ = some (.string t2)) ∧
  (w'.cell? ⟨w.heap.size + 1 + 1, 0, none⟩ = some (.int .i64 0) ∧ w'.cell? ⟨w.heap.size + 1 + 1, 1, none⟩ = some (.int .i64 0) ∧ w'.cell? ⟨w.heap.size + 1 + 1, 2, none⟩ = some (.string noT)) ∧
  (w'.frozen? ⟨w.heap.size + 1 + 1, 0, none⟩ = false ∧ w'.frozen? ⟨w.heap.size + 1 + 1, 1, none⟩ = false ∧ w'.frozen? ⟨w.heap.size + 1 + 1, 2, none⟩ = false) ∧
  (w'.cell? ⟨bx, 0, none⟩ = some (fnV h)) ∧
  Hid (w.heap.size + 1 + 1 < w'.heap.size ∧ Below w.heap.size w w' ∧ (BoxV w' w.heap.size k n t ∧ BoxV w' (w.heap.size + 1) k2 n2 t2 ∧ BoxV w' (w.heap.size + 1 + 1) 0 0 noT) ∧ bx < w'.heap.size)
theorem CpS.mk {w w' : World} {bx h : Nat} {k n : Int} {t : ByteArray} {k2 n2 : Int} {t2 : ByteArray} (hx : w'.cell? ⟨bx, 0, none⟩ = some (fnV h))
    (q : w.heap.size + 1 + 1 < w'.heap.size ∧ Below w.heap.size w w' ∧ (BoxV w' w.heap.size k n t ∧ BoxV w' (w.heap.size + 1) k2 n2 t2 ∧ BoxV w' (w.heap.size + 1 + 1) 0 0 noT) ∧ bx < w'.heap.size) : CpS w bx h k n t k2 n2 t2 w' := by
  obtain ⟨a0, a1, a2, _, _, _⟩ := box_facts q.2.2.1.1
  obtain ⟨b0, b1, b2, _, _, _⟩ := box_facts q.2.2.1.2.1
  obtain ⟨c0, c1, c2, c3, c4, c5⟩ := box_facts q.2.2.1.2.2
  exact ⟨⟨a0, a1, a2⟩, ⟨b0, b1, b2⟩, ⟨c0, c1, c2⟩, ⟨c3, c4, c5⟩, hx, q⟩
theorem CpS.keep {w w1 w2 : World} {bx h : Nat} {k n : Int} {t : ByteArray} {k2 n2 : Int} {t2 : ByteArray} (q : CpS w bx h k n t k2 n2 t2 w1) (hb : Below w1.heap.size w1 w2) : CpS w bx h k n t k2 n2 t2 w2 := by
  obtain ⟨_, _, _, _, hx, ⟨h1, h2, ⟨h3, h4, h5⟩, h6⟩⟩ := q
  exact CpS.mk ((hb.cell (p := ⟨bx, 0, none⟩) h6).trans hx) ⟨Nat.lt_of_lt_of_le h1 hb.size, h2.trans (hb.mono h2.size), ⟨(hb.block _ (by omega)).trans h3, (hb.block _ (by omega)).trans h4, (hb.block _ h1).trans h5⟩, Nat.lt_of_lt_of_le h6 hb.size⟩
theorem blk3 (w : World) (o1 o2 o3 : Obj) : (((w.alloc o1).alloc o2).alloc o3).heap[w.heap.size]? = some o1 ∧ (((w.alloc o1).alloc o2).alloc o3).heap[w.heap.size + 1]? = some o2 ∧ (((w.alloc o1).alloc o2).alloc o3).heap[w.heap.size + 1 + 1]? = some o3 :=
  ⟨(Below.heap_alloc _ _ _ (by simp; omega)).trans (blk1' w _ _), blk2 w _ _ _, by have := heap_alloc_new ((w.alloc o1).alloc o2) o3; simpa using this⟩
set_option maxRecDepth 100000 in
set_option maxHeartbeats 4000000 in
theorem compared1_any (p : Int → Bool) (bx h : Nat) (hO : OrdA h p) (k n : Int) (t : ByteArray) (k2 n2 : Int) (t2 : ByteArray) (w : World) (hlt : bx < w.heap.size) (hx : w.cell? ⟨bx, 0, none⟩ = some (fnV h)) :
    Calls Try.prog 99 #[VV k n t, VV k2 n2 t2, .pointer (some ⟨bx, 0, none⟩)] w fun e w' => e = .returned (.tuple #[VV 1 (bit (p (cmpV k n t k2 n2 t2))) noT, .int .i64 0]) ∧ Below w.heap.size w w' := by
  obtain ⟨hE, hO⟩ := hO
  unfold Ent at hE
  have HC : Hid (∀ w1, Calls Try.prog 91 #[VV k n t, VV k2 n2 t2] w1 fun e w' => e = .returned (.int .i64 (cmpV k n t k2 n2 t2)) ∧ Below w1.heap.size w1 w') := fun w1 => valueOrder_any k n t k2 n2 t2 w1
  generalize cmpV k n t k2 n2 t2 = c at *
  have HO : Hid (∀ w1, Calls Try.prog h #[.int .i64 c] w1 fun e w' => e = .returned (.bool (p c)) ∧ w' = w1) := fun w1 => hO w1 c
  have HB : Hid (∀ w1, Calls Try.prog 58 #[.bool (p c)] w1 fun e w' => e = .returned (VV 1 (bit (p c)) noT) ∧ Below w1.heap.size w1 w') := fun w1 => implBool_any (p c) w1
  generalize bit (p c) = x at *
  generalize p c = q at *
  have hP : CpS w bx h k n t k2 n2 t2 (((w.alloc (.cells #[.int .i64 k, .int .i64 n, .string t] 24)).alloc (.cells #[.int .i64 k2, .int .i64 n2, .string t2] 24)).alloc (.cells #[.int .i64 0, .int .i64 0, .string noT] 24)).drew :=
    CpS.mk (((below3 w _ _ _).drew.cell (p := ⟨bx, 0, none⟩) hlt).trans hx) ⟨by simp, (below3 w _ _ _).drew, ⟨(blk3 w _ _ _).1, (blk3 w _ _ _).2.1, (blk3 w _ _ _).2.2⟩, by simp; omega⟩
  have HP : Hid (CpS w bx h k n t k2 n2 t2 (((w.alloc (.cells #[.int .i64 k, .int .i64 n, .string t] 24)).alloc (.cells #[.int .i64 k2, .int .i64 n2, .string t2] 24)).alloc (.cells #[.int .i64 0, .int .i64 0, .string noT] 24)).drew) := hP
  obtain ⟨⟨a0, a1, a2⟩, ⟨b0, b1, b2⟩, _, _, hx0, _⟩ := hP
  clear hO hx
  go_enter Try.func99, Try.ntmps99
  go_wp2_with fail
  go_region_with
    (first
    | (go_at_call 91; refine (HC.out _).mono ?_; rintro e wA ⟨rfl, hb⟩; have SA : Hid (CpS w bx h k n t k2 n2 t2 wA) := CpS.keep HP.out hb; obtain ⟨_, _, _, _, hx1, _⟩ := SA.out; clear hb)
    | (go_at_call 58; refine (HB.out _).mono ?_; rintro e wB ⟨rfl, hb⟩; have SB := CpS.keep SA.out hb; obtain ⟨_, _, ⟨c0, c1, c2⟩, ⟨c3, c4, c5⟩, _, HX⟩ := SB; clear hb)
    | ((with_reducible (change Calls Try.prog h _ _ _)); refine (HO.out _).mono ?_; rintro e wC ⟨rfl, rfl⟩)
    | fail)
  all_goals
    go_wp2
    obtain ⟨q0, q1, q2, _, _, _⟩ := box_facts (box_set HX.out.2.2.1.2.2 1 x noT)
    exact bodyPost_ret (v := VC 1 x noT 0) (by simp [results, Try.results99, go_sem, q0, q1, q2]) rfl ⟨rfl, below_set3 HX.out.2.1 (by omega) _ _ _⟩
end Go.Proofs.Yteloioopkndcmaa
