/- Bools and null as values; what is reckoned, with its deferred end (stage 12). -/
import Derived.Test.YteloioopkndcmaaArB
import Derived.Defers
namespace Go.Proofs.Yteloioopkndcmaa
open Go.RowKit

def bit (b : Bool) : Int := if b then 1 else 0
abbrev noT : ByteArray := ⟨#[]⟩
theorem boolByte_any (b : Bool) (w : World) : Calls Try.prog 98 #[.bool b] w fun e w' => e = .returned (.int .u8 (bit b)) ∧ w' = w := by
  cases b
  all_goals
    go_enter Try.func98, Try.ntmps98
    go_wp2
    go_ret
    exact ⟨rfl, rfl⟩
theorem implBool_any (b : Bool) (w : World) : Calls Try.prog 58 #[.bool b] w fun e w' => e = .returned (VV 1 (bit b) noT) ∧ Below w.heap.size w w' := by
  cases b
  all_goals
    go_enter Try.func58, Try.ntmps58
    go_wp2
    exact bodyPost_ret (v := VV 1 (bit _) noT) (by simp [results, Try.results58, go_sem]; rfl) rfl ⟨rfl, (Below.refl _ _).alloc (Nat.le_refl _) _⟩
theorem specBool_any (b : Bool) (w : World) : Calls Try.prog 77 #[.bool b] w fun e w' => e = .returned (VV 1 (bit b) noT) ∧ Below w.heap.size w w' := by
  cases b
  all_goals
    go_enter Try.func77, Try.ntmps77
    go_wp2
    exact bodyPost_ret (v := VV 1 (bit _) noT) (by simp [results, Try.results77, go_sem]; rfl) rfl ⟨rfl, (Below.refl _ _).alloc (Nat.le_refl _) _⟩
theorem specInt_any (n : Int) (w : World) : Calls Try.prog 80 #[.int .i64 n] w fun e w' => e = .returned (VV 2 n noT) ∧ Below w.heap.size w w' := by
  go_enter Try.func80, Try.ntmps80
  go_wp2
  exact bodyPost_ret (v := VV 2 n noT) (by simp [results, Try.results80, go_sem]) rfl ⟨rfl, (Below.refl _ _).alloc (Nat.le_refl _) _⟩
theorem isNull_any (k n : Int) (t : ByteArray) (w : World) : Calls Try.prog 84 #[VV k n t] w fun e w' => e = .returned (.bool (k == 0)) ∧ Below w.heap.size w w' := by
  go_enter Try.func84, Try.ntmps84
  go_wp2
  go_ret
  exact ⟨rfl, (Below.refl _ _).alloc (Nat.le_refl _) _⟩

/-- Blocks g and h hold a value and a code. -/
structure Two (w : World) (g h : Nat) (k n : Int) (t : ByteArray) (c : Int) : Prop where
  bv : w.heap[g]? = some (.cells #[.int .i64 k, .int .i64 n, .string t] 24 (0, 0))
  bc : w.heap[h]? = some (.cells #[.int .i64 c] 3 (0, 0))
  ne : g ≠ h
theorem slab_set {w : World} {g o : Nat} {cur : Array Value} {e : TypeId} (h : w.heap[g]? = some (.cells cur e (0, 0))) (v : Value) : (w.setCell ⟨g, o, none⟩ v).heap[g]? = some (.cells (cur.setIfInBounds o v) e (0, 0)) := by
  simp [World.setCell, Array.getElem?_modify, h]
theorem Two.s0 {w : World} {g h : Nat} {k n : Int} {t : ByteArray} {c : Int} (T : Two w g h k n t c) (x : Int) : Two (w.setCell ⟨g, 0, none⟩ (.int .i64 x)) g h x n t c := ⟨by rw [slab_set T.bv]; rfl, (Below.heap_setCell _ _ _ _ T.ne.symm).trans T.bc, T.ne⟩
theorem Two.s1 {w : World} {g h : Nat} {k n : Int} {t : ByteArray} {c : Int} (T : Two w g h k n t c) (x : Int) : Two (w.setCell ⟨g, 1, none⟩ (.int .i64 x)) g h k x t c := ⟨by rw [slab_set T.bv]; rfl, (Below.heap_setCell _ _ _ _ T.ne.symm).trans T.bc, T.ne⟩
theorem Two.s2 {w : World} {g h : Nat} {k n : Int} {t : ByteArray} {c : Int} (T : Two w g h k n t c) (x : ByteArray) : Two (w.setCell ⟨g, 2, none⟩ (.string x)) g h k n x c := ⟨by rw [slab_set T.bv]; rfl, (Below.heap_setCell _ _ _ _ T.ne.symm).trans T.bc, T.ne⟩
theorem Two.sc {w : World} {g h : Nat} {k n : Int} {t : ByteArray} {c : Int} (T : Two w g h k n t c) (x : Int) : Two (w.setCell ⟨h, 0, none⟩ (.int .i64 x)) g h k n t x := ⟨(Below.heap_setCell _ _ _ _ T.ne).trans T.bv, by rw [slab_set T.bc]; rfl, T.ne⟩
theorem Two.cells {w : World} {g h : Nat} {k n : Int} {t : ByteArray} {c : Int} (T : Two w g h k n t c) : w.cell? ⟨g, 0, none⟩ = some (.int .i64 k) ∧ w.cell? ⟨g, 1, none⟩ = some (.int .i64 n) ∧ w.cell? ⟨g, 2, none⟩ = some (.string t) ∧ w.cell? ⟨h, 0, none⟩ = some (.int .i64 c) := by
  refine ⟨?_, ?_, ?_, ?_⟩ <;> simp [World.cell?, T.bv, T.bc]
theorem Two.free {w : World} {g h : Nat} {k n : Int} {t : ByteArray} {c : Int} (T : Two w g h k n t c) : w.frozen? ⟨g, 0, none⟩ = false ∧ w.frozen? ⟨g, 1, none⟩ = false ∧ w.frozen? ⟨g, 2, none⟩ = false ∧ w.frozen? ⟨h, 0, none⟩ = false := by
  refine ⟨?_, ?_, ?_, ?_⟩ <;> simp [World.frozen?, T.bv, T.bc]
theorem Two.below {w w' : World} {B g h : Nat} {k n : Int} {t : ByteArray} {c : Int} (T : Two w g h k n t c) (b : Below B w w') (hg : g < B) (hh : h < B) : Two w' g h k n t c := ⟨(b.block g hg).trans T.bv, (b.block h hh).trans T.bc, T.ne⟩
theorem onlyCode_ok (g h : Nat) (w : World) (u : FrameMode) (c1 : w.cell? ⟨h, 0, none⟩ = some (.int .i64 0)) :
    CallsD Try.prog 101 #[.pointer (some ⟨g, 0, none⟩), .pointer (some ⟨h, 0, none⟩)] u w fun e u' w' => u' = u ∧ (e = .returned (.tuple #[]) ∧ w' = w) := by
  go_enter_d Try.func101, Try.ntmps101
  go_wp2
  exact bodyPost_end (v := .tuple #[]) (by simp [results, Try.results101, go_sem]) rfl ⟨rfl, rfl⟩
theorem onlyCode_bad (g h : Nat) (k n c : Int) (t : ByteArray) (w : World) (u : FrameMode) (hc : c ≠ 0) (c1 : w.cell? ⟨h, 0, none⟩ = some (.int .i64 c))
    (c2 : w.cell? ⟨g, 0, none⟩ = some (.int .i64 k)) (c3 : w.cell? ⟨g, 1, none⟩ = some (.int .i64 n)) (c4 : w.cell? ⟨g, 2, none⟩ = some (.string t))
    (z2 : w.frozen? ⟨g, 0, none⟩ = false) (z3 : w.frozen? ⟨g, 1, none⟩ = false) (z4 : w.frozen? ⟨g, 2, none⟩ = false) :
    CallsD Try.prog 101 #[.pointer (some ⟨g, 0, none⟩), .pointer (some ⟨h, 0, none⟩)] u w fun e u' w' => u' = u ∧ (e = .returned (.tuple #[]) ∧ w' = ((w.setCell ⟨g, 0, none⟩ (.int .i64 0)).setCell ⟨g, 1, none⟩ (.int .i64 0)).setCell ⟨g, 2, none⟩ (.string noT)) := by
  have hc' : (c != 0) = true := by simpa using hc
  go_enter_d Try.func101, Try.ntmps101
  go_wp2
  exact bodyPost_end (v := .tuple #[]) (by simp [results, Try.results101, go_sem]) rfl ⟨rfl, rfl⟩
/-- Function g has a body. -/
def Ent (g : Nat) : Prop := ∀ (args : Array Value) (w : World), (callFunc g args).run Try.prog w = .ok (.enter g args) w
/-- A function of two numbers, at its number g, from this world on. -/
def IntsW (w : World) (g : Nat) (R C : Int → Int → Int) : Prop := ∀ w', Below w.heap.size w w' → ∀ a b, In64 a → In64 b → Calls Try.prog g #[.int .i64 a, .int .i64 b] w' fun e w'' => e = .returned (NC (R a b) (C a b)) ∧ Below w'.heap.size w' w''
set_option maxRecDepth 100000 in
theorem reck_any (R C : Int → Int → Int) (g bx : Nat) (k n : Int) (t : ByteArray) (k2 n2 : Int) (t2 : ByteArray) (w : World) (hn : In64 n) (hn2 : In64 n2) (hx : w.cell? ⟨bx, 0, none⟩ = some (.func (.func g) #[] #[])) (hlt : bx < w.heap.size) (hE : Ent g) (hI : IntsW w g R C) :
    Calls Try.prog 100 #[VV k n t, VV k2 n2 t2, .pointer (some ⟨bx, 0, none⟩)] w fun e w' => e = .returned (.tuple #[if C n n2 = 0 then VV 2 (R n n2) noT else VV 0 0 noT, .int .i64 (C n n2)]) ∧ Below w.heap.size w w' := by
  have hl1 : bx < w.heap.size + 1 := by omega
  have hl2 : bx < w.heap.size + 1 + 1 := by omega
  have hl3 : bx < w.heap.size + 1 + 1 + 1 := by omega
  unfold Ent at hE
  obtain ⟨W, hW⟩ : ∃ W, W = ((((w.alloc (.cells #[.int .i64 k, .int .i64 n, .string t] 24)).alloc (.cells #[.int .i64 k2, .int .i64 n2, .string t2] 24)).alloc (.cells #[.int .i64 2, .int .i64 0, .string noT] 24)).alloc (.cells #[.int .i64 0] 3)) := ⟨_, rfl⟩
  have B0 : Below w.heap.size w W := by subst hW; exact ((((Below.refl _ _).alloc (Nat.le_refl _) _).alloc (by simp) _).alloc (by simp; omega) _).alloc (by simp; omega) _
  have hs : W.heap.size = w.heap.size + 1 + 1 + 1 + 1 := by subst hW; simp
  have hcall := hI W B0 n n2 hn hn2
  have TW : Hid (Two W (w.heap.size + 1 + 1) (w.heap.size + 1 + 1 + 1) 2 0 noT 0) := by
    subst hW
    exact ⟨(Below.heap_alloc _ _ _ (by simp)).trans (by have := heap_alloc_new ((w.alloc (.cells #[.int .i64 k, .int .i64 n, .string t] 24)).alloc (.cells #[.int .i64 k2, .int .i64 n2, .string t2] 24)) (.cells #[.int .i64 2, .int .i64 0, .string noT] 24); simpa using this), by have := heap_alloc_new (((w.alloc (.cells #[.int .i64 k, .int .i64 n, .string t] 24)).alloc (.cells #[.int .i64 k2, .int .i64 n2, .string t2] 24)).alloc (.cells #[.int .i64 2, .int .i64 0, .string noT] 24)) (.cells #[.int .i64 0] 3); simpa using this, by omega⟩
  have HS : Hid (W.heap.size = w.heap.size + 1 + 1 + 1 + 1) := hs
  clear hI hs
  generalize R n n2 = r at *
  generalize C n n2 = c at *
  have hc0 : ¬ c = 0 → c ≠ 0 := id
  go_enter_defers Try.func100, Try.ntmps100
  go_wp2_with fail
  rw [← hW]
  refine hcall.mono ?_
  rintro e w1 ⟨rfl, b1⟩
  have hs := HS.out
  have T1 := TW.out.below b1 (by omega) (by omega)
  obtain ⟨v0, v1, v2, v3⟩ := T1.cells
  obtain ⟨y0, y1, y2, y3⟩ := T1.free
  have TT : Hid (Two w1 (w.heap.size + 1 + 1) (w.heap.size + 1 + 1 + 1) 2 0 noT 0) := T1
  have B1 : Hid (Below w.heap.size w w1) := B0.trans (b1.mono B0.size)
  clear T1 TW hs HS hcall b1 B0 hW hx hE
  go_wp2
  · have T2 := (((((TT.out.s1 r).sc 0).s0 2).s1 r).s2 noT).sc 0
    refine leaves_cons (f := 101) (args := #[.pointer (some ⟨w.heap.size + 1 + 1, 0, none⟩), .pointer (some ⟨w.heap.size + 1 + 1 + 1, 0, none⟩)]) (by simp) (by simp [go_sem]) ?_
    refine (onlyCode_ok _ _ _ .returning T2.cells.2.2.2).mono ?_
    rintro e u' w'' ⟨rfl, rfl, rfl⟩
    refine ⟨.tuple #[VV 2 r noT, .int .i64 0], ?_, rfl, ?_⟩
    · obtain ⟨q0, q1, q2, q3⟩ := T2.cells
      simp [results, Try.results100, go_sem, q0, q1, q2, q3]
    · exact ((((((B1.out.setCell (by simp; omega) _).setCell (by simp; omega) _).setCell (by simp; omega) _).setCell (by simp; omega) _).setCell (by simp; omega) _).setCell (by simp; omega) _)
  · have hc := hc0 (by assumption)
    have T2 := (((((TT.out.s1 r).sc c).s0 2).s1 r).s2 noT).sc c
    have T3 := ((T2.s0 0).s1 0).s2 noT
    refine leaves_cons (f := 101) (args := #[.pointer (some ⟨w.heap.size + 1 + 1, 0, none⟩), .pointer (some ⟨w.heap.size + 1 + 1 + 1, 0, none⟩)]) (by simp) (by simp [go_sem]) ?_
    refine (onlyCode_bad _ _ 2 r c noT _ .returning hc T2.cells.2.2.2 T2.cells.1 T2.cells.2.1 T2.cells.2.2.1 T2.free.1 T2.free.2.1 T2.free.2.2.1).mono ?_
    rintro e u' w'' ⟨rfl, rfl, rfl⟩
    refine ⟨.tuple #[VV 0 0 noT, .int .i64 c], ?_, rfl, ?_⟩
    · obtain ⟨q0, q1, q2, q3⟩ := T3.cells
      simp [results, Try.results100, go_sem, q0, q1, q2, q3]
    · exact (((((((((B1.out.setCell (by simp; omega) _).setCell (by simp; omega) _).setCell (by simp; omega) _).setCell (by simp; omega) _).setCell (by simp; omega) _).setCell (by simp; omega) _).setCell (by simp; omega) _).setCell (by simp; omega) _).setCell (by simp; omega) _)
end Go.Proofs.Yteloioopkndcmaa
