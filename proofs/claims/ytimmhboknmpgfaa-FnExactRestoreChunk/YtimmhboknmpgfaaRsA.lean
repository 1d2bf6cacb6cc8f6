/- What RestoreOK answers on both sides, and what the law's helpers on a restore do. -/
import Derived.Test.YtimmhboknmpgfaaRows
import Derived.WalkKit
import Derived.WalkSpells
import Derived.WalkLawsBesides
import Derived.Outline
import Derived.Below
import Derived.ProofKit
import Derived.OpenShut
import Derived.ShutString
import Derived.Lib.SmallJoins
import Derived.ChangeOld
namespace Go.Proofs.Ytimmhboknmpgfaa
open Go.ChangeShapes Go.WideShapes Go.ChangeAt Go.RowKit Go.Joins

theorem ret_bool' {a b : Bool} (h : a = b) : Ending.returned (.bool a) = .returned (.bool b) := by rw [h]
theorem ret_int' {k : IntKind} {a b : Int} (h : a = b) : Ending.returned (.int k a) = .returned (.int k b) := by rw [h]
theorem ret_val {a b : Value} (h : a = b) : Ending.returned a = .returned b := by rw [h]
theorem below_step {B : Nat} {W w1 w2 : World} (h : Below B W w1) (hB : B ≤ W.heap.size) (h2 : Below w1.heap.size w1 w2) : Below B W w2 :=
  h.trans (h2.mono (Nat.le_trans hB h.size))
theorem bcell {W w1 : World} (hb : Below W.heap.size W w1) : (∀ b o, b < W.heap.size → w1.cell? ⟨b, o, none⟩ = W.cell? ⟨b, o, none⟩) ∧ (∀ b o, b < W.heap.size → w1.frozen? ⟨b, o, none⟩ = W.frozen? ⟨b, o, none⟩) :=
  ⟨fun b o h => hb.cell (p := ⟨b, o, none⟩) h, fun b o h => hb.frozen (p := ⟨b, o, none⟩) h⟩
theorem own : ownKnob Try.prog.godebug = none := by kernel_rfl
theorem laidOut : laidOutB Try.prog = true := by kernel_rfl
theorem cells23 : Try.prog.cellsOf 23 = 3 := by kernel_rfl

/-- A restore as both sides' structs hold it. -/
abbrev RV (n : Int) (t : ByteArray) (d : Bool) : Value := .agg #[.int .i64 n, .string t, .bool d]

/-- A right restore, as chapter 17 has it. -/
def okR (n : Int) (t : ByteArray) (d : Bool) : Bool := decide (n = (t.size : Int)) && decide ((t.size : Int) ≤ 65536) && (d || (t.size : Int) % 64 == 0)

def leftOf (left : Int) (t : ByteArray) : Int := if left - t.size < 0 then -1 else left - t.size

theorem szRestore_any (n left : Int) (t : ByteArray) (d : Bool) (w : World) (h0 : 0 ≤ left) (h1 : left ≤ 1048576) (ht : t.size ≤ maxLen) :
    Calls Try.prog 5 #[RV n t d, .int .i64 left] w fun e w' => e = .returned (.int .i64 (leftOf left t)) ∧ Below w.heap.size w w' := by
  unfold maxLen at ht
  by_cases hlt : left - t.size < 0
  · have H : Hid (leftOf left t = -1) := by show _ = _; unfold leftOf; rw [if_pos hlt]
    go_enter Try.func5, Try.ntmps5
    go_wp2
    go_ret
    exact ⟨ret_int' H.out.symm, (Below.refl _ _).alloc (Nat.le_refl _) _⟩
  · have H : Hid (leftOf left t = left - t.size) := by show _ = _; unfold leftOf; rw [if_neg hlt]
    go_enter Try.func5, Try.ntmps5
    go_wp2
    go_ret
    exact ⟨ret_int' H.out.symm, (Below.refl _ _).alloc (Nat.le_refl _) _⟩

theorem toRestore_any (n : Int) (t : ByteArray) (d : Bool) (w : World) :
    Calls Try.prog 7 #[RV n t d] w fun e w' => e = .returned (RV n t d) ∧ Below w.heap.size w w' := by
  go_enter Try.func7, Try.ntmps7
  go_wp2
  exact bodyPost_ret (v := RV n t d) (by simp [results, Try.results7, go_sem]) rfl ⟨rfl, (((Below.refl _ _).alloc (Nat.le_refl _) _).alloc (by simp) _).alloc (by simp; omega) _⟩

set_option maxHeartbeats 1000000 in
theorem specRestoreOK_any (n : Int) (t : ByteArray) (d : Bool) (w : World) (ht : t.size ≤ maxLen) :
    Calls Try.prog 6 #[RV n t d] w fun e w' => e = .returned (.bool (okR n t d)) ∧ Below w.heap.size w w' := by
  unfold maxLen at ht
  by_cases h1 : (t.size : Int) ≤ 65536
  · by_cases h2 : n = (t.size : Int)
    · cases d
      · go_enter Try.func6, Try.ntmps6
        go_wp2
        all_goals
          go_ret
          refine ⟨ret_bool' ?_, (Below.refl _ _).alloc (Nat.le_refl _) _⟩
          first | (simp_all [okR]; done) | (simp [okR]; omega)
      · go_enter Try.func6, Try.ntmps6
        go_wp2
        all_goals
          go_ret
          refine ⟨ret_bool' ?_, (Below.refl _ _).alloc (Nat.le_refl _) _⟩
          first | (simp_all [okR]; done) | (simp [okR]; omega)
    · go_enter Try.func6, Try.ntmps6
      go_wp2
      all_goals
        go_ret
        refine ⟨ret_bool' ?_, (Below.refl _ _).alloc (Nat.le_refl _) _⟩
        first | (simp_all [okR]; done) | (simp [okR]; omega)
  · go_enter Try.func6, Try.ntmps6
    go_wp2
    all_goals
      go_ret
      refine ⟨ret_bool' ?_, (Below.refl _ _).alloc (Nat.le_refl _) _⟩
      first | (simp_all [okR]; done) | (simp [okR]; omega)

set_option maxHeartbeats 1000000 in
theorem implRestoreOK_any (n : Int) (t : ByteArray) (d : Bool) (w : World) (ht : t.size ≤ maxLen) :
    Calls Try.prog 8 #[RV n t d] w fun e w' => e = .returned (.bool (okR n t d)) ∧ Below w.heap.size w w' := by
  unfold maxLen at ht
  by_cases h2 : n = (t.size : Int)
  · by_cases h1 : (t.size : Int) ≤ 65536
    · cases d
      · go_enter Try.func8, Try.ntmps8
        go_wp2
        all_goals
          go_ret
          refine ⟨ret_bool' ?_, (Below.refl _ _).alloc (Nat.le_refl _) _⟩
          first | (simp_all [okR]; done) | (simp [okR]; omega)
      · go_enter Try.func8, Try.ntmps8
        go_wp2
        all_goals
          go_ret
          refine ⟨ret_bool' ?_, (Below.refl _ _).alloc (Nat.le_refl _) _⟩
          first | (simp_all [okR]; done) | (simp [okR]; omega)
    · go_enter Try.func8, Try.ntmps8
      go_wp2
      all_goals
        go_ret
        refine ⟨ret_bool' ?_, (Below.refl _ _).alloc (Nat.le_refl _) _⟩
        first | (simp_all [okR]; done) | (simp [okR]; omega)
  · go_enter Try.func8, Try.ntmps8
    go_wp2
    all_goals
      go_ret
      refine ⟨ret_bool' ?_, (Below.refl _ _).alloc (Nat.le_refl _) _⟩
      first | (simp_all [okR]; done) | (simp [okR]; omega)

set_option maxRecDepth 100000 in
/-- A struct Restore that was handed in: a number, a text and a flag. -/
theorem open_restore {H : Type} {enc : TypeId × Value → H} {W : World} {base : Nat} {v : Value} {d : DataW H} {p : List MemPlace}
    (hv : Value.okWide Try.prog W .any base 23 v) (h : DataW.Trod enc Try.prog W 0 (fun _ => true) true 23 v d p) :
    ∃ (n : Int) (t : ByteArray) (g : Bool), v = RV n t g ∧ (Lit.int .i64 n).wf = true ∧ t.size ≤ maxLen := by
  obtain ⟨c0, c1, c2, y0, y1, y2, m, rfl, hd, hp, hy0, hy1, hy2⟩ := open_agg3 Try.underlying23 (by kernel_rfl) cells23 hv h
  obtain ⟨a, e0, _, wa⟩ := DataW.trod_int Try.underlying3 hy0
  obtain ⟨s, e1, _, ws⟩ := DataW.trod_string Try.underlying9 hy1
  obtain ⟨g, e2, _⟩ := DataW.trod_bool Try.underlying4 hy2
  simp at e0 e1 e2
  subst e0 e1 e2
  exact ⟨a, s, g, rfl, wa, ws⟩
end Go.Proofs.Ytimmhboknmpgfaa
