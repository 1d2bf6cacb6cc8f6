/- Marks of texts, and lists of texts in blocks of their own. -/
import Derived.Test.YtgfgaiimigchkaaRows
import Derived.WalkKit
import Derived.WalkSpells
import Derived.WalkLawsBesides
import Derived.ProofKit
import Derived.OpenShut
import Derived.Outline
import Derived.Below
import Derived.OwnWalk
import Derived.BigQuiet
import Derived.Deep.RegionHeld3
import Derived.Laws.IdiomStrings
import Derived.Laws.Concat
namespace Go.Proofs.Ytgfgaiimigchkaa
open Go.RowKit

theorem ret_bool' {a b : Bool} (h : a = b) : Ending.returned (.bool a) = .returned (.bool b) := by rw [h]
theorem ret_int' {k : IntKind} {a b : Int} (h : a = b) : Ending.returned (.int k a) = .returned (.int k b) := by rw [h]
theorem ret_val {a b : Value} (h : a = b) : Ending.returned a = .returned b := by rw [h]
theorem below_step {B : Nat} {W w1 w2 : World} (h : Below B W w1) (hB : B ≤ W.heap.size) (h2 : Below w1.heap.size w1 w2) : Below B W w2 :=
  h.trans (h2.mono (Nat.le_trans hB h.size))
theorem below_drewN {B : Nat} {a w : World} (h : Below B a w) (n : Nat) : Below B a (w.drewN n) := ⟨h.os, h.tape, h.output, h.size, h.block⟩
theorem add_plain (b off i : Nat) : (⟨b, off, none⟩ : Addr).add i = ⟨b, off + i, none⟩ := by
  unfold Addr.add
  split <;> simp_all

/-- The digits of q, ahead of t. -/
def dig : Nat → Nat → ByteArray → ByteArray
  | 0, _, t => t
  | f + 1, q, t => if q = 0 then t else dig f (q / 10) (⟨#[UInt8.ofNat (48 + q % 10)]⟩ ++ t)
theorem dig_zero (f : Nat) (t : ByteArray) : dig f 0 t = t := by cases f <;> simp [dig]
theorem dig_step {f q : Nat} {t : ByteArray} (hq : 0 < q) (hf : q ≤ f) : ∃ f', q / 10 ≤ f' ∧ dig f q t = dig f' (q / 10) (⟨#[UInt8.ofNat (48 + q % 10)]⟩ ++ t) := by
  cases f with
  | zero => omega
  | succ f => exact ⟨f, by omega, by simp [dig]; omega⟩
/-- What markText answers. -/
def markT (k : Nat) : ByteArray := ⟨#[109]⟩ ++ dig k k ⟨#[]⟩

set_option maxRecDepth 100000 in
set_option maxHeartbeats 1000000 in
theorem markText_any (k : Nat) (w : World) (h0 : 0 < k) (h1 : k ≤ 1000000) :
    Calls Try.prog 26 #[.int .i64 k] w fun e w' => e = .returned (.string (markT k)) ∧ Below w.heap.size w w' := by
  have hk : ¬ (k : Int) ≤ 0 := by omega
  have HM : Hid (markT k = ⟨#[109]⟩ ++ dig k k ⟨#[]⟩) := rfl
  go_enter Try.func26, Try.ntmps26
  go_wp2
  go_loopw [0, 3] (fun kk o wr => ∃ (q f : Nat) (t : ByteArray), kk = .int .i64 q ∧ o = .string t ∧ q ≤ f ∧ q ≤ 1000000 ∧ t.size + q ≤ 1000000 ∧ Hid (dig f q t = dig k k ⟨#[]⟩) ∧ Below w.heap.size w wr) (fun kk _ _ => (intOf kk).toNat)
  case atStart => exact ⟨k, k, ⟨#[]⟩, rfl, rfl, Nat.le_refl _, h1, by show 0 + _ ≤ _; omega, rfl, Below.refl _ _⟩
  case round =>
    obtain ⟨q, f, t, rfl, rfl, hf, q1, hs, HD, hbl⟩ := hrel
    by_cases hq : 0 < q
    · obtain ⟨f', hf', hd⟩ := dig_step (t := t) hq hf
      obtain ⟨b, hb⟩ : ∃ b : UInt8, b = UInt8.ofNat (48 + q % 10) := ⟨_, rfl⟩
      have hbn : (b.toNat : Int) = 48 + (q : Int) % 10 := by rw [hb]; simp; omega
      have HD' : Hid (dig f' (q / 10) (⟨#[b]⟩ ++ t) = dig k k ⟨#[]⟩) := by rw [hb]; exact hd.symm.trans HD.out
      clear hd hb HD
      have hcv := run_convert_bytes_back (P := Try.prog) (wr.alloc (.cells #[.int .u8 (48 + (q : Int) % 10)] 5)) 39 9 5 ⟨wr.heap.size, 0, none⟩ 1 [b] Try.underlying39 Try.underlying5 Try.underlying9 (fun j hj => by
        have : j = 0 := by simpa using hj
        subst this
        rw [add_plain, ← hbn]
        exact World.cell?_alloc_at _ _ _ _ rfl)
      have hcv' : Sem.run Try.prog (convert 39 9 (.slice (some ⟨wr.heap.size, 0, none⟩) 1 1)) (wr.alloc (.cells #[.int .u8 (48 + (q : Int) % 10)] 5)) = .ok (.string ⟨#[b]⟩) (wr.alloc (.cells #[.int .u8 (48 + (q : Int) % 10)] 5)) := hcv
      have hsz : (⟨#[b]⟩ : ByteArray).size = 1 := rfl
      have hadd := fun wx => run_string_add_sum (P := Try.prog) (w := wx) ⟨#[b]⟩ t (by rw [hsz]; omega)
      have hB := hbl.alloc hbl.size (.cells #[.int .u8 (48 + (q : Int) % 10)] 5)
      have HS : Hid ((⟨#[b]⟩ ++ t : ByteArray).size + q / 10 ≤ 1000000) := by show _ ≤ _; rw [ByteArray.size_append, hsz]; omega
      clear hcv hbn hbl hs hsz
      go_wp2
      go_roundw
      case rel => exact ⟨q / 10, f', _, by go_num, rfl, hf', by omega, HS.out, HD'.out, hB⟩
      case measure => simp [intOf]; omega
    · obtain rfl : q = 0 := by omega
      have HT : Hid (⟨#[109]⟩ ++ t = markT k) := by show _ = _; rw [HM.out, ← HD.out, dig_zero]
      clear HD HM
      go_wp2
      go_ret
      exact ⟨ret_val (congrArg Value.string HT.out), hbl⟩

theorem slab_set {w : World} {g o : Nat} {cur : Array Value} {e : TypeId} (h : w.heap[g]? = some (.cells cur e (0, 0))) (v : Value) : (w.setCell ⟨g, o, none⟩ v).heap[g]? = some (.cells (cur.setIfInBounds o v) e (0, 0)) := by
  simp [World.setCell, Array.getElem?_modify, h]
theorem slab_cell {w : World} {g o : Nat} {cur : Array Value} {e : TypeId} (h : w.heap[g]? = some (.cells cur e (0, 0))) : w.cell? ⟨g, o, none⟩ = cur[o]? := by
  simp [World.cell?, h]
theorem slab_free {w : World} {g o : Nat} {cur : Array Value} {e : TypeId} (h : w.heap[g]? = some (.cells cur e (0, 0))) : w.frozen? ⟨g, o, none⟩ = false := by
  simp [World.frozen?, h]
theorem slab_lt {w : World} {g : Nat} {x : Obj} (hh : w.heap[g]? = some x) : g < w.heap.size := by
  rcases Nat.lt_or_ge g w.heap.size with h | h
  · exact h
  · rw [Array.getElem?_eq_none h] at hh; cases hh

/-- Block g holds the texts f 0, f 1, .. -/
def SlabT (w : World) (g : Nat) (f : Nat → ByteArray) (len : Nat) : Prop :=
  ∃ cur, w.heap[g]? = some (.cells cur 9 (0, 0)) ∧ ∀ j, j < len → cur[j]? = some (.string (f j))
theorem SlabT.below {w w' : World} {g len B : Nat} {f : Nat → ByteArray} (h : SlabT w g f len) (hb : Below B w w') (hg : g < B) : SlabT w' g f len := by
  obtain ⟨cur, hh, r⟩ := h
  exact ⟨cur, (hb.block g hg).trans hh, r⟩
theorem SlabT.lt {w : World} {g len : Nat} {f : Nat → ByteArray} (h : SlabT w g f len) : g < w.heap.size := by
  obtain ⟨cur, hh, _⟩ := h
  exact slab_lt hh
theorem SlabT.cell {w : World} {g len j : Nat} {f : Nat → ByteArray} (h : SlabT w g f len) (hj : j < len) : w.cell? ⟨g, j, none⟩ = some (.string (f j)) := by
  obtain ⟨cur, hh, hc⟩ := h
  rw [slab_cell hh]; exact hc j hj
theorem SlabT.free {w : World} {g len : Nat} {f : Nat → ByteArray} (h : SlabT w g f len) (o : Nat) : w.frozen? ⟨g, o, none⟩ = false := by
  obtain ⟨cur, hh, _⟩ := h
  exact slab_free hh
theorem SlabT.set {w : World} {g len m : Nat} {f f' : Nat → ByteArray} {t : ByteArray} (h : SlabT w g f len) (hm : m < len) (hf : ∀ j, j < len → f' j = if j = m then t else f j) : SlabT (w.setCell ⟨g, m, none⟩ (.string t)) g f' len := by
  obtain ⟨cur, hh, hc⟩ := h
  refine ⟨_, slab_set hh _, fun j hj => ?_⟩
  have hml : m < cur.size := by
    rcases Nat.lt_or_ge m cur.size with h | h
    · exact h
    · have := hc m hm; rw [Array.getElem?_eq_none h] at this; cases this
  rw [hf j hj]
  by_cases e : j = m
  · subst e
    rw [if_pos rfl, Array.getElem?_setIfInBounds_self_of_lt hml]
  · rw [if_neg e, Array.getElem?_setIfInBounds_ne (by omega)]; exact hc j hj
end Go.Proofs.Ytgfgaiimigchkaa
