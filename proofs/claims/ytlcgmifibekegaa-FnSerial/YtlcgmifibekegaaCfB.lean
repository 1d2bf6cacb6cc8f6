/- Which transactions conflict with which: impl's flags (stage 8). -/
import Derived.Test.YtlcgmifibekegaaCfA
namespace Go.Proofs.Ytlcgmifibekegaa
open Go.RowKit

/-- Six times six flags as cells. -/
abbrev fl2A (f : Nat → Nat → Bool) : Array Value := #[.bool (f 0 0), .bool (f 0 1), .bool (f 0 2), .bool (f 0 3), .bool (f 0 4), .bool (f 0 5), .bool (f 1 0), .bool (f 1 1), .bool (f 1 2), .bool (f 1 3), .bool (f 1 4), .bool (f 1 5), .bool (f 2 0), .bool (f 2 1), .bool (f 2 2), .bool (f 2 3), .bool (f 2 4), .bool (f 2 5), .bool (f 3 0), .bool (f 3 1), .bool (f 3 2), .bool (f 3 3), .bool (f 3 4), .bool (f 3 5), .bool (f 4 0), .bool (f 4 1), .bool (f 4 2), .bool (f 4 3), .bool (f 4 4), .bool (f 4 5), .bool (f 5 0), .bool (f 5 1), .bool (f 5 2), .bool (f 5 3), .bool (f 5 4), .bool (f 5 5)]
abbrev Fl2B (w : World) (g : Nat) (f : Nat → Nat → Bool) : Prop := w.heap[g]? = some (.cells (fl2A f) 95 (0, 0))
abbrev z36 : Array Value := #[.bool false, .bool false, .bool false, .bool false, .bool false, .bool false, .bool false, .bool false, .bool false, .bool false, .bool false, .bool false, .bool false, .bool false, .bool false, .bool false, .bool false, .bool false, .bool false, .bool false, .bool false, .bool false, .bool false, .bool false, .bool false, .bool false, .bool false, .bool false, .bool false, .bool false, .bool false, .bool false, .bool false, .bool false, .bool false, .bool false]
theorem fl2_get (f : Nat → Nat → Bool) (a b : Nat) (ha : a < 6) (hb : b < 6) : (fl2A f)[a * 6 + b]? = some (.bool (f a b)) := by
  have h : a = 0 ∨ a = 1 ∨ a = 2 ∨ a = 3 ∨ a = 4 ∨ a = 5 := by omega
  have h' : b = 0 ∨ b = 1 ∨ b = 2 ∨ b = 3 ∨ b = 4 ∨ b = 5 := by omega
  rcases h with rfl | rfl | rfl | rfl | rfl | rfl <;> rcases h' with rfl | rfl | rfl | rfl | rfl | rfl <;> rfl
theorem fl2_size (f : Nat → Nat → Bool) : (fl2A f).size = 36 := rfl
theorem fl2_set (f f' : Nat → Nat → Bool) (a b : Nat) (v : Bool) (hb : b < 6) (h1 : f' a b = v) (h2 : ∀ i j, ¬ (i = a ∧ j = b) → f' i j = f i j) : (fl2A f).setIfInBounds (a * 6 + b) (.bool v) = fl2A f' := by
  apply Array.ext_getElem?
  intro i
  by_cases hi : i < 36
  · have e : i = i / 6 * 6 + i % 6 := by omega
    have g' := fl2_get f' (i / 6) (i % 6) (by omega) (by omega)
    have g := fl2_get f (i / 6) (i % 6) (by omega) (by omega)
    rw [← e] at g g'
    rw [g']
    by_cases h : i = a * 6 + b
    · rw [← h, Array.getElem?_setIfInBounds_self_of_lt (by rw [fl2_size]; exact hi)]
      have e1 : i / 6 = a := by omega
      have e2 : i % 6 = b := by omega
      rw [e1, e2, h1]
    · rw [Array.getElem?_setIfInBounds_ne (by omega), g, h2 (i / 6) (i % 6) (by omega)]
  · rw [Array.getElem?_eq_none (by rw [Array.size_setIfInBounds, fl2_size]; omega), Array.getElem?_eq_none (by rw [fl2_size]; omega)]
theorem Fl2B.set {w : World} {g a b : Nat} {f f' : Nat → Nat → Bool} {v : Bool} (h : Fl2B w g f) (hb : b < 6) (h1 : f' a b = v) (h2 : ∀ i j, ¬ (i = a ∧ j = b) → f' i j = f i j) : Fl2B (w.setCell ⟨g, a * 6 + b, none⟩ (.bool v)) g f' := by
  show (w.setCell ⟨g, a * 6 + b, none⟩ (.bool v)).heap[g]? = _
  rw [slab_set h, fl2_set f f' a b v hb h1 h2]
theorem Fl2B.congr {w : World} {g : Nat} {f f' : Nat → Nat → Bool} (h : Fl2B w g f) (e : ∀ a b, f' a b = f a b) : Fl2B w g f' := by
  have : f' = f := funext fun a => funext fun b => e a b
  rw [this]; exact h
theorem fl2_one (f : Nat → Nat → Bool) : ∀ v ∈ (fl2A f).toList, v.oneCell' = true := by
  intro v hv
  obtain ⟨i, hi⟩ := List.mem_iff_getElem?.1 hv
  rw [Array.getElem?_toList] at hi
  by_cases h : i < 36
  · have g := fl2_get f (i / 6) (i % 6) (by omega) (by omega)
    rw [show i / 6 * 6 + i % 6 = i by omega, hi] at g
    cases g
    rfl
  · rw [Array.getElem?_eq_none (by rw [fl2_size]; omega)] at hi
    cases hi
theorem run_load36 {w : World} {g : Nat} {A : Array Value} (h : w.heap[g]? = some (.cells A 95 (0, 0))) (hs : A.size = 36) : (loadCellsFrom ⟨g, 0, none⟩ 0 36 #[]).run Try.prog w = .ok A w := by
  have := run_loadCells_list (P := Try.prog) w ⟨g, 0, none⟩ A.toList (fun j v hv => by
    rw [add_plain, slab_cell h, Nat.zero_add]
    simpa using hv)
  rw [Array.length_toList, hs] at this
  simpa [loadCells] using this
theorem run_store36 {w : World} {g : Nat} {A old : Array Value} (h : w.heap[g]? = some (.cells old 95 (0, 0))) (ho : old.size = 36) (hs : A.size = 36) (h1 : ∀ v ∈ A.toList, v.oneCell' = true) : (storeCells ⟨g, 0, none⟩ A.toList 0).run Try.prog w = .ok () (w.setRow g A) := by
  have := run_storeCells_from (P := Try.prog) g 95 A.toList 0 old w h (by simp; omega) h1
  simpa using this
theorem below_setRow {B : Nat} {a w : World} (h : Below B a w) {g : Nat} (hg : B ≤ g) (A : Array Value) : Below B a (w.setRow g A) :=
  ⟨h.os, h.tape, h.output, by rw [setRow_size]; exact h.size, fun k hk => (setRow_other w g k A (by omega)).trans (h.block k hk)⟩
/-- Acts p and q, of a and b, conflict. -/
def HitP (ops : List TH) (p q a b : Nat) : Prop := (nthH ops p).1 = (a : Int) ∧ (nthH ops q).1 = (b : Int) ∧ (nthH ops p).1 ≠ (nthH ops q).1 ∧ cnfB (nthH ops p) (nthH ops q) = true
/-- The flags when all pairs ahead of (i, j) have been looked at. -/
noncomputable def cfF (ops : List TH) (i j a b : Nat) : Bool := asB (∃ p q, p < q ∧ q < ops.length ∧ (p < i ∨ (p = i ∧ q < j)) ∧ HitP ops p q a b)
theorem cfF_next {ops : List TH} {i a b : Nat} : cfF ops i ops.length a b = cfF ops (i + 1) 0 a b :=
  asB_iff ⟨fun ⟨p, q, h1, h2, h3, h4⟩ => ⟨p, q, h1, h2, by omega, h4⟩, fun ⟨p, q, h1, h2, h3, h4⟩ => ⟨p, q, h1, h2, by omega, h4⟩⟩
theorem cfF_first {ops : List TH} {i a b : Nat} : cfF ops i (i + 1) a b = cfF ops i 0 a b :=
  asB_iff ⟨fun ⟨p, q, h1, h2, h3, h4⟩ => ⟨p, q, h1, h2, by omega, h4⟩, fun ⟨p, q, h1, h2, h3, h4⟩ => ⟨p, q, h1, h2, by omega, h4⟩⟩
theorem cfF_miss {ops : List TH} {i j a b : Nat} (h : ¬ HitP ops i j a b) : cfF ops i (j + 1) a b = cfF ops i j a b := by
  refine asB_iff ⟨fun ⟨p, q, h1, h2, h3, h4⟩ => ⟨p, q, h1, h2, ?_, h4⟩, fun ⟨p, q, h1, h2, h3, h4⟩ => ⟨p, q, h1, h2, by omega, h4⟩⟩
  by_cases e : p = i ∧ q = j
  · rw [e.1, e.2] at h4; exact absurd h4 h
  · omega
theorem cfF_hit {ops : List TH} {i j a b : Nat} (hij : i < j) (hj : j < ops.length) (h : HitP ops i j a b) : cfF ops i (j + 1) a b = true := (asB_true ⟨i, j, hij, hj, .inr ⟨rfl, by omega⟩, h⟩).symm
/-- What stands while two acts are looked at. -/
abbrev StC (W : World) (b1 b2 : Nat) (t t' : Int) (w' : World) : Prop := w'.cell? ⟨b1, 0, none⟩ = some (.int .i64 t) ∧ w'.cell? ⟨b2, 0, none⟩ = some (.int .i64 t') ∧ b1 < w'.heap.size ∧ b2 < w'.heap.size ∧ Below W.heap.size W w'

set_option maxRecDepth 100000 in
set_option maxHeartbeats 4000000 in
theorem conflictFlags_any (a : Option Addr) (cap : Nat) (ops : List TH) (w : World) (h : RowH w a ops) (hl : ops.length ≤ 1048576) (hlc : ops.length ≤ cap) (hp : TxsP ops) :
    Calls Try.prog 69 #[.slice a ops.length cap] w fun e w' => e = .returned (.agg (fl2A (cfF ops ops.length 0))) ∧ Below w.heap.size w w' := by
  have HR : Hid (RowH w a ops) := h
  have HP : Hid (TxsP ops) := hp
  clear h hp
  obtain ⟨len, hlen⟩ : ∃ m, ops.length = m := ⟨_, rfl⟩
  have HL : Hid (ops.length = len) := hlen
  rw [hlen] at hl hlc ⊢
  clear hlen
  have X0 : Hid (Fl2B ((w.alloc (.cells z36 95)).alloc (.cells z36 95)) (w.heap.size + 1) (cfF ops 0 0)) := by
    have e0 : ∀ a b, cfF ops 0 0 a b = false := fun a b => (asB_false (fun ⟨p, q, h1, h2, h3, _⟩ => by omega)).symm
    have e1 : fl2A (cfF ops 0 0) = z36 := by simp only [fl2A, e0]
    show _ = some (Obj.cells (fl2A (cfF ops 0 0)) 95 (0, 0))
    rw [e1]
    exact heap_new' _ _ _ (by simp)
  have Y0 : Hid (((w.alloc (.cells z36 95)).alloc (.cells z36 95)).heap[w.heap.size]? = some (.cells z36 95 (0, 0))) := (heap_old _ _ _ (by simp)).trans (heap_new' _ _ _ rfl)
  have B0 : Below w.heap.size w ((w.alloc (.cells z36 95)).alloc (.cells z36 95)) := ((Below.refl _ _).alloc (Nat.le_refl _) _).alloc (by simp) _
  go_enter Try.func69, Try.ntmps69
  go_wp2
  go_loopw [10] (fun i wr => ∃ k : Nat, k ≤ len ∧ i = .int .i64 k ∧ Hid (Fl2B wr (w.heap.size + 1) (cfF ops k 0) ∧ wr.heap[w.heap.size]? = some (.cells z36 95 (0, 0))) ∧ Below w.heap.size w wr) (fun i _ => len - (intOf i).toNat)
  case atStart => exact ⟨0, by omega, rfl, ⟨X0.out, Y0.out⟩, B0⟩
  case round =>
    clear X0 Y0 B0
    obtain ⟨k, hk, rfl, HF, hbl⟩ := hrel
    have hlw : w.heap.size + 1 < wr.heap.size := slab_lt HF.out.1
    by_cases hlt : k < len
    · obtain ⟨b, off, rfl, hlb, ⟨q0, q1, q2, q3⟩, _, _⟩ := (HR.out.below hbl) k (by rw [HL.out]; exact hlt)
      have hltI : (k : Int) < (len : Int) := by omega
      obtain ⟨t0, t5⟩ := HP.out k (by rw [HL.out]; exact hlt)
      obtain ⟨x, hx⟩ : ∃ x, nthH ops k = x := ⟨_, rfl⟩
      have HX : Hid (nthH ops k = x) := hx
      rw [hx] at q0 q1 q2 q3 t0 t5
      clear hx
      obtain ⟨tx, kd, ky, va⟩ := x
      simp only at t0 t5
      obtain ⟨T, rfl⟩ := Int.eq_ofNat_of_zero_le t0
      have hT : T < 6 := by omega
      have hTI : (T : Int) < 6 := by omega
      obtain ⟨W1, hW1⟩ : ∃ W1, wr.alloc (.cells #[.int .i64 T, .int .i64 kd, .string ky, .string va] 107) = W1 := ⟨_, rfl⟩
      have b1 : Below wr.heap.size wr W1 := hW1 ▸ (Below.refl _ _).alloc (Nat.le_refl _) _
      have yb : W1.heap[wr.heap.size]? = some (.cells #[.int .i64 T, .int .i64 kd, .string ky, .string va] 107 (0, 0)) := hW1 ▸ heap_new' _ _ _ rfl
      have YB : Hid (W1.heap[wr.heap.size]? = some (.cells #[.int .i64 T, .int .i64 kd, .string ky, .string va] 107 (0, 0))) := yb
      have hB1 := below_step hbl (Nat.le_refl _) b1
      have HF1 : Hid (Fl2B W1 (w.heap.size + 1) (cfF ops k (k + 1)) ∧ W1.heap[w.heap.size]? = some (.cells z36 95 (0, 0))) := ⟨Fl2B.congr ((b1.block _ hlw).trans HF.out.1) (fun _ _ => cfF_first), (b1.block _ (by omega)).trans HF.out.2⟩
      obtain ⟨nb, hnb⟩ : ∃ nb, wr.heap.size = nb := ⟨_, rfl⟩
      rw [hnb] at yb YB
      have hnbw : w.heap.size + 1 < nb := by omega
      clear yb b1 HF
      by_cases hcap : cap = k + 1
      · obtain ⟨r, hr⟩ : ∃ r, len - (k + 1) = r := ⟨_, rfl⟩
        have hr' : k + 1 + r = len := by omega
        go_wp2
        go_loopw [20] (fun i wr => ∃ m : Nat, m ≤ r ∧ i = .int .i64 m ∧ Hid (Fl2B wr (w.heap.size + 1) (cfF ops k (k + 1 + m)) ∧ wr.heap[w.heap.size]? = some (.cells z36 95 (0, 0)) ∧ wr.heap[nb]? = some (.cells #[.int .i64 T, .int .i64 kd, .string ky, .string va] 107 (0, 0))) ∧ Below w.heap.size w wr) (fun i _ => r - (intOf i).toNat)
        case atStart => exact ⟨0, by omega, rfl, ⟨HF1.out.1, HF1.out.2, YB.out⟩, hB1⟩
        case round =>
          clear HF1 YB hB1 hbl hW1 q0 q1 q2 q3
          obtain ⟨m, hm, rfl, HG, hbm⟩ := hrel
          have hlw2 : w.heap.size + 1 < wr.heap.size := slab_lt HG.out.1
          have hlw3 : nb < wr.heap.size := slab_lt HG.out.2.2
          by_cases hlt2 : m < r
          · exfalso; omega
          · obtain rfl : m = r := by omega
            have HN : Hid (Fl2B wr (w.heap.size + 1) (cfF ops (k + 1) 0) ∧ wr.heap[w.heap.size]? = some (.cells z36 95 (0, 0))) := ⟨Fl2B.congr HG.out.1 (fun a b => by rw [← cfF_next, HL.out, hr']), HG.out.2.1⟩
            have HBM : Hid (Below w.heap.size w wr) := hbm
            clear HG hbm
            go_wp2
            rw [← hcap]
            clear hcap
            go_roundw
            case rel => exact ⟨k + 1, by omega, by go_num, HN, HBM.out⟩
            case measure => simp [intOf]; omega
      · obtain ⟨r, hr⟩ : ∃ r, len - (k + 1) = r := ⟨_, rfl⟩
        have hr' : k + 1 + r = len := by omega
        go_wp2
        go_loopw [20] (fun i wr => ∃ m : Nat, m ≤ r ∧ i = .int .i64 m ∧ Hid (Fl2B wr (w.heap.size + 1) (cfF ops k (k + 1 + m)) ∧ wr.heap[w.heap.size]? = some (.cells z36 95 (0, 0)) ∧ wr.heap[nb]? = some (.cells #[.int .i64 T, .int .i64 kd, .string ky, .string va] 107 (0, 0))) ∧ Below w.heap.size w wr) (fun i _ => r - (intOf i).toNat)
        case atStart => exact ⟨0, by omega, rfl, ⟨HF1.out.1, HF1.out.2, YB.out⟩, hB1⟩
        case round =>
          clear HF1 YB hB1 hbl hW1 q0 q1 q2 q3
          obtain ⟨m, hm, rfl, HG, hbm⟩ := hrel
          have hlw2 : w.heap.size + 1 < wr.heap.size := slab_lt HG.out.1
          have hlw3 : nb < wr.heap.size := slab_lt HG.out.2.2
          by_cases hlt2 : m < r
          · have hlt2I : (m : Int) < (r : Int) := by omega
            obtain ⟨b', off', e', hlb2, ⟨q0, q1, q2, q3⟩, _, _⟩ := (HR.out.below hbm) (k + 1 + m) (by rw [HL.out]; omega)
            cases e'
            have eo : off + (k + 1 + m) * 4 = off + (k + 1) * 4 + m * 4 := by omega
            rw [eo] at q0 q1 q2 q3
            obtain ⟨s0, s5⟩ := HP.out (k + 1 + m) (by rw [HL.out]; omega)
            obtain ⟨y, hy⟩ : ∃ y, nthH ops (k + 1 + m) = y := ⟨_, rfl⟩
            have HY : Hid (nthH ops (k + 1 + m) = y) := hy
            rw [hy] at q0 q1 q2 q3 s0 s5
            clear hy eo
            obtain ⟨ux, kd', ky', va'⟩ := y
            simp only at s0 s5
            obtain ⟨U, rfl⟩ := Int.eq_ofNat_of_zero_le s0
            have hU : U < 6 := by omega
            have hUI : (U : Int) < 6 := by omega
            obtain ⟨W3, hW3⟩ : ∃ W3, wr.alloc (.cells #[.int .i64 U, .int .i64 kd', .string ky', .string va'] 107) = W3 := ⟨_, rfl⟩
            have b3 : Below wr.heap.size wr W3 := hW3 ▸ (Below.refl _ _).alloc (Nat.le_refl _) _
            have yb : W3.heap[wr.heap.size]? = some (.cells #[.int .i64 U, .int .i64 kd', .string ky', .string va'] 107 (0, 0)) := hW3 ▸ heap_new' _ _ _ rfl
            have HG3 : Hid (Fl2B W3 (w.heap.size + 1) (cfF ops k (k + 1 + m)) ∧ W3.heap[w.heap.size]? = some (.cells z36 95 (0, 0)) ∧ W3.heap[nb]? = some (.cells #[.int .i64 T, .int .i64 kd, .string ky, .string va] 107 (0, 0))) := ⟨(b3.block _ hlw2).trans HG.out.1, (b3.block _ (by omega)).trans HG.out.2.1, (b3.block _ hlw3).trans HG.out.2.2⟩
            have YB : Hid (W3.heap[wr.heap.size]? = some (.cells #[.int .i64 U, .int .i64 kd', .string ky', .string va'] 107 (0, 0))) := yb
            have hB3 := below_step hbm (Nat.le_refl _) b3
            have m0 : W3.cell? ⟨nb, 0, none⟩ = some (.int .i64 T) := slab_cell HG3.out.2.2
            have m1 : W3.cell? ⟨nb, 1, none⟩ = some (.int .i64 kd) := slab_cell HG3.out.2.2
            have m2 : W3.cell? ⟨nb, 2, none⟩ = some (.string ky) := slab_cell HG3.out.2.2
            have m3 : W3.cell? ⟨nb, 3, none⟩ = some (.string va) := slab_cell HG3.out.2.2
            have n0 : W3.cell? ⟨wr.heap.size, 0, none⟩ = some (.int .i64 U) := slab_cell yb
            have n1 : W3.cell? ⟨wr.heap.size, 1, none⟩ = some (.int .i64 kd') := slab_cell yb
            have n2 : W3.cell? ⟨wr.heap.size, 2, none⟩ = some (.string ky') := slab_cell yb
            have n3 : W3.cell? ⟨wr.heap.size, 3, none⟩ = some (.string va') := slab_cell yb
            clear yb HG
            by_cases hTU : T = U
            · have hTU' : ((T : Int) != (U : Int)) = false := by simp [hTU]
              have HN : Hid (Fl2B W3 (w.heap.size + 1) (cfF ops k (k + 1 + m + 1)) ∧ W3.heap[w.heap.size]? = some (.cells z36 95 (0, 0)) ∧ W3.heap[nb]? = some (.cells #[.int .i64 T, .int .i64 kd, .string ky, .string va] 107 (0, 0))) :=
                ⟨Fl2B.congr HG3.out.1 (fun a b => cfF_miss (fun h => h.2.2.1 (by rw [HX.out, HY.out, hTU]))), HG3.out.2⟩
              clear HG3 hTU b3
              go_wp2
              go_roundw
              case rel => exact ⟨m + 1, by omega, by go_num, HN, hB3⟩
              case measure => simp [intOf]; omega
            · have hTU' : ((T : Int) != (U : Int)) = true := by simp; omega
              go_wp2_with fail
              refine (conflict_any ((T : Int), kd, ky, va) ((U : Int), kd', ky', va') W3).mono ?_
              rintro e w4 ⟨rfl, b4⟩
              have hlw4 : wr.heap.size < W3.heap.size := slab_lt YB.out
              have hB4 := below_step hB3 (Nat.le_refl _) b4
              have HG4 : Hid (Fl2B w4 (w.heap.size + 1) (cfF ops k (k + 1 + m)) ∧ w4.heap[w.heap.size]? = some (.cells z36 95 (0, 0)) ∧ w4.heap[nb]? = some (.cells #[.int .i64 T, .int .i64 kd, .string ky, .string va] 107 (0, 0))) := ⟨(b4.block _ (by omega)).trans HG3.out.1, (b4.block _ (by omega)).trans HG3.out.2.1, (b4.block _ (by omega)).trans HG3.out.2.2⟩
              have YB4 : Hid (w4.heap[wr.heap.size]? = some (.cells #[.int .i64 U, .int .i64 kd', .string ky', .string va'] 107 (0, 0))) := (b4.block _ hlw4).trans YB.out
              clear HG3 b4 b3 YB m0 m1 m2 m3 n0 n1 n2 n3 q0 q1 q2 q3 hW3 hB3
              cases hcn : cnfB ((T : Int), kd, ky, va) ((U : Int), kd', ky', va') with
              | false =>
                have HN : Hid (Fl2B w4 (w.heap.size + 1) (cfF ops k (k + 1 + m + 1)) ∧ w4.heap[w.heap.size]? = some (.cells z36 95 (0, 0)) ∧ w4.heap[nb]? = some (.cells #[.int .i64 T, .int .i64 kd, .string ky, .string va] 107 (0, 0))) :=
                  ⟨Fl2B.congr HG4.out.1 (fun a b => cfF_miss (fun h => by have := h.2.2.2; rw [HX.out, HY.out, hcn] at this; cases this)), HG4.out.2⟩
                clear HG4 hcn
                go_wp2
                go_roundw
                case rel => exact ⟨m + 1, by omega, by go_num, HN, hB4⟩
                case measure => simp [intOf]; omega
              | true =>
                have HHit : Hid (HitP ops k (k + 1 + m) T U) := ⟨by rw [HX.out], by rw [HY.out], by rw [HX.out, HY.out]; simp only; omega, by rw [HX.out, HY.out]; exact hcn⟩
                have m0 : w4.cell? ⟨nb, 0, none⟩ = some (.int .i64 T) := slab_cell HG4.out.2.2
                have n0 : w4.cell? ⟨wr.heap.size, 0, none⟩ = some (.int .i64 U) := slab_cell YB4.out
                have hf : w4.frozen? ⟨w.heap.size + 1, T * 6 + U, none⟩ = false := slab_free HG4.out.1
                obtain ⟨v4, hv4⟩ : ∃ v, w4.cell? ⟨w.heap.size + 1, T * 6 + U, none⟩ = some v := ⟨_, (slab_cell HG4.out.1).trans (fl2_get _ _ _ hT hU)⟩
                have HN : Hid (Fl2B (w4.setCell ⟨w.heap.size + 1, T * 6 + U, none⟩ (.bool true)) (w.heap.size + 1) (cfF ops k (k + 1 + m + 1)) ∧ (w4.setCell ⟨w.heap.size + 1, T * 6 + U, none⟩ (.bool true)).heap[w.heap.size]? = some (.cells z36 95 (0, 0)) ∧ (w4.setCell ⟨w.heap.size + 1, T * 6 + U, none⟩ (.bool true)).heap[nb]? = some (.cells #[.int .i64 T, .int .i64 kd, .string ky, .string va] 107 (0, 0))) :=
                  ⟨Fl2B.set HG4.out.1 hU (cfF_hit (by omega) (by rw [HL.out]; omega) HHit.out) (fun i j hij => cfF_miss (fun h => hij (by have := h.1; have := h.2.1; rw [HX.out] at *; rw [HY.out] at *; simp only at *; omega))), (set_oth (by omega)).trans HG4.out.2.1, (set_oth (by omega)).trans HG4.out.2.2⟩
                have hB5 : Below w.heap.size w (w4.setCell ⟨w.heap.size + 1, T * 6 + U, none⟩ (.bool true)) := hB4.setCell (p := ⟨w.heap.size + 1, T * 6 + U, none⟩) (by simp) _
                clear HG4 hcn YB4 hB4
                go_wp2_with fail
                go_region
                go_wp2
                go_roundw
                case rel => exact ⟨m + 1, by omega, by go_num, HN, hB5.drew⟩
                case measure => simp [intOf]; omega
          · obtain rfl : m = r := by omega
            have HN : Hid (Fl2B wr (w.heap.size + 1) (cfF ops (k + 1) 0) ∧ wr.heap[w.heap.size]? = some (.cells z36 95 (0, 0))) := ⟨Fl2B.congr HG.out.1 (fun a b => by rw [← cfF_next, HL.out, hr']), HG.out.2.1⟩
            clear HG
            go_wp2
            go_roundw
            case rel => exact ⟨k + 1, by omega, by go_num, HN, hbm⟩
            case measure => simp [intOf]; omega
    · obtain rfl : k = len := by omega
      obtain ⟨A, hA, hs, h1⟩ : ∃ A, fl2A (cfF ops k 0) = A ∧ A.size = 36 ∧ ∀ v ∈ A.toList, v.oneCell' = true := ⟨_, rfl, rfl, fl2_one _⟩
      have HA : Hid (fl2A (cfF ops k 0) = A) := hA
      have L0 : wr.heap[w.heap.size + 1]? = some (.cells A 95 (0, 0)) := hA ▸ HF.out.1
      have L1 : wr.heap[w.heap.size]? = some (.cells z36 95 (0, 0)) := HF.out.2
      have L2 : (wr.setRow w.heap.size A).heap[w.heap.size]? = some (.cells A 95 (0, 0)) := setRow_heap wr w.heap.size z36 A 95 (0, 0) HF.out.2
      have HB : Hid (Below w.heap.size w (wr.setRow w.heap.size A)) := below_setRow hbl (Nat.le_refl _) A
      have hi36 : (Try.prog.info? 95).map (·.size) = some A.size := by rw [hs]; kernel_rfl
      have h1' : A.all (·.oneCell') = true := Array.all_eq_true_iff_forall_mem.2 (fun v hv => h1 v (by simpa using hv))
      have ho36 : z36.size = A.size := by rw [hs]; rfl
      clear hA hs h1 HF
      go_wp2_with (first | (refine wpList_load_row rfl 95 _ rfl (w.heap.size + 1) rfl 95 A (0, 0) _ L0 Try.underlying95 rfl hi36 ?_) | (refine wpList_store_row rfl 95 _ _ rfl w.heap.size A rfl rfl 95 z36 L1 hi36 ho36 h1' ?_))
      refine bodyPost_ret (v := .agg A) (results_cell_row rfl _ _ w.heap.size 95 A (0, 0) _ rfl L2 Try.underlying95 rfl hi36) rfl ?_
      exact ⟨by rw [HA.out], HB.out⟩
end Go.Proofs.Ytlcgmifibekegaa
