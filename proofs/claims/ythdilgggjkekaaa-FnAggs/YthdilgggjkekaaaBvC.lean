/- Which operands fit; predicates over lists of values (stage 12). -/
import Derived.Test.YthdilgggjkekaaaBvB
namespace Go.Proofs.Ythdilgggjkekaaa
open Go.RowKit

/-- A value as three parts. -/
abbrev V3 : Type := Int × Int × ByteArray
def nthV (vs : List V3) (i : Nat) : V3 := vs.getD i (0, 0, ⟨#[]⟩)
/-- Value i of a row in block b, from offset off on. -/
abbrev CellV (w : World) (b o : Nat) (v : V3) : Prop :=
  w.cell? ⟨b, o, none⟩ = some (.int .i64 v.1) ∧ w.cell? ⟨b, o + 1, none⟩ = some (.int .i64 v.2.1) ∧ w.cell? ⟨b, o + 2, none⟩ = some (.string v.2.2)
/-- A slice of values can be read. -/
def RowV (w : World) (a : Option Addr) (vs : List V3) : Prop :=
  ∀ i, i < vs.length → ∃ b off, a = some ⟨b, off, none⟩ ∧ b < w.heap.size ∧ CellV w b (off + i * 3) (nthV vs i) ∧ (nthV vs i).2.2.size ≤ maxLen
theorem RowV.below {w w' : World} {a : Option Addr} {vs : List V3} (h : RowV w a vs) (hb : Below w.heap.size w w') : RowV w' a vs := fun i hi => by
  obtain ⟨b, off, e, hlt, hc, hs⟩ := h i hi
  exact ⟨b, off, e, Nat.lt_of_lt_of_le hlt hb.size, ⟨(hb.cell (p := ⟨b, off + i * 3, none⟩) hlt).trans hc.1, (hb.cell (p := ⟨b, off + i * 3 + 1, none⟩) hlt).trans hc.2.1, (hb.cell (p := ⟨b, off + i * 3 + 2, none⟩) hlt).trans hc.2.2⟩, hs⟩
theorem nthV_get {vs : List V3} {i : Nat} (h : i < vs.length) : nthV vs i = vs[i] := by unfold nthV; simp [h]

/-- A function value that tells of a value, from this world on. -/
def PredW (w : World) (g : Nat) (cap : Array Value) (p : V3 → Bool) : Prop :=
  Ent g ∧ ∀ w', Below w.heap.size w w' → ∀ k n t, Calls Try.prog g (#[VV k n t] ++ cap) w' fun e w'' => e = .returned (.bool (p (k, n, t))) ∧ Below w'.heap.size w' w''
set_option maxRecDepth 100000 in
set_option maxHeartbeats 2000000 in
theorem indexFunc_any (vs : List V3) (p : V3 → Bool) (g : Nat) (cp : Array Value) (a : Option Addr) (cap : Nat) (w : World) (hrow : RowV w a vs) (hlen : vs.length ≤ maxLen) (hP : PredW w g cp p) :
    Calls Try.prog 34 #[.slice a vs.length cap, .func (.func g) #[] cp] w fun e w' => (∃ z : Int, e = .returned (.int .i64 z) ∧ decide (z ≥ 0) = vs.any p) ∧ Below w.heap.size w w' := by
  have HR : Hid (RowV w a vs) := hrow
  obtain ⟨hE, hP⟩ := hP
  have HP : Hid (∀ w', Below w.heap.size w w' → ∀ k n t, Calls Try.prog g (#[VV k n t] ++ cp) w' fun e w'' => e = .returned (.bool (p (k, n, t))) ∧ Below w'.heap.size w' w'') := hP
  unfold Ent at hE
  clear hrow hP
  unfold maxLen at hlen
  obtain ⟨len, hL⟩ : ∃ m, vs.length = m := ⟨_, rfl⟩
  have HL : Hid (vs.length = len) := hL
  rw [hL] at hlen ⊢
  clear hL
  go_enter Try.func34, Try.ntmps34
  go_wp2
  go_loopw [8] (fun i wr => ∃ k' : Nat, k' ≤ len ∧ i = .int .i64 k' ∧ Hid (∀ i, i < k' → p (nthV vs i) = false) ∧ Below w.heap.size w wr) (fun i _ => len - (intOf i).toNat)
  case atStart => exact ⟨0, by omega, rfl, fun i hi => by omega, Below.refl _ _⟩
  case round =>
    obtain ⟨j, hj, rfl, HS, hbl⟩ := hrel
    by_cases hjl : j < len
    · obtain ⟨b, off, rfl, hb, ⟨c0, c1, c2⟩, hs⟩ := (HR.out.below hbl) j (by rw [HL.out]; exact hjl)
      have hc := HP.out wr hbl (nthV vs j).1 (nthV vs j).2.1 (nthV vs j).2.2
      go_wp2_with fail
      refine hc.mono ?_
      rintro e w1 ⟨rfl, b1⟩
      have B1 := below_step hbl (Nat.le_refl _) b1
      clear b1 hbl hc c0 c1 c2
      cases hn : p ((nthV vs j).1, (nthV vs j).2.1, (nthV vs j).2.2) with
      | true =>
        have HT : Hid (vs.any p = true) := by
          show _ = _
          rw [List.any_eq_true]
          exact ⟨nthV vs j, by rw [nthV_get (by rw [HL.out]; exact hjl)]; exact List.getElem_mem _, hn⟩
        clear hn HS
        go_wp2
        go_ret
        exact ⟨⟨_, rfl, by rw [HT.out]; exact decide_eq_true (by omega)⟩, B1⟩
      | false =>
        have HS' : Hid (∀ i, i < j + 1 → p (nthV vs i) = false) := fun i hi => by
          rcases Nat.lt_or_ge i j with h | h
          · exact HS.out i h
          · obtain rfl : i = j := by omega
            exact hn
        clear hn HS
        go_wp2
        go_roundw
        case rel => exact ⟨j + 1, by omega, by go_num, HS', B1⟩
        case measure => simp [intOf]; omega
    · obtain rfl : j = len := by omega
      have HF : Hid (vs.any p = false) := by
        show _ = _
        rw [List.any_eq_false]
        intro x hx
        obtain ⟨i, hi, rfl⟩ := List.mem_iff_getElem.1 hx
        have := HS.out i (by rw [← HL.out]; exact hi)
        rw [nthV_get hi] at this
        simp [this]
      clear HS
      go_wp2
      go_ret
      exact ⟨⟨_, rfl, by rw [HF.out]; rfl⟩, hbl⟩
set_option maxRecDepth 100000 in
theorem containsFunc_any (vs : List V3) (p : V3 → Bool) (g : Nat) (cp : Array Value) (a : Option Addr) (cap : Nat) (w : World) (hrow : RowV w a vs) (hlen : vs.length ≤ maxLen) (hP : PredW w g cp p) :
    Calls Try.prog 17 #[.slice a vs.length cap, .func (.func g) #[] cp] w fun e w' => e = .returned (.bool (vs.any p)) ∧ Below w.heap.size w w' := by
  have hc := indexFunc_any vs p g cp a cap w hrow hlen hP
  clear hrow hP
  go_enter Try.func17, Try.ntmps17
  go_wp2_with fail
  refine hc.mono ?_
  rintro e w1 ⟨⟨z, rfl, hz⟩, b1⟩
  have HZ : Hid (decide (z ≥ 0) = vs.any p) := hz
  clear hz hc
  go_wp2
  go_ret
  exact ⟨ret_bool' HZ.out, b1⟩

def fitK (a b : Int) : Bool := a == b || a == 0 || b == 0
def opK (level left : Int) : Int := if level = 1 ∨ level = 2 ∨ level = 3 then 1 else if level = 4 then left else 2
end Go.Proofs.Ythdilgggjkekaaa
