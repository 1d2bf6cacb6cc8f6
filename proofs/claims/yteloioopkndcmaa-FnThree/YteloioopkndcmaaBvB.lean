/- Maps of functions by their names; what known and reckoned make; predicates over lists of values (stage 12). -/
import Derived.Test.YteloioopkndcmaaBvA
import Derived.Maps.OwnSet
import Derived.Maps.OwnOps
import Derived.StringKeys
import Derived.Shelf.Abstract
namespace Go.Proofs.Yteloioopkndcmaa
open Go.RowKit Go.Maps

def fnR (v : Value) : Option (DataW Value × List MemPlace) := some (.held v, [])
/-- Block b is a map of functions, by their names as f says. -/
def MapF (w : World) (b n : Nat) (f : List UInt8 → Option Value) : Prop :=
  ∃ D, w.ownsMap Try.prog 9 fnR b n D ∧ ∀ x zd, D.atKey (.string x) zd = ((f x).map DataW.held).getD zd
theorem keyed9 : Keyed Try.prog 9 := string_keyed Try.underlying9
theorem MapF.made (w : World) : MapF (w.alloc (.map #[] 0)) w.heap.size 0 fun _ => none :=
  ⟨.map [], World.ownsMap_made w Try.prog 9 fnR, fun _ _ => rfl⟩
theorem MapF.lt {w : World} {b n : Nat} {f : List UInt8 → Option Value} (h : MapF w b n f) : b < w.heap.size := by
  obtain ⟨D, hD, _⟩ := h
  exact hD.lt
theorem MapF.below {w w' : World} {B b n : Nat} {f : List UInt8 → Option Value} (h : MapF w b n f) (hb : Below B w w') (hB : b < B) : MapF w' b n f := by
  obtain ⟨D, ⟨es, clock, hh, r1⟩, r⟩ := h
  exact ⟨D, ⟨es, clock, (hb.block b hB).trans hh, r1⟩, r⟩
def putF (f : List UInt8 → Option Value) (k : ByteArray) (v : Value) : List UInt8 → Option Value := fun x => if x = k.toList then some v else f x
theorem MapF.put {w : World} {b n : Nat} {f : List UInt8 → Option Value} (h : MapF w b n f) {T e : TypeId} (ht : Try.prog.underlying T = some (.map 9 e)) (k : ByteArray) (hk : k.size ≤ maxLen) (hn : n < maxLen) (v : Value) :
    ∃ w', (Instr.mapUpdate T (.map (some b)) (.string k) v).run Try.prog w = .ok () w' ∧ MapF w' b (n + 1) (putF f k v) ∧ w.grownBy w' (some b) := by
  obtain ⟨D, hD, r⟩ := h
  obtain ⟨w', hrun, hO, hg⟩ := hD.update keyed9 ht hn (WideMaps.keyOf_string_mk Try.underlying9 hk) (show fnR v = some (.held v, []) from rfl)
  refine ⟨w', hrun, ⟨_, hO, fun x zd => ?_⟩, hg⟩
  by_cases ex : x = k.toList
  · have ex' : x = k.data.toList := by rw [ex, ByteArray.toList_eq]
    unfold putF
    rw [if_pos ex, ex']
    exact Maps.atKey_put_same hD.isMap (k := .string k.data.toList) trivial _ _
  · have ex' : Lit.string x ≠ Lit.string k.data.toList := fun e => ex (by rw [ByteArray.toList_eq]; cases e; rfl)
    unfold putF
    rw [if_neg ex, Maps.atKey_put_other ex']
    exact r x zd
theorem MapF.look {w : World} {b n : Nat} {f : List UInt8 → Option Value} (h : MapF w b n f) {T e : TypeId} (ht : Try.prog.underlying T = some (.map 9 e)) (hz : (zeroValue e).run Try.prog w = .ok .nilFunc w) (k : ByteArray) (hk : k.size ≤ maxLen) :
    (Instr.lookup T (.map (some b)) (.string k) true).run Try.prog w = .ok (.tuple #[(f k.toList).getD .nilFunc, .bool (f k.toList).isSome]) w := by
  obtain ⟨D, ⟨es, clock, hb, F, _, rfl⟩, r⟩ := h
  have r' := r k.toList
  rw [ByteArray.toList_eq] at r' ⊢
  rcases Maps.fit_look true keyed9 ht hz hb F (WideMaps.keyOf_string_mk Try.underlying9 hk) with ⟨hrun, _, hat⟩ | ⟨e0, y, _, _, hrun, hRv, hat, _⟩
  · cases hf : f k.data.toList with
    | none => rw [hrun]; rfl
    | some v =>
      have := (r' .nil).symm.trans (hat .nil)
      rw [hf] at this
      cases this
  · cases hf : f k.data.toList with
    | none =>
      have h1 := (r' .nil).symm.trans (hat .nil)
      rw [hf] at h1
      have h2 : y.1 = .held e0.val := by cases hRv; rfl
      rw [h2] at h1
      cases h1
    | some v =>
      have h1 := (r' .nil).symm.trans (hat .nil)
      rw [hf] at h1
      have h2 : y.1 = .held e0.val := by cases hRv; rfl
      rw [h2] at h1
      cases h1
      rw [hrun]; rfl
theorem grown_below {B b : Nat} {w u u' : World} (h : Below B w u) (hB : B ≤ u.heap.size) (hb : B ≤ b) (hg : u.grownBy u' (some b)) : Below B w u' :=
  h.grown hg hB fun k e => by cases e; exact hb

/-- A value and a code as an answer. -/
abbrev VC (k n : Int) (t : ByteArray) (c : Int) : Value := .tuple #[VV k n t, .int .i64 c]
/-- A function value of two values, from this world on. -/
def WorkB (w : World) (g : Nat) (cap : Array Value) (pre : Int → Int → ByteArray → Int → Int → ByteArray → Prop) (F : Int → Int → ByteArray → Int → Int → ByteArray → Value) : Prop :=
  Ent g ∧ ∀ w', Below w.heap.size w w' → ∀ k n t k2 n2 t2, pre k n t k2 n2 t2 → Calls Try.prog g (#[VV k n t, VV k2 n2 t2] ++ cap) w' fun e w'' => e = .returned (F k n t k2 n2 t2) ∧ Below w'.heap.size w' w''
theorem known_any (g : Nat) (cap : Array Value) (w : World) : Calls Try.prog 95 #[.func (.func g) #[] cap] w fun e w' => e = .returned (.func (.func 109) #[] #[.pointer (some ⟨w.heap.size, 0, none⟩)]) ∧ w' = w.alloc (.cells #[.func (.func g) #[] cap] 58) := by
  go_enter Try.func95, Try.ntmps95
  go_wp2
  go_ret
  exact ⟨rfl, rfl⟩
theorem reckoned_any (g : Nat) (w : World) : Calls Try.prog 66 #[.func (.func g) #[] #[]] w fun e w' => e = .returned (.func (.func 109) #[] #[.pointer (some ⟨w.heap.size + 1, 0, none⟩)]) ∧ w' = (w.alloc (.cells #[.func (.func g) #[] #[]] 27)).alloc (.cells #[.func (.func 100) #[] #[.pointer (some ⟨w.heap.size, 0, none⟩)]] 58) := by
  have hc := known_any 100 #[.pointer (some ⟨w.heap.size, 0, none⟩)] (w.alloc (.cells #[.func (.func g) #[] #[]] 27))
  go_enter Try.func66, Try.ntmps66
  go_wp2_with fail
  refine hc.mono ?_
  rintro e w1 ⟨rfl, rfl⟩
  go_wp2
  go_ret
  exact ⟨by simp, rfl⟩
theorem cell_of {w : World} {g : Nat} {cur : Array Value} {e : TypeId} (h : w.heap[g]? = some (.cells cur e (0, 0))) (o : Nat) : w.cell? ⟨g, o, none⟩ = cur[o]? := by
  simp [World.cell?, h]
/-- Null where one is null, else what F answers. -/
def knownV (F : Int → Int → ByteArray → Int → Int → ByteArray → Value) (k n : Int) (t : ByteArray) (k2 n2 : Int) (t2 : ByteArray) : Value :=
  if k = 0 ∨ k2 = 0 then VC 0 0 noT 0 else F k n t k2 n2 t2
set_option maxRecDepth 100000 in
theorem known1_any (bx g : Nat) (cap : Array Value) (pre : Int → Int → ByteArray → Int → Int → ByteArray → Prop) (fk fn fk2 : Int) (ft : ByteArray) (k n : Int) (t : ByteArray) (k2 n2 : Int) (t2 : ByteArray) (F : Int → Int → ByteArray → Int → Int → ByteArray → Value) (w : World)
    (hF : F k n t k2 n2 t2 = .tuple #[VV fk fn ft, .int .i64 fk2]) (hp : pre k n t k2 n2 t2) (hlt : bx < w.heap.size) (hx : w.cell? ⟨bx, 0, none⟩ = some (.func (.func g) #[] cap)) (hW : WorkB w g cap pre F) :
    Calls Try.prog 109 #[VV k n t, VV k2 n2 t2, .pointer (some ⟨bx, 0, none⟩)] w fun e w' => e = .returned (knownV F k n t k2 n2 t2) ∧ Below w.heap.size w w' := by
  have hl1 : bx < w.heap.size + 1 := by omega
  have hl2 : bx < w.heap.size + 1 + 1 := by omega
  have hl3 : bx < w.heap.size + 1 + 1 + 1 := by omega
  have hl4 : bx < w.heap.size + 1 + 1 + 1 + 1 := by omega
  obtain ⟨hE, hW⟩ := hW
  have HW : Hid (∀ w', Below w.heap.size w w' → Calls Try.prog g (#[VV k n t, VV k2 n2 t2] ++ cap) w' fun e w'' => e = .returned (.tuple #[VV fk fn ft, .int .i64 fk2]) ∧ Below w'.heap.size w' w'') := fun w' b => by
    have := hW w' b k n t k2 n2 t2 hp
    rw [hF] at this
    exact this
  unfold Ent at hE
  have HF : Hid (F k n t k2 n2 t2 = .tuple #[VV fk fn ft, .int .i64 fk2]) := hF
  clear hF hW hp
  by_cases hk : k = 0
  · have HV : Hid (knownV F k n t k2 n2 t2 = VC 0 0 noT 0) := if_pos (.inl hk)
    generalize knownV F k n t k2 n2 t2 = X at *
    have hk' : (k == 0) = true := by simpa using hk
    go_enter Try.func109, Try.ntmps109
    go_wp2
    exact bodyPost_ret (v := VC 0 0 noT 0) (by simp [results, Try.results109, go_sem]) rfl ⟨by rw [HV.out], ((((Below.refl _ _).alloc (Nat.le_refl _) _).alloc (by simp) _).alloc (by simp; omega) _).alloc (by simp; omega) _⟩
  · have hk' : (k == 0) = false := by simpa using hk
    by_cases hk2 : k2 = 0
    · have HV : Hid (knownV F k n t k2 n2 t2 = VC 0 0 noT 0) := if_pos (.inr hk2)
      have hk2' : (k2 == 0) = true := by simpa using hk2
      generalize knownV F k n t k2 n2 t2 = X at *
      go_enter Try.func109, Try.ntmps109
      go_wp2
      exact bodyPost_ret (v := VC 0 0 noT 0) (by simp [results, Try.results109, go_sem]) rfl ⟨by rw [HV.out], (((((Below.refl _ _).alloc (Nat.le_refl _) _).alloc (by simp) _).alloc (by simp; omega) _).alloc (by simp; omega) _).alloc (by simp; omega) _⟩
    · have HV : Hid (knownV F k n t k2 n2 t2 = VC fk fn ft fk2) := (if_neg (fun h => h.elim hk hk2)).trans HF.out
      have hk2' : (k2 == 0) = false := by simpa using hk2
      generalize knownV F k n t k2 n2 t2 = X at *
      obtain ⟨W, hW⟩ : ∃ W, W = (((((w.alloc (.cells #[.int .i64 k, .int .i64 n, .string t] 24)).alloc (.cells #[.int .i64 k2, .int .i64 n2, .string t2] 24)).alloc (.cells #[.int .i64 0, .int .i64 0, .string noT] 24)).alloc (.cells #[.int .i64 k, .int .i64 n, .string t] 24)).alloc (.cells #[.int .i64 k2, .int .i64 n2, .string t2] 24)) := ⟨_, rfl⟩
      have B0 : Below w.heap.size w W := by subst hW; exact (((((Below.refl _ _).alloc (Nat.le_refl _) _).alloc (by simp) _).alloc (by simp; omega) _).alloc (by simp; omega) _).alloc (by simp; omega) _
      have hcall := HW.out W B0
      have HS : Hid (w.heap.size + 1 + 1 < W.heap.size) := by subst hW; show _ < _; simp
      have HB : Hid (W.heap[w.heap.size + 1 + 1]? = some (.cells #[.int .i64 0, .int .i64 0, .string noT] 24 (0, 0))) := by
        subst hW
        exact (Below.heap_alloc _ _ _ (by simp)).trans ((Below.heap_alloc _ _ _ (by simp)).trans (by have := heap_alloc_new ((w.alloc (.cells #[.int .i64 k, .int .i64 n, .string t] 24)).alloc (.cells #[.int .i64 k2, .int .i64 n2, .string t2] 24)) (.cells #[.int .i64 0, .int .i64 0, .string noT] 24); simpa using this))
      clear HW HF
      go_enter Try.func109, Try.ntmps109
      go_wp2_with (first | (go_at_call 84; go_in) | fail)
      rw [← hW]
      refine hcall.mono ?_
      rintro e w1 ⟨rfl, b1⟩
      have hb := (b1.block _ HS.out).trans HB.out
      have v0 : w1.cell? ⟨w.heap.size + 1 + 1, 0, none⟩ = some (.int .i64 0) := by simp [World.cell?, hb]
      have v1 : w1.cell? ⟨w.heap.size + 1 + 1, 1, none⟩ = some (.int .i64 0) := by simp [World.cell?, hb]
      have v2 : w1.cell? ⟨w.heap.size + 1 + 1, 2, none⟩ = some (.string noT) := by simp [World.cell?, hb]
      have y0 : w1.frozen? ⟨w.heap.size + 1 + 1, 0, none⟩ = false := by simp [World.frozen?, hb]
      have y1 : w1.frozen? ⟨w.heap.size + 1 + 1, 1, none⟩ = false := by simp [World.frozen?, hb]
      have y2 : w1.frozen? ⟨w.heap.size + 1 + 1, 2, none⟩ = false := by simp [World.frozen?, hb]
      have B1 : Hid (Below w.heap.size w w1) := B0.trans (b1.mono B0.size)
      have HB1 : Hid (w1.heap[w.heap.size + 1 + 1]? = some (.cells #[.int .i64 0, .int .i64 0, .string noT] 24 (0, 0))) := hb
      clear hb HB HS hcall b1 B0 hW hx hE
      go_wp2
      have q := slab_set (o := 2) (slab_set (o := 1) (slab_set (o := 0) HB1.out (.int .i64 fk)) (.int .i64 fn)) (.string ft)
      have q0 := (cell_of q 0)
      have q1 := (cell_of q 1)
      have q2 := (cell_of q 2)
      exact bodyPost_ret (v := VC fk fn ft fk2) (by simp at q0 q1 q2; simp [results, Try.results109, go_sem, q0, q1, q2]) rfl ⟨by rw [HV.out], ((B1.out.setCell (by simp; omega) _).setCell (by simp; omega) _).setCell (by simp; omega) _⟩
end Go.Proofs.Yteloioopkndcmaa
