/- Which rows impl holds to be right (stage 13). -/
import Derived.Test.YtmcjgncpblbhpaaPrE
import Derived.Shelf.Abstract
namespace Go.Proofs.Ytmcjgncpblbhpaa
open Go.RowKit

theorem nthV_get {vs : List V3} {i : Nat} (h : i < vs.length) : nthV vs i = vs[i] := by unfold nthV; simp [h]
/-- Function g has a body. -/
def Ent (g : Nat) : Prop := ∀ (args : Array Value) (w : World), (callFunc g args).run Try.prog w = .ok (.enter g args) w
/-- A function value that tells of a value, from this world on. -/
def PredW (w : World) (g : Nat) (cap : Array Value) (p : V3 → Bool) : Prop :=
  Ent g ∧ ∀ w', Below w.heap.size w w' → ∀ k n t, Calls Try.prog g (#[VV k n t] ++ cap) w' fun e w'' => e = .returned (.bool (p (k, n, t))) ∧ Below w'.heap.size w' w''
set_option maxRecDepth 100000 in
set_option maxHeartbeats 2000000 in
theorem indexFunc_any (vs : List V3) (p : V3 → Bool) (g : Nat) (cp : Array Value) (a : Option Addr) (cap : Nat) (w : World) (hrow : RowV w a vs) (hlen : vs.length ≤ maxLen) (hP : PredW w g cp p) :
    Calls Try.prog 108 #[.slice a vs.length cap, .func (.func g) #[] cp] w fun e w' => (∃ z : Int, e = .returned (.int .i64 z) ∧ decide (z ≥ 0) = vs.any p) ∧ Below w.heap.size w w' := by
  have HR : Hid (RowV w a vs) := hrow
  obtain ⟨hE, hP⟩ := hP
  have HP : Hid (∀ w', Below w.heap.size w w' → ∀ k n t, Calls Try.prog g (#[VV k n t] ++ cp) w' fun e w'' => e = .returned (.bool (p (k, n, t))) ∧ Below w'.heap.size w' w'') := hP
  unfold Ent at hE
  clear hrow hP
  unfold maxLen at hlen
  obtain ⟨len, hL⟩ : ∃ m, vs.length = m := ⟨_, rfl⟩
  have HL : Hid (vs.length = len) := hL
  rw [hL] at hlen ⊢
  clear hL
  go_enter Try.func108, Try.ntmps108
  go_wp2
  go_loopw [8] (fun i wr => ∃ k' : Nat, k' ≤ len ∧ i = .int .i64 k' ∧ Hid (∀ i, i < k' → p (nthV vs i) = false) ∧ Below w.heap.size w wr) (fun i _ => len - (intOf i).toNat)
  case atStart => exact ⟨0, by omega, rfl, fun i hi => by omega, Below.refl _ _⟩
  case round =>
    obtain ⟨j, hj, rfl, HS, hbl⟩ := hrel
    by_cases hjl : j < len
    · obtain ⟨b, off, rfl, hb, ⟨c0, c1, c2⟩, hs⟩ := (HR.out.below hbl) j (by rw [HL.out]; exact hjl)
      have hc := HP.out wr hbl (nthV vs j).1 (nthV vs j).2.1 (nthV vs j).2.2
      go_wp2_with fail
      refine hc.mono ?_
      rintro e w1 ⟨rfl, b1⟩
      have B1 := below_step hbl (Nat.le_refl _) b1
      clear b1 hbl hc c0 c1 c2
      cases hn : p ((nthV vs j).1, (nthV vs j).2.1, (nthV vs j).2.2) with
      | true =>
        have HT : Hid (vs.any p = true) := by
          show _ = _
          rw [List.any_eq_true]
          exact ⟨nthV vs j, by rw [nthV_get (by rw [HL.out]; exact hjl)]; exact List.getElem_mem _, hn⟩
        clear hn HS
        go_wp2
        go_ret
        exact ⟨⟨_, rfl, by rw [HT.out]; exact decide_eq_true (by omega)⟩, B1⟩
      | false =>
        have HS' : Hid (∀ i, i < j + 1 → p (nthV vs i) = false) := fun i hi => by
          rcases Nat.lt_or_ge i j with h | h
          · exact HS.out i h
          · obtain rfl : i = j := by omega
            exact hn
        clear hn HS
        go_wp2
        go_roundw
        case rel => exact ⟨j + 1, by omega, by go_num, HS', B1⟩
        case measure => simp [intOf]; omega
    · obtain rfl : j = len := by omega
      have HF : Hid (vs.any p = false) := by
        show _ = _
        rw [List.any_eq_false]
        intro x hx
        obtain ⟨i, hi, rfl⟩ := List.mem_iff_getElem.1 hx
        have := HS.out i (by rw [← HL.out]; exact hi)
        rw [nthV_get hi] at this
        simp [this]
      clear HS
      go_wp2
      go_ret
      exact ⟨⟨_, rfl, by rw [HF.out]; rfl⟩, hbl⟩
set_option maxRecDepth 100000 in
theorem containsFunc_any (vs : List V3) (p : V3 → Bool) (g : Nat) (cp : Array Value) (a : Option Addr) (cap : Nat) (w : World) (hrow : RowV w a vs) (hlen : vs.length ≤ maxLen) (hP : PredW w g cp p) :
    Calls Try.prog 95 #[.slice a vs.length cap, .func (.func g) #[] cp] w fun e w' => e = .returned (.bool (vs.any p)) ∧ Below w.heap.size w w' := by
  have hc := indexFunc_any vs p g cp a cap w hrow hlen hP
  clear hrow hP
  go_enter Try.func95, Try.ntmps95
  go_wp2_with fail
  refine hc.mono ?_
  rintro e w1 ⟨⟨z, rfl, hz⟩, b1⟩
  have HZ : Hid (decide (z ≥ 0) = vs.any p) := hz
  clear hz hc
  go_wp2
  go_ret
  exact ⟨ret_bool' HZ.out, b1⟩

/-- A function value that tells of a row, from this world on. -/
def PredR (w : World) (g : Nat) (cap : Array Value) (p : List V3 → Bool) : Prop :=
  Ent g ∧ ∀ w', Below w.heap.size w w' → ∀ (vs : List V3) a c, RowV w' a vs → vs.length ≤ maxLen → Calls Try.prog g (#[.slice a vs.length c] ++ cap) w' fun e w'' => e = .returned (.bool (p vs)) ∧ Below w'.heap.size w' w''
set_option maxRecDepth 100000 in
set_option maxHeartbeats 2000000 in
theorem indexFuncR_any (rs : Rs) (p : List V3 → Bool) (g : Nat) (cp : Array Value) (a : Option Addr) (cap : Nat) (w : World) (hrow : RowR w a rs) (hlen : rs.length ≤ maxLen) (hP : PredR w g cp p) :
    Calls Try.prog 76 #[.slice a rs.length cap, .func (.func g) #[] cp] w fun e w' => (∃ z : Int, e = .returned (.int .i64 z) ∧ decide (z ≥ 0) = rs.any p) ∧ Below w.heap.size w w' := by
  have HR : Hid (RowR w a rs) := hrow
  obtain ⟨hE, hP⟩ := hP
  have HP : Hid (∀ w', Below w.heap.size w w' → ∀ (vs : List V3) a c, RowV w' a vs → vs.length ≤ maxLen → Calls Try.prog g (#[.slice a vs.length c] ++ cp) w' fun e w'' => e = .returned (.bool (p vs)) ∧ Below w'.heap.size w' w'') := hP
  unfold Ent at hE
  clear hrow hP
  unfold maxLen at hlen
  obtain ⟨len, hL⟩ : ∃ m, rs.length = m := ⟨_, rfl⟩
  have HL : Hid (rs.length = len) := hL
  rw [hL] at hlen ⊢
  clear hL
  go_enter Try.func76, Try.ntmps76
  go_wp2
  go_loopw [8] (fun i wr => ∃ k' : Nat, k' ≤ len ∧ i = .int .i64 k' ∧ Hid (∀ i, i < k' → p (nthR rs i) = false) ∧ Below w.heap.size w wr) (fun i _ => len - (intOf i).toNat)
  case atStart => exact ⟨0, by omega, rfl, fun i hi => by omega, Below.refl _ _⟩
  case round =>
    obtain ⟨j, hj, rfl, HS, hbl⟩ := hrel
    by_cases hjl : j < len
    · obtain ⟨b, off, ai, ci, rfl, hb, c0, hr, hs⟩ := (HR.out.below hbl) j (by rw [HL.out]; exact hjl)
      have hc := HP.out wr hbl (nthR rs j) ai ci hr hs
      clear hr
      go_wp2_with fail
      refine hc.mono ?_
      rintro e w1 ⟨rfl, b1⟩
      have B1 := below_step hbl (Nat.le_refl _) b1
      clear b1 hbl hc c0
      cases hn : p (nthR rs j) with
      | true =>
        have HT : Hid (rs.any p = true) := by
          show _ = _
          rw [List.any_eq_true]
          exact ⟨nthR rs j, by rw [nthR_get (by rw [HL.out]; exact hjl)]; exact List.getElem_mem _, hn⟩
        clear hn HS
        go_wp2
        go_ret
        exact ⟨⟨_, rfl, by rw [HT.out]; exact decide_eq_true (by omega)⟩, B1⟩
      | false =>
        have HS' : Hid (∀ i, i < j + 1 → p (nthR rs i) = false) := fun i hi => by
          rcases Nat.lt_or_ge i j with h | h
          · exact HS.out i h
          · obtain rfl : i = j := by omega
            exact hn
        clear hn HS
        go_wp2
        go_roundw
        case rel => exact ⟨j + 1, by omega, by go_num, HS', B1⟩
        case measure => simp [intOf]; omega
    · obtain rfl : j = len := by omega
      have HF : Hid (rs.any p = false) := by
        show _ = _
        rw [List.any_eq_false]
        intro x hx
        obtain ⟨i, hi, rfl⟩ := List.mem_iff_getElem.1 hx
        have := HS.out i (by rw [← HL.out]; exact hi)
        rw [nthR_get hi] at this
        simp [this]
      clear HS
      go_wp2
      go_ret
      exact ⟨⟨_, rfl, by rw [HF.out]; rfl⟩, hbl⟩
set_option maxRecDepth 100000 in
theorem containsFuncR_any (rs : Rs) (p : List V3 → Bool) (g : Nat) (cp : Array Value) (a : Option Addr) (cap : Nat) (w : World) (hrow : RowR w a rs) (hlen : rs.length ≤ maxLen) (hP : PredR w g cp p) :
    Calls Try.prog 45 #[.slice a rs.length cap, .func (.func g) #[] cp] w fun e w' => e = .returned (.bool (rs.any p)) ∧ Below w.heap.size w w' := by
  have hc := indexFuncR_any rs p g cp a cap w hrow hlen hP
  clear hrow hP
  go_enter Try.func45, Try.ntmps45
  go_wp2_with fail
  refine hc.mono ?_
  rintro e w1 ⟨⟨z, rfl, hz⟩, b1⟩
  have HZ : Hid (decide (z ≥ 0) = rs.any p) := hz
  clear hz hc
  go_wp2
  go_ret
  exact ⟨ret_bool' HZ.out, b1⟩


theorem ent96 : Ent 96 := enters_of Try.func96 (by kernel_rfl) rfl
theorem ent69 : Ent 69 := enters_of Try.func69 (by kernel_rfl) rfl
set_option maxRecDepth 100000 in
theorem bad1_any (k n : Int) (t : ByteArray) (w : World) : Calls Try.prog 96 #[VV k n t] w fun e w' => e = .returned (.bool (!okV k n t)) ∧ Below w.heap.size w w' := by
  have hc := implValueOK_any k n t (w.alloc (.cells #[.int .i64 k, .int .i64 n, .string t] 39))
  have B0 : Below w.heap.size w (w.alloc (.cells #[.int .i64 k, .int .i64 n, .string t] 39)) := (Below.refl _ _).alloc (Nat.le_refl _) _
  generalize okV k n t = ok at *
  go_enter Try.func96, Try.ntmps96
  go_wp2_with fail
  refine hc.mono ?_
  rintro e w1 ⟨rfl, b1⟩
  clear hc
  go_wp2
  go_ret
  exact ⟨rfl, B0.trans (b1.mono B0.size)⟩
theorem any_not (vs : List V3) : (!vs.any fun v => !okV v.1 v.2.1 v.2.2) = vs.all okV3 := by
  rw [List.not_any_eq_all_not]
  simp only [Bool.not_not]
  rfl
set_option maxRecDepth 100000 in
theorem allOK_any (vs : List V3) (a : Option Addr) (cap : Nat) (w : World) (hrow : RowV w a vs) (hlen : vs.length ≤ maxLen) :
    Calls Try.prog 70 #[.slice a vs.length cap] w fun e w' => e = .returned (.bool (vs.all okV3)) ∧ Below w.heap.size w w' := by
  have hc := containsFunc_any vs (fun v => !okV v.1 v.2.1 v.2.2) 96 #[] a cap w hrow hlen ⟨ent96, fun w' _ k n t => bad1_any k n t w'⟩
  rw [← any_not]
  generalize (vs.any fun v => !okV v.1 v.2.1 v.2.2) = r at *
  clear hrow hlen
  generalize vs.length = len at *
  go_enter Try.func70, Try.ntmps70
  go_wp2_with fail
  refine hc.mono ?_
  rintro e w1 ⟨rfl, b1⟩
  clear hc
  go_wp2
  go_ret
  exact ⟨rfl, b1⟩
set_option maxRecDepth 100000 in
theorem badRow_any (wd : Nat) (vs : List V3) (a : Option Addr) (c bx : Nat) (w : World) (hx : w.cell? ⟨bx, 0, none⟩ = some (.int .i64 wd)) (hrow : RowV w a vs) (hlen : vs.length ≤ maxLen) :
    Calls Try.prog 69 #[.slice a vs.length c, .pointer (some ⟨bx, 0, none⟩)] w fun e w' => e = .returned (.bool (!rowB wd vs)) ∧ Below w.heap.size w w' := by
  have hc := allOK_any vs a c w hrow hlen
  by_cases h : wd < vs.length
  · have HF : Hid (rowB wd vs = false) := rowB_long h
    unfold maxLen at hlen
    clear hc hrow
    generalize vs.length = len at *
    have hI : (wd : Int) < (len : Int) := by omega
    go_enter Try.func69, Try.ntmps69
    go_wp2
    go_ret
    exact ⟨ret_bool' (by rw [HF.out]; rfl), Below.refl _ _⟩
  · have HF : Hid (rowB wd vs = vs.all okV3) := by
      show _ = _
      unfold rowB
      have : decide (vs.length ≤ wd) = true := by simp; omega
      rw [this]; simp
    generalize vs.all okV3 = ok at *
    unfold maxLen at hlen
    clear hrow
    generalize vs.length = len at *
    have hI : ¬ (wd : Int) < (len : Int) := by omega
    go_enter Try.func69, Try.ntmps69
    go_wp2_with fail
    refine hc.mono ?_
    rintro e w1 ⟨rfl, b1⟩
    clear hc
    go_wp2
    go_ret
    exact ⟨ret_bool' (by rw [HF.out]), b1⟩
set_option maxRecDepth 100000 in
theorem rowsOK_any (wd : Nat) (rs : Rs) (a : Option Addr) (cap : Nat) (w : World) (hrow : RowR w a rs) (hsm : SmallR rs) :
    Calls Try.prog 39 #[.slice a rs.length cap, .int .i64 wd] w fun e w' => e = .returned (.bool (okRs wd rs)) ∧ Below w.heap.size w w' := by
  have B0 : Below w.heap.size w (w.alloc (.cells #[.int .i64 wd] 3)) := (Below.refl _ _).alloc (Nat.le_refl _) _
  have hlen := hsm.1
  by_cases h4 : rs.length ≤ 400
  · have hcell : (w.alloc (.cells #[.int .i64 wd] 3)).cell? ⟨w.heap.size, 0, none⟩ = some (.int .i64 wd) := by simp
    have hc := containsFuncR_any rs (fun vs => !rowB wd vs) 69 #[.pointer (some ⟨w.heap.size, 0, none⟩)] a cap (w.alloc (.cells #[.int .i64 wd] 3)) (hrow.below B0) (small_max hlen) ⟨ent69, fun w' b vs a' c' hr hl => badRow_any wd vs a' c' w.heap.size w' ((b.cell (p := ⟨w.heap.size, 0, none⟩) (by simp)).trans hcell) hr hl⟩
    have HF : Hid (okRs wd rs = !rs.any fun vs => !rowB wd vs) := by
      show _ = _
      unfold okRs
      have : decide (rs.length ≤ 400) = true := by simp; omega
      rw [this, List.not_any_eq_all_not]
      simp
    generalize (rs.any fun vs => !rowB wd vs) = r at *
    clear hcell hrow hsm
    generalize rs.length = len at *
    have hI : (len : Int) ≤ 400 := by omega
    go_enter Try.func39, Try.ntmps39
    go_wp2_with fail
    refine hc.mono ?_
    rintro e w2 ⟨rfl, b2⟩
    clear hc
    go_wp2
    go_ret
    exact ⟨ret_bool' (by rw [HF.out]), B0.trans (b2.mono B0.size)⟩
  · have HF : Hid (okRs wd rs = false) := by
      show _ = _
      unfold okRs
      have : decide (rs.length ≤ 400) = false := by simp; omega
      rw [this]; simp
    clear hrow hsm
    generalize rs.length = len at *
    have hI : ¬ (len : Int) ≤ 400 := by omega
    go_enter Try.func39, Try.ntmps39
    go_wp2
    go_ret
    exact ⟨ret_bool' (by rw [HF.out]), B0⟩
end Go.Proofs.Ytmcjgncpblbhpaa
