/- Columns of rows: asked for, and compared by (stage 13). -/
import Derived.Test.YtmcjgncpblbhpaaGpA
namespace Go.Proofs.Ytmcjgncpblbhpaa
open Go.RowKit

/-- A function value that tells of a column, from this world on. -/
def PredC (w : World) (g : Nat) (cap : Array Value) (p : Int → Bool) : Prop :=
  Ent g ∧ ∀ w', Below w.heap.size w w' → ∀ c, Calls Try.prog g (#[.int .i64 c] ++ cap) w' fun e w'' => e = .returned (.bool (p c)) ∧ Below w'.heap.size w' w''
set_option maxRecDepth 100000 in
set_option maxHeartbeats 2000000 in
theorem indexFuncC_any (vs : List Int) (p : Int → Bool) (g : Nat) (cp : Array Value) (a : Option Addr) (cap : Nat) (w : World) (hrow : InA w a vs) (hlen : vs.length ≤ maxLen) (hP : PredC w g cp p) :
    Calls Try.prog 106 #[.slice a vs.length cap, .func (.func g) #[] cp] w fun e w' => (∃ z : Int, e = .returned (.int .i64 z) ∧ decide (z ≥ 0) = vs.any p) ∧ Below w.heap.size w w' := by
  have HR : Hid (InA w a vs) := hrow
  obtain ⟨hE, hP⟩ := hP
  have HP : Hid (∀ w', Below w.heap.size w w' → ∀ c, Calls Try.prog g (#[.int .i64 c] ++ cp) w' fun e w'' => e = .returned (.bool (p c)) ∧ Below w'.heap.size w' w'') := hP
  unfold Ent at hE
  clear hrow hP
  unfold maxLen at hlen
  obtain ⟨len, hL⟩ : ∃ m, vs.length = m := ⟨_, rfl⟩
  have HL : Hid (vs.length = len) := hL
  rw [hL] at hlen ⊢
  clear hL
  go_enter Try.func106, Try.ntmps106
  go_wp2
  go_loopw [8] (fun i wr => ∃ k' : Nat, k' ≤ len ∧ i = .int .i64 k' ∧ Hid (∀ i, i < k' → p (nthC vs i) = false) ∧ Below w.heap.size w wr) (fun i _ => len - (intOf i).toNat)
  case atStart => exact ⟨0, by omega, rfl, fun i hi => by omega, Below.refl _ _⟩
  case round =>
    obtain ⟨j, hj, rfl, HS, hbl⟩ := hrel
    by_cases hjl : j < len
    · obtain ⟨b, off, rfl, hb, c0⟩ := (HR.out.below hbl) j (by rw [HL.out]; exact hjl)
      have hc := HP.out wr hbl (nthC vs j)
      go_wp2_with fail
      refine hc.mono ?_
      rintro e w1 ⟨rfl, b1⟩
      have B1 := below_step hbl (Nat.le_refl _) b1
      clear b1 hbl hc c0
      cases hn : p (nthC vs j) with
      | true =>
        have HT : Hid (vs.any p = true) := by
          show _ = _
          rw [List.any_eq_true]
          exact ⟨nthC vs j, by rw [nthC_get (by rw [HL.out]; exact hjl)]; exact List.getElem_mem _, hn⟩
        clear hn HS
        go_wp2
        go_ret
        exact ⟨⟨_, rfl, by rw [HT.out]; exact decide_eq_true (by omega)⟩, B1⟩
      | false =>
        have HS' : Hid (∀ i, i < j + 1 → p (nthC vs i) = false) := fun i hi => by
          rcases Nat.lt_or_ge i j with h | h
          · exact HS.out i h
          · obtain rfl : i = j := by omega
            exact hn
        clear hn HS
        go_wp2
        go_roundw
        case rel => exact ⟨j + 1, by omega, by go_num, HS', B1⟩
        case measure => simp [intOf]; omega
    · obtain rfl : j = len := by omega
      have HF : Hid (vs.any p = false) := by
        show _ = _
        rw [List.any_eq_false]
        intro x hx
        obtain ⟨i, hi, rfl⟩ := List.mem_iff_getElem.1 hx
        have := HS.out i (by rw [← HL.out]; exact hi)
        rw [nthC_get hi] at this
        simp [this]
      clear HS
      go_wp2
      go_ret
      exact ⟨⟨_, rfl, by rw [HF.out]; rfl⟩, hbl⟩
set_option maxRecDepth 100000 in
theorem containsFuncC_any (vs : List Int) (p : Int → Bool) (g : Nat) (cp : Array Value) (a : Option Addr) (cap : Nat) (w : World) (hrow : InA w a vs) (hlen : vs.length ≤ maxLen) (hP : PredC w g cp p) :
    Calls Try.prog 82 #[.slice a vs.length cap, .func (.func g) #[] cp] w fun e w' => e = .returned (.bool (vs.any p)) ∧ Below w.heap.size w w' := by
  have hc := indexFuncC_any vs p g cp a cap w hrow hlen hP
  clear hrow hP
  go_enter Try.func82, Try.ntmps82
  go_wp2_with fail
  refine hc.mono ?_
  rintro e w1 ⟨⟨z, rfl, hz⟩, b1⟩
  have HZ : Hid (decide (z ≥ 0) = vs.any p) := hz
  clear hz hc
  go_wp2
  go_ret
  exact ⟨ret_bool' HZ.out, b1⟩


theorem ent83 : Ent 83 := enters_of Try.func83 (by kernel_rfl) rfl
theorem ent54 : Ent 54 := enters_of Try.func54 (by kernel_rfl) rfl
theorem ent84 : Ent 84 := enters_of Try.func84 (by kernel_rfl) rfl
/-- The column is none of a row of n values. -/
def offC (n : Nat) (c : Int) : Bool := decide (c < 0) || decide (c ≥ n)
set_option maxRecDepth 100000 in
theorem off1_any (c : Int) (a : Option Addr) (n cp gx : Nat) (w : World) (hx : w.cell? ⟨gx, 0, none⟩ = some (.slice a n cp)) :
    Calls Try.prog 83 #[.int .i64 c, .pointer (some ⟨gx, 0, none⟩)] w fun e w' => e = .returned (.bool (offC n c)) ∧ Below w.heap.size w w' := by
  by_cases h : c < 0
  · have HF : Hid (offC n c = true) := by show _ = _; unfold offC; simp [h]
    go_enter Try.func83, Try.ntmps83
    go_wp2
    go_ret
    exact ⟨ret_bool' HF.out.symm, Below.refl _ _⟩
  · have HF : Hid (offC n c = decide (c ≥ n)) := by show _ = _; unfold offC; simp [h]
    go_enter Try.func83, Try.ntmps83
    go_wp2
    go_ret
    exact ⟨ret_bool' (by rw [HF.out]), Below.refl _ _⟩
/-- A row has all columns. -/
def hasC (cs : List Int) (vs : List V3) : Bool := !cs.any (offC vs.length)
theorem hasC_true {cs : List Int} {vs : List V3} (h : hasC cs vs = true) : ∀ i, i < cs.length → 0 ≤ nthC cs i ∧ nthC cs i < vs.length := fun i hi => by
  unfold hasC at h
  simp only [Bool.not_eq_true', List.any_eq_false] at h
  have := h cs[i] (List.getElem_mem hi)
  rw [← nthC_get hi] at this
  unfold offC at this
  simp only [Bool.or_eq_true, decide_eq_true_eq, not_or] at this
  omega
theorem hasC_good {cs : List Int} {vs : List V3} (h : ∀ i, i < cs.length → 0 ≤ nthC cs i ∧ nthC cs i < vs.length) : hasC cs vs = true := by
  unfold hasC
  simp only [Bool.not_eq_true', List.any_eq_false]
  intro c hc
  obtain ⟨i, hi, rfl⟩ := List.getElem_of_mem hc
  have := h i hi
  rw [nthC_get hi] at this
  unfold offC
  simp only [Bool.or_eq_true, decide_eq_true_eq, not_or]
  omega
set_option maxRecDepth 100000 in
theorem hasColumns_any (cs : List Int) (vs : List V3) (a a2 : Option Addr) (c c2 : Nat) (w : World) (hi : InA w a2 cs) (hlen : cs.length ≤ maxLen) :
    Calls Try.prog 55 #[.slice a vs.length c, .slice a2 cs.length c2] w fun e w' => e = .returned (.bool (hasC cs vs)) ∧ Below w.heap.size w w' := by
  have B0 : Below w.heap.size w (w.alloc (.cells #[.slice a vs.length c] 28)) := (Below.refl _ _).alloc (Nat.le_refl _) _
  have hcell : (w.alloc (.cells #[.slice a vs.length c] 28)).cell? ⟨w.heap.size, 0, none⟩ = some (.slice a vs.length c) := by simp
  have hc := containsFuncC_any cs (offC vs.length) 83 #[.pointer (some ⟨w.heap.size, 0, none⟩)] a2 c2 (w.alloc (.cells #[.slice a vs.length c] 28)) (hi.below B0) hlen ⟨ent83, fun w' b x => off1_any x a vs.length c w.heap.size w' ((b.cell (p := ⟨w.heap.size, 0, none⟩) (by simp)).trans hcell)⟩
  have HF : Hid (hasC cs vs = !cs.any (offC vs.length)) := rfl
  generalize cs.any (offC vs.length) = r at *
  clear hcell hi hlen
  generalize vs.length = n at *
  generalize cs.length = m at *
  go_enter Try.func55, Try.ntmps55
  go_wp2_with fail
  refine hc.mono ?_
  rintro e w2 ⟨rfl, b2⟩
  clear hc
  go_wp2
  go_ret
  exact ⟨ret_bool' (by rw [HF.out]), B0.trans (b2.mono B0.size)⟩
set_option maxRecDepth 100000 in
theorem lacks_any (cs : List Int) (vs : List V3) (a : Option Addr) (c gx : Nat) (w : World) (hi : InP w gx cs) (hlen : cs.length ≤ maxLen) :
    Calls Try.prog 54 #[.slice a vs.length c, .pointer (some ⟨gx, 0, none⟩)] w fun e w' => e = .returned (.bool (!hasC cs vs)) ∧ Below w.heap.size w w' := by
  obtain ⟨l1, a2, c2, h1, h2⟩ := hi
  have hc := hasColumns_any cs vs a a2 c c2 w h2 hlen
  generalize hasC cs vs = r at *
  clear h2 hlen
  generalize vs.length = n at *
  generalize cs.length = m at *
  go_enter Try.func54, Try.ntmps54
  go_wp2_with fail
  refine hc.mono ?_
  rintro e w2 ⟨rfl, b2⟩
  clear hc
  go_wp2
  go_ret
  exact ⟨rfl, b2⟩
set_option maxRecDepth 100000 in
theorem columnsOrder_any (ad : Option Addr) (nd cd : Nat) (w : World) : Calls Try.prog 57 #[.slice ad nd cd] w fun e w' => e = .returned (.func (.func 84) #[] #[.pointer (some ⟨w.heap.size, 0, none⟩)]) ∧ w' = w.alloc (.cells #[.slice ad nd cd] 43) := by
  go_enter Try.func57, Try.ntmps57
  go_wp2
  go_ret
  exact ⟨rfl, rfl⟩
/-- What is left of the comparison from column i on. -/
def restC (cs : List Int) (xs ys : List V3) (i : Nat) : Int := cmpRows ((pickR cs xs).drop i) ((pickR cs ys).drop i)
theorem restC_step {cs : List Int} {xs ys : List V3} {i : Nat} (h : i < cs.length) : restC cs xs ys i = lexI (cmp3 (nthV xs (nthC cs i).toNat) (nthV ys (nthC cs i).toNat)) (restC cs xs ys (i + 1)) := by
  unfold restC
  have l1 : i < (pickR cs xs).length := by unfold pickR; simpa using h
  have l2 : i < (pickR cs ys).length := by unfold pickR; simpa using h
  have g : ∀ (vs : List V3) (h' : i < (pickR cs vs).length), (pickR cs vs)[i] = nthV vs (nthC cs i).toNat := fun vs h' => by
    simp only [pickR, List.getElem_map]
    rw [nthC_get h]
  rw [List.drop_eq_getElem_cons l1, List.drop_eq_getElem_cons l2, cmpRows_cons, g xs l1, g ys l2]
theorem restC_end {cs : List Int} {xs ys : List V3} {i : Nat} (h : cs.length ≤ i) : restC cs xs ys i = 0 := by
  unfold restC
  rw [List.drop_of_length_le (by unfold pickR; simpa using h), List.drop_of_length_le (by unfold pickR; simpa using h)]
  rfl
/-- Two values in memory. -/
abbrev StW' (W : World) (b1 o1 : Nat) (v1 : V3) (b2 o2 : Nat) (v2 : V3) (w' : World) : Prop := CellV w' b1 o1 v1 ∧ CellV w' b2 o2 v2 ∧ Below W.heap.size W w'
theorem StW'.keep {W : World} {b1 o1 : Nat} {v1 : V3} {b2 o2 : Nat} {v2 : V3} {w1 w2 : World} (h : StW' W b1 o1 v1 b2 o2 v2 w1) (l1 : b1 < W.heap.size) (l2 : b2 < W.heap.size) (hb : Below w1.heap.size w1 w2) : StW' W b1 o1 v1 b2 o2 v2 w2 :=
  ⟨CellV.below h.1 (Nat.lt_of_lt_of_le l1 h.2.2.size) hb, CellV.below h.2.1 (Nat.lt_of_lt_of_le l2 h.2.2.size) hb, below_step h.2.2 (Nat.le_refl _) hb⟩
set_option maxRecDepth 100000 in
set_option maxHeartbeats 8000000 in
theorem columnsOrder1_any (a1 a2 : Option Addr) (c1 c2 : Nat) (cs : List Int) (xs ys : List V3) (gd : Nat) (w : World) (h1 : RowV w a1 xs) (h2 : RowV w a2 ys) (hx : ∀ i, i < cs.length → 0 ≤ nthC cs i ∧ nthC cs i < xs.length) (hy : ∀ i, i < cs.length → 0 ≤ nthC cs i ∧ nthC cs i < ys.length) (hl : cs.length ≤ 4096) (hd : InP w gd cs) :
    Calls Try.prog 84 #[.slice a1 xs.length c1, .slice a2 ys.length c2, .pointer (some ⟨gd, 0, none⟩)] w fun e w' => e = .returned (.int .i64 (cmpRows (pickR cs xs) (pickR cs ys))) ∧ Below w.heap.size w w' := by
  have HR : Hid (RowV w a1 xs ∧ RowV w a2 ys) := ⟨h1, h2⟩
  have HX : Hid (∀ i, i < cs.length → 0 ≤ nthC cs i ∧ nthC cs i < xs.length ∧ nthC cs i < ys.length) := fun i hi => ⟨(hx i hi).1, (hx i hi).2, (hy i hi).2⟩
  have HZ : Hid (restC cs xs ys 0 = cmpRows (pickR cs xs) (pickR cs ys)) := rfl
  obtain ⟨lgd, ad, cd, hcd, hin⟩ := hd
  have HI : Hid (InA w ad cs) := hin
  generalize hcr : cmpRows (pickR cs xs) (pickR cs ys) = cr at *
  clear hcr
  obtain ⟨n, hn⟩ : ∃ n, cs.length = n := ⟨_, rfl⟩
  have HN : Hid (cs.length = n) := hn
  rw [hn] at hcd hl HX
  clear h1 h2 hx hy hin hn
  go_enter Try.func84, Try.ntmps84
  go_wp2
  clear hcd
  go_loopw [11] (fun i wr => ∃ k : Nat, k ≤ n ∧ i = .int .i64 k ∧ Hid (restC cs xs ys k = cr) ∧ Below w.heap.size w wr) (fun i _ => n - (intOf i).toNat)
  case atStart => exact ⟨0, by omega, rfl, HZ.out, Below.refl _ _⟩
  case round =>
    obtain ⟨k, hk, rfl, HA, hbl⟩ := hrel
    by_cases hlt : k < n
    · have hltI : (k : Int) < (n : Int) := by omega
      obtain ⟨bi, oi, rfl, lbi, ci⟩ := (HI.out.below hbl) k (by rw [HN.out]; exact hlt)
      obtain ⟨x0, x1, x2⟩ := HX.out k hlt
      have HST : Hid (restC cs xs ys k = lexI (cmp3 (nthV xs (nthC cs k).toNat) (nthV ys (nthC cs k).toNat)) (restC cs xs ys (k + 1))) := restC_step (by rw [HN.out]; exact hlt)
      obtain ⟨q, hq⟩ : ∃ q : Nat, nthC cs k = (q : Int) := ⟨(nthC cs k).toNat, by omega⟩
      rw [hq] at ci x0 x1 x2 HST
      rw [Int.toNat_natCast] at HST
      clear hq
      obtain ⟨b1, o1, rfl, lb1, v1, _⟩ := (HR.out.1.below hbl) q (by omega)
      obtain ⟨b2, o2, rfl, lb2, v2, _⟩ := (HR.out.2.below hbl) q (by omega)
      have HLL : Hid (b1 < wr.heap.size ∧ b2 < wr.heap.size) := ⟨lb1, lb2⟩
      have hS : Hid (StW' wr b1 (o1 + q * 3) (nthV xs q) b2 (o2 + q * 3) (nthV ys q) wr.drew) := ⟨v1, v2, (Below.refl _ _).drew⟩
      have C1 : ∀ W, Calls Try.prog 75 #[VV (nthV xs q).1 (nthV xs q).2.1 (nthV xs q).2.2, VV (nthV ys q).1 (nthV ys q).2.1 (nthV ys q).2.2] W fun e w' => e = .returned (.int .i64 (cmp3 (nthV xs q) (nthV ys q))) ∧ Below W.heap.size W w' := fun W => valueOrder_any _ _ _ _ _ _ W
      have x1' : q < xs.length := by omega
      have x2' : q < ys.length := by omega
      clear v1 v2 lb1 lb2
      generalize nthV xs q = x at *
      generalize nthV ys q = y at *
      generalize cmp3 x y = cc at *
      go_wp2_with fail
      refine wp_region_class (C := StW' wr b1 (o1 + q * 3) x b2 (o2 + q * 3) y) (by kernel_rfl) (by kernel_rfl) hS.out ?_
      repeat (first | go_big_quiet_skip | (go_big_quiet_want; apply Exists.intro; refine ⟨?_, ?_⟩; (focus (intro w' hw'; first | (obtain ⟨⟨m0, m1, m2⟩, ⟨p0, p1, p2⟩, q2⟩ := hw'; go_simp; with_reducible rfl) | (go_simp; refine (C1 w').mono ?_; rintro e w'' ⟨rfl, hb⟩; exact ⟨rfl, hw'.keep HLL.out.1 HLL.out.2 hb⟩))); (try simp only [Act.put, List.setIfInBounds_toArray, List.set_cons_zero, List.set_cons_succ]); go_big_quiet_on))
      refine wpQuiet_nil ?_
      intro w2 hw2
      have hb2 := below_step hbl (Nat.le_refl _) hw2.2.2
      clear hS C1 hw2 HLL hbl ci
      by_cases h0 : cc = 0
      · subst h0
        have HA2 : Hid (restC cs xs ys (k + 1) = cr) := by
          show _ = _
          rw [← HA.out, HST.out]
          simp [lexI]
        clear HA HST
        go_wp2
        go_roundw
        case rel => exact ⟨k + 1, by omega, by go_num, HA2, hb2⟩
        case measure => simp [intOf]; omega
      · have hne : (cc != 0) = true := by simp [h0]
        have HA2 : Hid (cr = cc) := by
          show _ = _
          rw [← HA.out, HST.out]
          unfold lexI
          rw [if_pos h0]
        clear HA HST
        go_wp2
        go_ret
        exact ⟨ret_int' HA2.out.symm, hb2⟩
    · have HA2 : Hid (cr = 0) := by
        show _ = _
        rw [← HA.out]
        exact restC_end (by have := HN.out; omega)
      clear HA
      go_wp2
      go_ret
      exact ⟨ret_int' HA2.out.symm, hbl⟩
end Go.Proofs.Ytmcjgncpblbhpaa
