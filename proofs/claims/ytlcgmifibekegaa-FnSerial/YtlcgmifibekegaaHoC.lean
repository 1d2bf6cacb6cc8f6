/- impl's look at a history (stage 8). -/
import Derived.Test.YtlcgmifibekegaaHoB
import Derived.ChangeKeysEq
namespace Go.Proofs.Ytlcgmifibekegaa
open Go.RowKit

/-- Six flags as cells. -/
abbrev flA (f : Nat → Bool) : Array Value := #[.bool (f 0), .bool (f 1), .bool (f 2), .bool (f 3), .bool (f 4), .bool (f 5)]
/-- Six flags lie in block g. -/
abbrev FlB (w : World) (g : Nat) (f : Nat → Bool) : Prop := w.heap[g]? = some (.cells (flA f) 93 (0, 0))
theorem flA_set (f f' : Nat → Bool) (T : Nat) (v : Bool) (hT : T < 6) (h1 : f' T = v) (h2 : ∀ i, i ≠ T → f' i = f i) : (flA f).setIfInBounds T (.bool v) = flA f' := by
  have h : T = 0 ∨ T = 1 ∨ T = 2 ∨ T = 3 ∨ T = 4 ∨ T = 5 := by omega
  subst h1
  rcases h with h | h | h | h | h | h <;> subst h <;> simp [flA, h2]
theorem flA_get (f : Nat → Bool) (T : Nat) (hT : T < 6) : (flA f)[T]? = some (.bool (f T)) := by
  have h : T = 0 ∨ T = 1 ∨ T = 2 ∨ T = 3 ∨ T = 4 ∨ T = 5 := by omega
  rcases h with h | h | h | h | h | h <;> subst h <;> rfl
theorem FlB.set {w : World} {g T : Nat} {f f' : Nat → Bool} {v : Bool} (h : FlB w g f) (hT : T < 6) (h1 : f' T = v) (h2 : ∀ i, i ≠ T → f' i = f i) : FlB (w.setCell ⟨g, T, none⟩ (.bool v)) g f' := by
  show (w.setCell ⟨g, T, none⟩ (.bool v)).heap[g]? = _
  rw [slab_set h, flA_set f f' T v hT h1 h2]
theorem set_oth {w : World} {g b o : Nat} {v : Value} (h : b ≠ g) : (w.setCell ⟨g, o, none⟩ v).heap[b]? = w.heap[b]? := by
  simp [World.setCell, Array.getElem?_modify, Ne.symm h]
theorem info4 : (Try.prog.info? 4).map (fun i => (i.zero, i.size, i.bytes)) = some (some (.bool false), 1, 1) := by kernel_rfl
theorem cells4 : Try.prog.cellsOf 4 = 1 := by kernel_rfl
theorem run_eqItems_fl (f g : Nat → Bool) (w : World) : ∀ is : List Nat, (∀ i ∈ is, i < 6) → (Op.eqItems 9999 4 1 (flA f) (flA g) is).run Try.prog w = .ok (is.all fun i => f i == g i) w
  | [], _ => by simp [Op.eqItems]
  | i :: is, h => by
    have ih := run_eqItems_fl f g w is (fun j hj => h j (List.mem_cons_of_mem _ hj))
    have hi : i < 6 := h i (List.mem_cons_self ..)
    have pa := run_part_plain (P := Try.prog) w (e := 4) (by kernel_rfl) (xs := flA f) (off := i * 1) (v := .bool (f i)) (by rw [Nat.mul_one]; exact flA_get f i hi)
    have pb := run_part_plain (P := Try.prog) w (e := 4) (by kernel_rfl) (xs := flA g) (off := i * 1) (v := .bool (g i)) (by rw [Nat.mul_one]; exact flA_get g i hi)
    simp only [Op.eqItems, Sem.run_bind, pa, pb, Result.andThen_ok, run_equalIn_bool (P := Try.prog) w 9998 4 (f i) (g i) Try.underlying4]
    cases hfg : (f i == g i)
    · simp [hfg]
    · simp [ih, hfg]
set_option maxRecDepth 100000 in
theorem run_eq_fl (f g : Nat → Bool) (w : World) : (Op.equalIn 10000 93 (.agg (flA f)) (.agg (flA g))).run Try.prog w = .ok (asB (∀ t, t < 6 → f t = g t)) w := by
  obtain ⟨i0, hi, _⟩ := info_parts info4
  rw [run_equalIn_array (P := Try.prog) w 9999 (flA f) (flA g) Try.underlying93 hi, cells4, run_eqItems_fl f g w _ (fun i hi => List.mem_range.1 hi)]
  congr 1
  exact asB_eq ⟨fun h => List.all_eq_true.2 fun i hi => by simpa using h i (List.mem_range.1 hi), fun h t ht => by simpa using List.all_eq_true.1 h t (List.mem_range.2 ht)⟩
/-- Act i is right, and nothing of its transaction ended ahead of it. -/
def OkB (ss : List TH) (i : Nat) : Prop := OpP (nthH ss i) ∧ ∀ j, j < i → ¬ EndAt ss (nthH ss i).1 j
/-- A right history. -/
def HistP (ss : List TH) : Prop := ss.length ≤ 60 ∧ ∀ i, i < ss.length → OkB ss i ∧ ∃ j, j < ss.length ∧ EndAt ss (nthH ss i).1 j
/-- Which have begun, and ended, in the first k acts. -/
noncomputable def begF (ss : List TH) (k t : Nat) : Bool := asB (∃ i, i < k ∧ (nthH ss i).1 = (t : Int))
noncomputable def endF (ss : List TH) (k t : Nat) : Bool := asB (∃ i, i < k ∧ EndAt ss t i)
theorem begF_at {ss : List TH} {k T : Nat} (h : (nthH ss k).1 = (T : Int)) : begF ss (k + 1) T = true := (asB_true ⟨k, by omega, h⟩).symm
theorem begF_oth {ss : List TH} {k T i : Nat} (h : (nthH ss k).1 = (T : Int)) (hi : i ≠ T) : begF ss (k + 1) i = begF ss k i := by
  refine asB_iff ⟨fun ⟨j, h1, h2⟩ => ?_, fun ⟨j, h1, h2⟩ => ⟨j, by omega, h2⟩⟩
  by_cases e : j = k
  · subst e; omega
  · exact ⟨j, by omega, h2⟩
theorem endF_oth {ss : List TH} {k T i : Nat} (h : (nthH ss k).1 = (T : Int)) (hi : i ≠ T) : endF ss (k + 1) i = endF ss k i := by
  refine asB_iff ⟨fun ⟨j, h1, h2⟩ => ?_, fun ⟨j, h1, h2⟩ => ⟨j, by omega, h2⟩⟩
  by_cases e : j = k
  · subst e; have := h2.1; omega
  · exact ⟨j, by omega, h2⟩
theorem endF_at {ss : List TH} {k T : Nat} {v : Bool} (h : (nthH ss k).1 = (T : Int)) (h0 : endF ss k T = false) (hv : v = true ↔ 3 ≤ (nthH ss k).2.1) : endF ss (k + 1) T = v := by
  refine (asB_eq ⟨fun ⟨j, h1, h2⟩ => ?_, fun e => ⟨k, by omega, h, hv.1 e⟩⟩).symm
  by_cases e : j = k
  · subst e; exact hv.2 h2.2
  · exact absurd ⟨j, by omega, h2⟩ (asB_not h0)
theorem histP_end {ss : List TH} (hl : ss.length ≤ 60) (h : ∀ i, i < ss.length → OkB ss i) : HistP ss ↔ ∀ t, t < 6 → begF ss ss.length t = endF ss ss.length t := by
  constructor
  · intro hp t _
    refine asB_iff ⟨fun ⟨i, h1, h2⟩ => ?_, fun ⟨i, h1, h2⟩ => ⟨i, h1, h2.1⟩⟩
    obtain ⟨j, j1, j2⟩ := (hp.2 i h1).2
    exact ⟨j, j1, h2 ▸ j2⟩
  · intro hf
    refine ⟨hl, fun i hi => ⟨h i hi, ?_⟩⟩
    obtain ⟨⟨⟨t0, t5⟩, _⟩, _⟩ := h i hi
    obtain ⟨t, ht⟩ := Int.eq_ofNat_of_zero_le t0
    have e := hf t (by omega)
    have hb : begF ss ss.length t = true := (asB_true ⟨i, hi, ht⟩).symm
    rw [hb] at e
    obtain ⟨j, j1, j2⟩ := asB_is e.symm
    exact ⟨j, j1, by rw [ht]; exact j2⟩

set_option maxRecDepth 100000 in
set_option maxHeartbeats 2000000 in
theorem implHistoryOK_any (a : Option Addr) (cap : Nat) (ss : List TH) (w : World) (h : RowH w a ss) (hl : ss.length ≤ 1048576) :
    Calls Try.prog 20 #[.slice a ss.length cap] w fun e w' => e = .returned (.bool (asB (HistP ss))) ∧ Below w.heap.size w w' := by
  have HR : Hid (RowH w a ss) := h
  clear h
  obtain ⟨len, hlen⟩ : ∃ m, ss.length = m := ⟨_, rfl⟩
  have HL : Hid (ss.length = len) := hlen
  rw [hlen] at hl ⊢
  clear hlen
  by_cases h60 : (60 : Int) < (len : Int)
  · go_enter Try.func20, Try.ntmps20
    go_wp2
    go_ret
    exact ⟨ret_bool' (asB_false (fun h => by have := h.1; rw [HL.out] at this; omega)), Below.refl _ _⟩
  have E0 : Hid (∀ f : Nat → Bool, (∀ t, f t = false) → flA f = #[.bool false, .bool false, .bool false, .bool false, .bool false, .bool false]) := fun f h => by simp [flA, h]
  have HB0 : Hid (∀ t, begF ss 0 t = false) := fun t => (asB_false (fun ⟨i, h, _⟩ => by omega)).symm
  have HE0 : Hid (∀ t, endF ss 0 t = false) := fun t => (asB_false (fun ⟨i, h, _⟩ => by omega)).symm
  have X0 : Hid (FlB ((w.alloc (.cells #[.bool false, .bool false, .bool false, .bool false, .bool false, .bool false] 93)).alloc (.cells #[.bool false, .bool false, .bool false, .bool false, .bool false, .bool false] 93)) w.heap.size (begF ss 0) ∧ FlB ((w.alloc (.cells #[.bool false, .bool false, .bool false, .bool false, .bool false, .bool false] 93)).alloc (.cells #[.bool false, .bool false, .bool false, .bool false, .bool false, .bool false] 93)) (w.heap.size + 1) (endF ss 0)) := by
    show _ = some (Obj.cells (flA (begF ss 0)) 93 (0, 0)) ∧ _ = some (Obj.cells (flA (endF ss 0)) 93 (0, 0))
    rw [E0.out _ HB0.out, E0.out _ HE0.out]
    exact ⟨(heap_old _ _ _ (by simp)).trans (heap_new' _ _ _ rfl), heap_new' _ _ _ (by simp)⟩
  clear E0 HB0 HE0
  go_enter Try.func20, Try.ntmps20
  go_wp2
  go_loopw [12] (fun i wr => ∃ k : Nat, k ≤ len ∧ i = .int .i64 k ∧ Hid (∀ i, i < k → OkB ss i) ∧ Hid (FlB wr w.heap.size (begF ss k) ∧ FlB wr (w.heap.size + 1) (endF ss k)) ∧ Below w.heap.size w wr) (fun i _ => len - (intOf i).toNat)
  case atStart => exact ⟨0, by omega, rfl, fun i hi => by omega, X0, ((Below.refl _ _).alloc (Nat.le_refl _) _).alloc (by simp) _⟩
  case round =>
    obtain ⟨k, hk, rfl, HS, HF, hbl⟩ := hrel
    have hlw : w.heap.size + 1 < wr.heap.size := slab_lt HF.out.2
    by_cases hlt : k < len
    · obtain ⟨b, off, rfl, hlb, ⟨q0, q1, q2, q3⟩, z1, z2⟩ := (HR.out.below hbl) k (by rw [HL.out]; exact hlt)
      have hltI : (k : Int) < (len : Int) := by omega
      obtain ⟨x, hx⟩ : ∃ x, nthH ss k = x := ⟨_, rfl⟩
      have HX : Hid (nthH ss k = x) := hx
      rw [hx] at q0 q1 q2 q3 z1 z2
      clear hx
      obtain ⟨tx, kd, ky, va⟩ := x
      have HZ : Hid (ky.size ≤ maxLen ∧ va.size ≤ maxLen) := ⟨z1, z2⟩
      obtain ⟨W1, hW1⟩ : ∃ W1, wr.alloc (.cells #[.int .i64 tx, .int .i64 kd, .string ky, .string va] 107) = W1 := ⟨_, rfl⟩
      have b1 : Below wr.heap.size wr W1 := hW1 ▸ (Below.refl _ _).alloc (Nat.le_refl _) _
      have yb : W1.heap[wr.heap.size]? = some (.cells #[.int .i64 tx, .int .i64 kd, .string ky, .string va] 107 (0, 0)) := hW1 ▸ heap_new' _ _ _ rfl
      have YB : Hid (W1.heap[wr.heap.size]? = some (.cells #[.int .i64 tx, .int .i64 kd, .string ky, .string va] 107 (0, 0))) := yb
      have HF1 : Hid (FlB W1 w.heap.size (begF ss k) ∧ FlB W1 (w.heap.size + 1) (endF ss k)) := ⟨(b1.block _ (by omega)).trans HF.out.1, (b1.block _ hlw).trans HF.out.2⟩
      have hB1 := below_step hbl (Nat.le_refl _) b1
      clear z1 z2 yb b1 HF
      have m0 : W1.cell? ⟨wr.heap.size, 0, none⟩ = some (.int .i64 tx) := slab_cell YB.out
      have m1 : W1.cell? ⟨wr.heap.size, 1, none⟩ = some (.int .i64 kd) := slab_cell YB.out
      have m2 : W1.cell? ⟨wr.heap.size, 2, none⟩ = some (.string ky) := slab_cell YB.out
      have m3 : W1.cell? ⟨wr.heap.size, 3, none⟩ = some (.string va) := slab_cell YB.out
      go_wp2_with fail
      refine (opOK_any (tx, kd, ky, va) W1 HZ.out.1 HZ.out.2).mono ?_
      rintro e w2 ⟨rfl, b2⟩
      have hB2 := below_step hB1 (Nat.le_refl _) b2
      have hlw2 : wr.heap.size < W1.heap.size := slab_lt YB.out
      have HF2 : Hid (FlB w2 w.heap.size (begF ss k) ∧ FlB w2 (w.heap.size + 1) (endF ss k)) := ⟨(b2.block _ (by omega)).trans HF1.out.1, (b2.block _ (by omega)).trans HF1.out.2⟩
      have YB2 : Hid (w2.heap[wr.heap.size]? = some (.cells #[.int .i64 tx, .int .i64 kd, .string ky, .string va] 107 (0, 0))) := (b2.block _ hlw2).trans YB.out
      clear m0 m1 m2 m3 q0 q1 q2 q3 HF1 hlw2 hlb hW1 YB b2 hB1
      cases hok : asB (OpP (tx, kd, ky, va)) with
      | false =>
        have HN : Hid (¬ HistP ss) := fun h => asB_not hok (HX.out ▸ (h.2 k (by rw [HL.out]; exact hlt)).1.1)
        clear hok
        go_wp2
        go_ret
        exact ⟨ret_bool' (asB_false HN.out), hB2⟩
      | true =>
        have HO : Hid (OpP (tx, kd, ky, va)) := asB_is hok
        clear hok
        obtain ⟨⟨t0, t5⟩, hkd⟩ := HO.out
        simp only at t0 t5 hkd
        obtain ⟨T, rfl⟩ := Int.eq_ofNat_of_zero_le t0
        have hT : T < 6 := by omega
        have hTI : (T : Int) < 6 := by omega
        have HTX : Hid ((nthH ss k).1 = (T : Int)) := by show _ = _; rw [HX.out]
        have HKX : Hid ((nthH ss k).2.1 = kd) := by show _ = _; rw [HX.out]
        have m0 : w2.cell? ⟨wr.heap.size, 0, none⟩ = some (.int .i64 T) := slab_cell YB2.out
        have mf : w2.cell? ⟨w.heap.size + 1, T, none⟩ = some (.bool (endF ss k T)) := (slab_cell HF2.out.2).trans (flA_get _ _ hT)
        cases hef : endF ss k T with
        | true =>
          have HN : Hid (¬ HistP ss) := fun h => by
            obtain ⟨i, h1, h2⟩ := asB_is hef
            exact (h.2 k (by rw [HL.out]; exact hlt)).1.2 i h1 (HTX.out ▸ h2)
          rw [hef] at mf
          clear hef hkd
          go_wp2
          go_ret
          exact ⟨ret_bool' (asB_false HN.out), hB2⟩
        | false =>
          have HEF : Hid (endF ss k T = false) := hef
          have HOK : Hid (∀ i, i < k + 1 → OkB ss i) := fun i hi => by
            by_cases e : i = k
            · subst e
              exact ⟨HX.out ▸ HO.out, fun j hj he => asB_not HEF.out ⟨j, hj, HTX.out ▸ he⟩⟩
            · exact HS.out i (by omega)
          rw [hef] at mf
          clear hef
          have hf1 : w2.frozen? ⟨w.heap.size, T, none⟩ = false := slab_free HF2.out.1
          obtain ⟨v1, hv1⟩ : ∃ v, w2.cell? ⟨w.heap.size, T, none⟩ = some v := ⟨_, (slab_cell HF2.out.1).trans (flA_get _ _ hT)⟩
          obtain ⟨w3, hw3⟩ : ∃ w3, w2.setCell ⟨w.heap.size, T, none⟩ (.bool true) = w3 := ⟨_, rfl⟩
          have HF3 : Hid (FlB w3 w.heap.size (begF ss (k + 1)) ∧ FlB w3 (w.heap.size + 1) (endF ss k)) := hw3 ▸ ⟨FlB.set HF2.out.1 hT (begF_at HTX.out) (fun i hi => begF_oth HTX.out hi), (set_oth (by omega)).trans HF2.out.2⟩
          have YB3 : Hid (w3.heap[wr.heap.size]? = some (.cells #[.int .i64 T, .int .i64 kd, .string ky, .string va] 107 (0, 0))) := hw3 ▸ (set_oth (by omega)).trans YB2.out
          have hB3 : Below w.heap.size w w3 := hw3 ▸ hB2.setCell (p := ⟨w.heap.size, T, none⟩) (Nat.le_refl _) _
          have n0 : w3.cell? ⟨wr.heap.size, 0, none⟩ = some (.int .i64 T) := slab_cell YB3.out
          have n1 : w3.cell? ⟨wr.heap.size, 1, none⟩ = some (.int .i64 kd) := slab_cell YB3.out
          have hf2 : w3.frozen? ⟨w.heap.size + 1, T, none⟩ = false := slab_free HF3.out.2
          obtain ⟨v2, hv2⟩ : ∃ v, w3.cell? ⟨w.heap.size + 1, T, none⟩ = some v := ⟨_, (slab_cell HF3.out.2).trans (flA_get _ _ hT)⟩
          have HN3 : Hid (∀ v : Bool, (v = true ↔ 3 ≤ kd) → FlB (w3.setCell ⟨w.heap.size + 1, T, none⟩ (.bool v)) w.heap.size (begF ss (k + 1)) ∧ FlB (w3.setCell ⟨w.heap.size + 1, T, none⟩ (.bool v)) (w.heap.size + 1) (endF ss (k + 1))) := fun v hv =>
            ⟨(set_oth (by omega)).trans HF3.out.1, FlB.set HF3.out.2 hT (endF_at HTX.out HEF.out (by rw [HKX.out]; exact hv)) (fun i hi => endF_oth HTX.out hi)⟩
          have HB4 : Hid (∀ v : Bool, Below w.heap.size w (w3.setCell ⟨w.heap.size + 1, T, none⟩ (.bool v))) := fun v => hB3.setCell (p := ⟨w.heap.size + 1, T, none⟩) (by simp) _
          have HK4 : Hid (kd = 1 ∨ kd = 2 ∨ kd = 3 ∨ kd = 4) := by
            rcases hkd with h | h | h
            · exact .inl h.1
            · exact .inr (.inl h.1)
            · exact .inr (.inr h.1)
          clear hkd HS HX HO YB2 HF2 HF3 YB3 hB2 hB3
          by_cases k3 : kd = 3
          · subst k3
            go_wp2
            go_roundw
            case rel => exact ⟨k + 1, by omega, by go_num, HOK, HN3.out true (by simp), HB4.out true⟩
            case measure => simp [intOf]; omega
          · have e3 : (kd == 3) = false := by simpa using k3
            by_cases k4 : kd = 4
            · subst k4
              go_wp2
              go_roundw
              case rel => exact ⟨k + 1, by omega, by go_num, HOK, HN3.out true (by simp), HB4.out true⟩
              case measure => simp [intOf]; omega
            · have e4 : (kd == 4) = false := by simpa using k4
              have HFL := HN3.out false (by have := HK4.out; simp; omega)
              have HFL' : Hid (FlB (w3.setCell ⟨w.heap.size + 1, T, none⟩ (.bool false)) w.heap.size (begF ss (k + 1)) ∧ FlB (w3.setCell ⟨w.heap.size + 1, T, none⟩ (.bool false)) (w.heap.size + 1) (endF ss (k + 1))) := HFL
              clear HFL k3 k4
              go_wp2
              go_roundw
              case rel => exact ⟨k + 1, by omega, by go_num, HOK, HFL', HB4.out false⟩
              case measure => simp [intOf]; omega
    · obtain rfl : k = len := by omega
      have c0 : ∀ o, wr.cell? ⟨w.heap.size, o, none⟩ = (flA (begF ss k))[o]? := fun o => slab_cell HF.out.1
      have c1 : ∀ o, wr.cell? ⟨w.heap.size + 1, o, none⟩ = (flA (endF ss k))[o]? := fun o => slab_cell HF.out.2
      have hq := run_eq_fl (begF ss k) (endF ss k) wr
      simp only [flA] at hq
      have HH : Hid (asB (∀ t, t < 6 → begF ss k t = endF ss k t) = asB (HistP ss)) := by
        have hk := HL.out
        have h1 := histP_end (ss := ss) (by rw [hk]; omega) (by rw [hk]; exact HS.out)
        rw [hk] at h1
        exact (asB_iff h1).symm
      generalize asB (∀ t, t < 6 → begF ss k t = endF ss k t) = ans at *
      go_wp2
      go_ret
      exact ⟨ret_bool' HH.out, hbl⟩
end Go.Proofs.Ytlcgmifibekegaa
