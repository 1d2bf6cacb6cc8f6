/- The entries of a map of versions within a span, in order (stage 8). -/
import Derived.Test.YtlcgmifibekegaaMpA
namespace Go.Proofs.Ytlcgmifibekegaa
open Go.RowKit Go.Maps Go.Sort

theorem less_tot : ∀ x y : List UInt8, (Op.bytesLess y x || y == x) = !Op.bytesLess x y
  | [], [] => rfl
  | [], b :: y => by simp [Op.bytesLess]
  | a :: x, [] => by simp [Op.bytesLess]
  | a :: x, b :: y => by
    have ih := less_tot x y
    unfold Op.bytesLess
    by_cases e : a = b
    · subst e
      simp
      rw [← ih]
    · have e' : ¬ b = a := fun h => e h.symm
      have h1 : (b == a) = false := by simpa using e'
      have h2 : (a == b) = false := by simpa using e
      rw [h1, h2]
      have h3 : (b :: y == a :: x) = false := by simp [e']
      rw [h3]
      simp
      have : a.toNat ≠ b.toNat := fun h => e (UInt8.toNat_inj.1 h)
      rcases Nat.lt_or_ge a.toNat b.toNat with h | h
      · have p1 : a < b := UInt8.lt_iff_toNat_lt.2 h
        have p2 : ¬ b < a := fun h' => by have := UInt8.lt_iff_toNat_lt.1 h'; omega
        rw [decide_eq_true p1, decide_eq_false p2]; rfl
      · have p1 : ¬ a < b := fun h' => by have := UInt8.lt_iff_toNat_lt.1 h'; omega
        have p2 : b < a := UInt8.lt_iff_toNat_lt.2 (by omega)
        rw [decide_eq_false p1, decide_eq_true p2]; rfl
set_option maxRecDepth 100000 in
theorem has_any (fr to : ByteArray) (bd : Bool) (k : ByteArray) (w : World) : Calls Try.prog 116 #[.agg #[.string fr, .string to, .bool bd], .string k] w fun e w' => e = .returned (.bool (spanB fr to bd k)) ∧ Below w.heap.size w w' := by
  have B0 : Below w.heap.size w (w.alloc (.cells #[.string fr, .string to, .bool bd] 115)) := (Below.refl _ _).alloc (Nat.le_refl _) _
  cases h1 : Op.bytesLess k.toList fr.toList with
  | true =>
    have H : Hid (spanB fr to bd k = false) := by show _ = _; unfold spanB; rw [h1]; rfl
    go_enter Try.func116, Try.ntmps116
    go_wp2
    go_ret
    exact ⟨ret_bool' H.out.symm, B0⟩
  | false =>
    cases bd with
    | false =>
      have H : Hid (spanB fr to false k = true) := by show _ = _; unfold spanB; rw [h1]; rfl
      go_enter Try.func116, Try.ntmps116
      go_wp2
      go_ret
      exact ⟨ret_bool' H.out.symm, B0⟩
    | true =>
      have H : Hid (spanB fr to true k = Op.bytesLess k.toList to.toList) := by show _ = _; unfold spanB; rw [h1]; rfl
      go_enter Try.func116, Try.ntmps116
      go_wp2
      go_ret
      exact ⟨ret_bool' H.out.symm, B0⟩
theorem run_field3 (k : ByteArray) (b e : Int) (x : ByteArray) (w : World) : (Instr.field 112 (.agg #[.string k, .int .i64 b, .int .i64 e, .string x]) 3).run Try.prog w = .ok (.string x) w := by kernel_rfl
theorem enc_self (k : ByteArray) : encStr k.toList = .string k := by
  unfold encStr
  rw [ByteArray.toList_eq]
theorem keys_cells (es : List TY) : (keysY es).map encStr = cellsS (es.map fun e => e.1) := by
  induction es with
  | nil => rfl
  | cons e es ih =>
    show encStr e.1.toList :: (keysY es).map encStr = .string e.1 :: cellsS (es.map fun e => e.1)
    rw [ih, enc_self]
theorem nthS_map (es : List TY) {k : Nat} (h : k < es.length) : nthS (es.map fun e => e.1) k = (nthY es k).1 := by
  rw [nthS_get (by simpa using h), nthY_get h]; simp
def selY (p : ByteArray → Bool) (es : List TY) (k : Nat) : List TY := (es.take k).filter fun e => p e.1
theorem selY_step (p : ByteArray → Bool) {es : List TY} {k : Nat} (h : k < es.length) : selY p es (k + 1) = if p (nthY es k).1 = true then selY p es k ++ [nthY es k] else selY p es k := by
  have e1 : es.take (k + 1) = es.take k ++ [nthY es k] := by rw [nthY_get h, List.take_add_one, List.getElem?_eq_getElem h]; rfl
  unfold selY
  rw [e1, List.filter_append]
  cases hp : p (nthY es k).1 <;> simp [hp]
theorem selY_len (p : ByteArray → Bool) (es : List TY) (k : Nat) : (selY p es k).length ≤ k := by
  unfold selY
  have := List.length_filter_le (fun e : TY => p e.1) (es.take k)
  rw [List.length_take] at this
  omega

set_option maxRecDepth 100000 in
set_option maxHeartbeats 4000000 in
theorem entries_any (b n : Nat) (f : List UInt8 → Option (Int × ByteArray)) (es : List TY) (fr to : ByteArray) (bd : Bool) (w : World) (hM : MapV w b n f) (hn : es.length ≤ 1048576) (hr : RiseY es) (hl : LinkY f es) (hz : ∀ i, i < es.length → (nthY es i).1.size ≤ maxLen) :
    Calls Try.prog 79 #[.map (some b), .agg #[.string fr, .string to, .bool bd]] w fun e w' => ∃ v, e = .returned v ∧ OwnY w' w.heap.size v (es.filter fun e => spanB fr to bd e.1) ∧ Below w.heap.size w w' := by
  obtain ⟨W0, hW0⟩ : ∃ W0, w.alloc (.cells #[.string fr, .string to, .bool bd] 115) = W0 := ⟨_, rfl⟩
  have hbl := hM.lt
  have B0 : Below w.heap.size w W0 := hW0 ▸ (Below.refl _ _).alloc (Nat.le_refl _) _
  have hM0 : MapV W0 b n f := hM.below B0 hbl
  have HX : Hid (W0.heap[w.heap.size]? = some (.cells #[.string fr, .string to, .bool bd] 115 (0, 0))) := (hW0 ▸ heap_new' _ _ _ rfl : W0.heap[w.heap.size]? = _)
  have HS0 : Hid (W0.heap.size = w.heap.size + 1) := (by rw [← hW0]; simp : W0.heap.size = w.heap.size + 1)
  have HM0 : Hid (MapV W0 b n f) := hM0
  obtain ⟨D, hD, r⟩ := hM0
  have hperm := keysY_perm hD r hr hl
  have hsize : Maps.size D = es.length := by
    have h1 := hperm.length_eq
    obtain ⟨l, e1, _⟩ := hD.tidy keyed9
    rw [e1] at h1 ⊢
    simp [keysY, strKeys] at h1
    simp [Maps.size_eq, h1]
  have hkeys : Calls Try.prog 115 #[.map (some b)] W0 fun e w' => e = .returned (.func (.func 138) #[] #[.pointer (some ⟨W0.heap.size, 0, none⟩)]) ∧ w' = W0.alloc (.cells #[.map (some b)] 110) := callsIn_wide.1 (Try.maps_Keys_115 (some b) W0)
  have hsort : Calls Try.prog 114 #[.func (.func 138) #[] #[.pointer (some ⟨W0.heap.size, 0, none⟩)]] (W0.alloc (.cells #[.map (some b)] 110)) fun e w' => ∃ v, e = .returned v ∧ OwnS w' (W0.heap.size + 1) v (es.map fun e => e.1) ∧ Below (W0.heap.size + 1) (W0.alloc (.cells #[.map (some b)] 110)) w' := by
    refine (callsIn_wide.1 (Try.slices_Sorted_keys_114_115 b n D verR W0 hD (by rw [hsize]; unfold maxLen; omega) (by rw [hsize]; omega))).mono ?_
    rintro e w' ⟨v, ss, rfl, hS, hrow, _, hb⟩
    have e1 : ss.mergeSort (fun x y => decide (x ≤ y)) = keysY es := (mergeSort_of_perm (hS.trans hperm.symm)).trans hr.sorted
    have e2 : ss.length = es.length := by rw [(hS.trans hperm.symm).length_eq]; simp [keysY]
    rw [e1, keys_cells, e2] at hrow
    refine ⟨v, rfl, ?_, by simpa using hb⟩
    have : (es.map fun e => e.1).length = es.length := by simp
    show w'.ownsRow _ 9 1 v (es.map fun e => e.1).length _
    rw [this]
    simpa using hrow
  have HV : Hid (∀ k, k < es.length → ((f (nthY es k).1.toList).getD noP).2 = (nthY es k).2) := fun k hk => by
    have h1 := hl (nthY es k).1
    rw [hr.val hk] at h1
    cases hf : f (nthY es k).1.toList with
    | none => rw [hf] at h1; cases h1
    | some p => rw [hf] at h1; simp at h1; simpa using h1
  have HZ : Hid (∀ i, i < es.length → (nthY es i).1.size ≤ maxLen) := hz
  have HNT : Hid (∀ k, k < es.length → nthS (es.map fun e => e.1) k = (nthY es k).1) := fun k hk => nthS_map es hk
  have HST := @selY_step (spanB fr to bd) es
  have HAL : Hid (selY (spanB fr to bd) es es.length = es.filter fun e => spanB fr to bd e.1) := by show _ = _; unfold selY; rw [List.take_length]
  rw [← HAL.out]
  obtain ⟨len, hlen⟩ : ∃ m, es.length = m := ⟨_, rfl⟩
  have HL : Hid ((es.map fun e => e.1).length = len) := by show _ = _; simp [hlen]
  rw [hlen] at hn HV HZ HNT HST ⊢
  have HS1 : Hid (∀ k, k < len → selY (spanB fr to bd) es (k + 1) = if spanB fr to bd (nthY es k).1 = true then selY (spanB fr to bd) es k ++ [nthY es k] else selY (spanB fr to bd) es k) := fun k hk => HST hk
  clear HST HAL hM hr hl hz hD r hperm hsize hlen
  obtain ⟨i0, hI, hz0, hz1, hz2⟩ := info_parts info61
  go_enter Try.func79, Try.ntmps79
  go_wp2_with fail
  refine hkeys.mono ?_
  rintro e w1 ⟨rfl, hq⟩
  subst hq
  go_wp2_with fail
  refine hsort.mono ?_
  rintro e w2 ⟨kv, rfl, o2, b2⟩
  have A1 : Below W0.heap.size W0 (W0.alloc (.cells #[.map (some b)] 110)) := (Below.refl _ _).alloc (Nat.le_refl _) _
  have b3 : Below W0.heap.size W0 w2 := A1.trans (b2.mono (by omega))
  have HB3 : Hid (Below W0.heap.size W0 w2) := b3
  have HX2 : Hid (w2.heap[w.heap.size]? = some (.cells #[.string fr, .string to, .bool bd] 115 (0, 0))) := (b3.block _ (slab_lt HX.out)).trans HX.out
  have HM2 : Hid (MapV w2 b n f) := HM0.out.below b3 (by have := HS0.out; omega)
  have HK2 : Hid (OwnS w2 (W0.heap.size + 1) kv (es.map fun e => e.1)) := o2
  have hs2 : W0.heap.size ≤ w2.heap.size := b3.size
  clear hkeys hsort o2 b2 A1 b3 HX HM0 hW0
  obtain ⟨ka, kc, hke, hkr⟩ := HK2.out.row
  rw [HL.out] at hke
  subst hke
  have HKR : Hid (RowS w2 ka (es.map fun e => e.1)) := hkr
  clear hkr HK2
  go_wp2
  go_loopw [5, 12] (fun v i wr => ∃ k : Nat, k ≤ len ∧ i = .int .i64 k ∧ OwnY wr w2.heap.size v (selY (spanB fr to bd) es k) ∧ Below w2.heap.size w2 wr) (fun _ i _ => len - (intOf i).toNat)
  case atStart => exact ⟨0, by omega, rfl, OwnY.nil _ _, Below.refl _ _⟩
  case round =>
    obtain ⟨k, hk, rfl, hO, hbl⟩ := hrel
    have HO : Hid (OwnY wr w2.heap.size u5 (selY (spanB fr to bd) es k)) := hO
    have hsr : w2.heap.size ≤ wr.heap.size := hbl.size
    clear hO
    by_cases hlt : k < len
    · have hltI : (k : Int) < (len : Int) := by omega
      obtain ⟨kb, koff, rfl, hlb, q0⟩ := (HKR.out.below hbl) k (by rw [HL.out]; exact hlt)
      rw [HNT.out k hlt] at q0
      have xb := kpBlk HX2.out hbl (slab_lt HX2.out)
      have m0 : wr.cell? ⟨w.heap.size, 0, none⟩ = some (.string fr) := slab_cell xb
      have m1 : wr.cell? ⟨w.heap.size, 1, none⟩ = some (.string to) := slab_cell xb
      have m2 : wr.cell? ⟨w.heap.size, 2, none⟩ = some (.bool bd) := slab_cell xb
      have hst := HS1.out k hlt
      have hv := HV.out k hlt
      have hzk := HZ.out k hlt
      have hll := selY_len (spanB fr to bd) es k
      generalize nthY es k = x at *
      obtain ⟨kx, vx⟩ := x
      simp only at hv hzk hst q0
      have hcall := has_any fr to bd kx wr
      cases hsp : spanB fr to bd kx with
      | false =>
        rw [hsp] at hcall hst
        have HN : Hid (selY (spanB fr to bd) es (k + 1) = selY (spanB fr to bd) es k) := hst
        clear hsp hst xb
        go_wp2_with fail
        refine hcall.mono ?_
        rintro e w3 ⟨rfl, b3⟩
        have HO3 : Hid (OwnY w3 w2.heap.size u5 (selY (spanB fr to bd) es k)) := HO.out.below b3
        have B3 := below_step hbl (Nat.le_refl _) b3
        clear hcall b3 m0 m1 m2
        go_wp2
        go_roundw
        case rel => exact ⟨k + 1, by omega, by go_num, by rw [HN.out]; exact HO3.out, B3⟩
        case measure => simp [intOf]; omega
      | true =>
        rw [hsp] at hcall hst
        have HN : Hid (selY (spanB fr to bd) es (k + 1) = selY (spanB fr to bd) es k ++ [(kx, vx)]) := hst
        clear hsp hst xb
        go_wp2_with fail
        refine hcall.mono ?_
        rintro e w3 ⟨rfl, b3⟩
        have HO3 : Hid (OwnY w3 w2.heap.size u5 (selY (spanB fr to bd) es k)) := HO.out.below b3
        have B3 := below_step hbl (Nat.le_refl _) b3
        have hs3 : w2.heap.size ≤ w3.heap.size := B3.size
        have HM3 : MapV w3 b n f := HM2.out.below B3 (by have := HM2.out.lt; omega)
        obtain ⟨ky', ee, hlook⟩ := HM3.look kx hzk
        rw [hv] at hlook
        clear hcall b3 m0 m1 m2 HM3
        generalize ((f kx.toList).getD noP).1 = bb at *
        have hfl := run_field3 ky' bb ee vx w3
        go_wp2_with (at_builtin; refine wpList_append_own _ rfl _ _ 37 rfl w2.heap.size 61 i0 (.agg #[.string ⟨#[]⟩, .string ⟨#[]⟩]) 2 32 Try.underlying37 hI hz0 hz1 hz2 rfl (by decide) _ _ _ rfl (HO3.out.alloc _) ⟨w3.heap.size, 0, none⟩ 1 1 [.string kx, .string vx] rfl rfl (cell_two_new _ _ _ _) ?m4 ?m1 ?m2 ?m3 ?_)
        case m4 => intro u hu; simp at hu; rcases hu with rfl | rfl <;> rfl
        case m1 => unfold maxLen; omega
        case m2 => omega
        case m3 => first | omega | (simp; omega)
        intro v' w4 ho4 g4 _
        have HO4 : Hid (OwnY w4 w2.heap.size v' (selY (spanB fr to bd) es (k + 1))) := by show OwnY _ _ _ _; rw [HN.out]; exact OwnY.snoc (p := (kx, vx)) ho4
        have B4 : Hid (Below w2.heap.size w2 w4) := own_belowX (B3.alloc hs3 _) (by simp; omega) (HO3.out.alloc _) g4
        clear ho4 g4
        go_wp2
        go_roundw
        case rel => exact ⟨k + 1, by omega, by go_num, HO4.out, B4.out⟩
        case measure => simp [intOf]; omega
    · obtain rfl : k = len := by omega
      have HE : Hid (Below w.heap.size w wr) := B0.trans ((HB3.out.trans (hbl.mono hs2)).mono (by have := HS0.out; omega))
      go_wp2
      go_ret
      exact ⟨_, rfl, own_mono HO.out (by have := HS0.out; omega), HE.out⟩
end Go.Proofs.Ytlcgmifibekegaa
