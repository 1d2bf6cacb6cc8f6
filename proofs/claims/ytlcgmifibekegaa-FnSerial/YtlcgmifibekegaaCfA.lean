/- Conflicts of two acts; the acts of those that commit (stage 8). -/
import Derived.Test.YtlcgmifibekegaaCoB
import Derived.Test.YtlcgmifibekegaaPrA
namespace Go.Proofs.Ytlcgmifibekegaa
open Go.RowKit

/-- Two acts conflict: one is a write, and they are of one key. -/
def cnfB (x y : TH) : Bool := (x.2.1 == 2 || y.2.1 == 2) && (x.2.2.1.toList == y.2.2.1.toList)
set_option maxRecDepth 100000 in
theorem conflict_any (x y : TH) (w : World) : Calls Try.prog 104 #[ValH x, ValH y] w fun e w' => e = .returned (.bool (cnfB x y)) ∧ Below w.heap.size w w' := by
  obtain ⟨t, k, s, v⟩ := x
  obtain ⟨t', k', s', v'⟩ := y
  have B0 : Below w.heap.size w ((w.alloc (.cells #[.int .i64 t, .int .i64 k, .string s, .string v] 107)).alloc (.cells #[.int .i64 t', .int .i64 k', .string s', .string v'] 107)) := ((Below.refl _ _).alloc (Nat.le_refl _) _).alloc (by simp) _
  have HQ : Hid (cnfB (t, k, s, v) (t', k', s', v') = ((k == 2 || k' == 2) && (s.toList == s'.toList))) := rfl
  cases h1 : (k == 2) with
  | true =>
    go_enter Try.func104, Try.ntmps104
    go_wp2
    go_ret
    exact ⟨ret_bool' (by rw [HQ.out, h1]; rfl), B0⟩
  | false =>
    cases h2 : (k' == 2) with
    | true =>
      go_enter Try.func104, Try.ntmps104
      go_wp2
      go_ret
      exact ⟨ret_bool' (by rw [HQ.out, h1, h2]; rfl), B0⟩
    | false =>
      go_enter Try.func104, Try.ntmps104
      go_wp2
      go_ret
      exact ⟨ret_bool' (by rw [HQ.out, h1, h2]; rfl), B0⟩

theorem cell_four_new (w : World) (x y z u : Value) (t : TypeId) : ∀ j v, [x, y, z, u][j]? = some v → (w.alloc (.cells #[x, y, z, u] t)).cell? ((⟨w.heap.size, 0, none⟩ : Addr).add j) = some v := by
  intro j v hj
  match j, hj with
  | 0, hj => simp at hj; subst hj; simp [Addr.add]
  | 1, hj => simp at hj; subst hj; simp [Addr.add]
  | 2, hj => simp at hj; subst hj; simp [Addr.add]
  | 3, hj => simp at hj; subst hj; simp [Addr.add]
/-- The acts among the first k of those whose flags are set. -/
def selL (f : Nat → Bool) (ss : List TH) (k : Nat) : List TH := (ss.take k).filter (fun x => f x.1.toNat)
theorem selL_zero (f : Nat → Bool) (ss : List TH) : selL f ss 0 = [] := by simp [selL]
theorem take_snoc {ss : List TH} {k : Nat} (h : k < ss.length) : ss.take (k + 1) = ss.take k ++ [nthH ss k] := by
  rw [List.take_add_one, List.getElem?_eq_getElem h, nthH_get h]; rfl
theorem selL_step (f : Nat → Bool) {ss : List TH} {k : Nat} (h : k < ss.length) : selL f ss (k + 1) = if f (nthH ss k).1.toNat = true then selL f ss k ++ [nthH ss k] else selL f ss k := by
  unfold selL
  rw [take_snoc h, List.filter_append]
  cases hf : f (nthH ss k).1.toNat <;> simp [hf]
theorem selL_len (f : Nat → Bool) (ss : List TH) (k : Nat) : (selL f ss k).length ≤ k := by
  unfold selL
  have := List.length_filter_le (fun x : TH => f x.1.toNat) (ss.take k)
  have := List.length_take_le k ss
  omega
theorem selL_all (f : Nat → Bool) (ss : List TH) : selL f ss ss.length = ss.filter (fun x => f x.1.toNat) := by unfold selL; rw [List.take_length]

set_option maxRecDepth 100000 in
set_option maxHeartbeats 2000000 in
theorem committedOps_any (a : Option Addr) (cap : Nat) (ss : List TH) (w : World) (h : RowH w a ss) (hl : ss.length ≤ 1048576) (hp : TxsP ss) :
    Calls Try.prog 70 #[.slice a ss.length cap] w fun e w' => ∃ v, e = .returned v ∧ OwnH w' w.heap.size v (selL (comF ss ss.length) ss ss.length) ∧ Below w.heap.size w w' := by
  have HR : Hid (RowH w a ss) := h
  have HP : Hid (TxsP ss) := hp
  have hcall := committedFlags_any a cap ss w h hl hp
  obtain ⟨f, hf⟩ : ∃ f, comF ss ss.length = f := ⟨_, rfl⟩
  rw [hf] at hcall ⊢
  clear h hp hf
  obtain ⟨len, hlen⟩ : ∃ m, ss.length = m := ⟨_, rfl⟩
  have HL : Hid (ss.length = len) := hlen
  rw [hlen] at hl hcall ⊢
  clear hlen
  obtain ⟨i0, hi, hz0, hz1, hz2⟩ := info_parts info107
  go_enter Try.func70, Try.ntmps70
  go_wp2_with fail
  refine hcall.mono ?_
  rintro e w1 ⟨rfl, b1⟩
  clear hcall
  have X0 : Hid (FlB (w1.alloc (.cells (flA f) 93)) w1.heap.size f) := heap_new' _ _ _ rfl
  have B0 : Below w.heap.size w (w1.alloc (.cells (flA f) 93)) := b1.alloc b1.size _
  have Z0 : Hid (w.heap.size ≤ w1.heap.size) := b1.size
  have o0 : OwnH (w1.alloc (.cells (flA f) 93)) (w1.heap.size + 1) (.slice none 0 0) (selL f ss 0) := by rw [selL_zero]; exact OwnH.nil _ _
  simp only [flA] at X0 B0 o0
  clear b1
  go_wp2
  go_loopw [4, 11] (fun v i wr => ∃ k : Nat, k ≤ len ∧ i = .int .i64 k ∧ OwnH wr (w1.heap.size + 1) v (selL f ss k) ∧ Hid (FlB wr w1.heap.size f) ∧ Below w.heap.size w wr) (fun _ i _ => len - (intOf i).toNat)
  case atStart => exact ⟨0, by omega, rfl, o0, X0, B0⟩
  case round =>
    clear o0 B0 X0
    obtain ⟨k, hk, rfl, hO, HF, hbl⟩ := hrel
    have HO : Hid (OwnH wr (w1.heap.size + 1) u4 (selL f ss k)) := hO
    have hlw : w1.heap.size < wr.heap.size := slab_lt HF.out
    clear hO
    by_cases hlt : k < len
    · obtain ⟨b, off, rfl, hlb, ⟨q0, q1, q2, q3⟩, _, _⟩ := (HR.out.below hbl) k (by rw [HL.out]; exact hlt)
      have hltI : (k : Int) < (len : Int) := by omega
      obtain ⟨t0, t5⟩ := HP.out k (by rw [HL.out]; exact hlt)
      have hst := selL_step f (ss := ss) (k := k) (by rw [HL.out]; exact hlt)
      obtain ⟨x, hx⟩ : ∃ x, nthH ss k = x := ⟨_, rfl⟩
      rw [hx] at q0 q1 q2 q3 t0 t5 hst
      clear hx
      obtain ⟨tx, kd, ky, va⟩ := x
      simp only at t0 t5 hst
      obtain ⟨T, rfl⟩ := Int.eq_ofNat_of_zero_le t0
      have hT : T < 6 := by omega
      have hTI : (T : Int) < 6 := by omega
      rw [show (T : Int).toNat = T from rfl] at hst
      obtain ⟨W1, hW1⟩ : ∃ W1, wr.alloc (.cells #[.int .i64 T, .int .i64 kd, .string ky, .string va] 107) = W1 := ⟨_, rfl⟩
      have b1 : Below wr.heap.size wr W1 := hW1 ▸ (Below.refl _ _).alloc (Nat.le_refl _) _
      have yb : W1.heap[wr.heap.size]? = some (.cells #[.int .i64 T, .int .i64 kd, .string ky, .string va] 107 (0, 0)) := hW1 ▸ heap_new' _ _ _ rfl
      have hB1 := below_step hbl (Nat.le_refl _) b1
      have HF1 : Hid (FlB W1 w1.heap.size f) := (b1.block _ hlw).trans HF.out
      have HO1 : Hid (OwnH W1 (w1.heap.size + 1) u4 (selL f ss k)) := HO.out.below b1
      have m0 : W1.cell? ⟨wr.heap.size, 0, none⟩ = some (.int .i64 T) := slab_cell yb
      have m1 : W1.cell? ⟨wr.heap.size, 1, none⟩ = some (.int .i64 kd) := slab_cell yb
      have m2 : W1.cell? ⟨wr.heap.size, 2, none⟩ = some (.string ky) := slab_cell yb
      have m3 : W1.cell? ⟨wr.heap.size, 3, none⟩ = some (.string va) := slab_cell yb
      have mf : W1.cell? ⟨w1.heap.size, T, none⟩ = some (.bool (f T)) := (slab_cell HF1.out).trans (flA_get _ _ hT)
      have hs1 : w1.heap.size + 1 ≤ W1.heap.size := by have := b1.size; omega
      have hll := selL_len f ss k
      clear yb b1 HF HO
      cases hf : f T with
      | true =>
        rw [hf] at mf hst
        have HN : Hid (selL f ss (k + 1) = selL f ss k ++ [((T : Int), kd, ky, va)]) := hst
        obtain ⟨fl, hfl⟩ : ∃ fl, selL f ss k = fl := ⟨_, rfl⟩
        rw [hfl] at HN HO1 hll
        clear hf hst hfl
        go_wp2_with (at_builtin; refine wpList_append_own _ rfl _ _ 23 rfl (w1.heap.size + 1) 107 i0 (.agg #[.int .i64 0, .int .i64 0, .string ⟨#[]⟩, .string ⟨#[]⟩]) 4 48 Try.underlying23 hi hz0 hz1 hz2 rfl (by decide) _ _ _ rfl (HO1.out.alloc _) ⟨W1.heap.size, 0, none⟩ 1 1 [.int .i64 T, .int .i64 kd, .string ky, .string va] rfl rfl ?m0 ?m4 ?m1 ?m2 ?m3 ?_)
        case m4 => exact ⟨rfl, rfl, rfl, rfl⟩
        case m1 => unfold maxLen; omega
        case m2 => omega
        case m3 => first | omega | (simp; omega)
        intro v' w2 ho2 g2 _
        have HO2 : Hid (OwnH w2 (w1.heap.size + 1) v' (selL f ss (k + 1))) := by show OwnH _ _ _ _; rw [HN.out]; exact OwnH.snoc (p := ((T : Int), kd, ky, va)) ho2
        have b2 : Below (w1.heap.size + 1) W1 w2 := own_belowX ((Below.refl _ _).alloc (by omega) _) (by simp; omega) (HO1.out.alloc _) g2
        have HF2 : Hid (FlB w2 w1.heap.size f) := (b2.block _ (by omega)).trans HF1.out
        have B2 : Hid (Below w.heap.size w w2) := hB1.trans (b2.mono (by have := Z0.out; omega))
        clear ho2 g2 b2
        go_wp2
        go_roundw
        case rel => exact ⟨k + 1, by omega, by go_num, HO2.out, HF2, B2.out⟩
        case measure => simp [intOf]; omega
      | false =>
        rw [hf] at mf hst
        have HN : Hid (selL f ss (k + 1) = selL f ss k) := hst
        clear hf hst
        go_wp2
        go_roundw
        case rel => exact ⟨k + 1, by omega, by go_num, by rw [HN.out]; exact HO1.out, HF1, hB1⟩
        case measure => simp [intOf]; omega
    · obtain rfl : k = len := by omega
      go_wp2
      go_ret
      exact ⟨_, rfl, own_mono HO.out (by have := Z0.out; omega), hbl⟩
end Go.Proofs.Ytlcgmifibekegaa
