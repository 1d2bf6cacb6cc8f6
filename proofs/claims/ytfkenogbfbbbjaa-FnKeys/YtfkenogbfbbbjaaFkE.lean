/- Rows that are drawn: the walk; the laws' choice of a number; rows that are the same. -/
import Derived.Test.YtfkenogbfbbbjaaFkD
namespace Go.Proofs.Ytfkenogbfbbbjaa
open Go.RowKit

theorem Src.grown {w0 u u' : World} {b : Nat} {a : Option Addr} {len cap m e q n : Nat} {v : Value} {xs : List Value} (h : Src u b a len cap m) (hb : b < w0.heap.size) (hcode : 0 < len → ∀ x, a = some x → x.block < w0.heap.size) (ho : u.ownsRow w0.heap.size e q v n xs) (hg : u.grownBy u' v.ownBlock) : Src u' b a len cap m := by
  have hlt := h.lt
  have far : ∀ k, k < w0.heap.size → k < u.heap.size → u'.heap[k]? = u.heap[k]? := fun k hk hku => hg.block k hku (fun e => by
    have := own_ge ho k e.symm
    omega)
  obtain ⟨k, seed, hk, h1, h2, h3, h4⟩ := h.ks
  have hB := far b hb hlt
  refine ⟨(World.cell?_of_block (a := ⟨b, 0, none⟩) hB).trans h.c0, ⟨k, seed, hk, (World.cell?_of_block (a := ⟨b, 1, none⟩) hB).trans h1, (World.cell?_of_block (a := ⟨b, 2, none⟩) hB).trans h2, h3, h4⟩, (World.frozen?_of_block (a := ⟨b, 1, none⟩) hB).trans h.f1, (World.frozen?_of_block (a := ⟨b, 2, none⟩) hB).trans h.f2, h.lenle, fun i hi => ?_⟩
  obtain ⟨cb, off, c, e, hne, hl, h0, h5, hc⟩ := h.code i hi
  have hcb := hcode (by omega) _ e
  exact ⟨cb, off, c, e, hne, Nat.lt_of_lt_of_le hl hg.size, h0, h5, (World.cell?_of_block (a := ⟨cb, off + i, none⟩) (far cb hcb hl)).trans hc⟩
/-- Right values with short texts. -/
def Short (vs : List V3) : Prop := ∀ x ∈ vs, Right x ∧ x.2.2.size ≤ 8
theorem Short.snoc {vs : List V3} {k n : Int} {t : ByteArray} (h : Short vs) (h1 : okV k n t = true) (h2 : In64 n) (h3 : t.size ≤ 8) : Short (vs ++ [((k, n, t) : V3)]) := fun x hx => by
  rcases List.mem_append.1 hx with hx | hx
  · exact h x hx
  · simp at hx; subst hx; exact ⟨⟨h1, h2⟩, h3⟩

set_option maxRecDepth 100000 in
set_option maxHeartbeats 4000000 in
theorem values_any {w : World} {b : Nat} {a : Option Addr} {len cap : Nat} (h : Src w b a len cap 0) (hcode : 0 < len → ∀ x, a = some x → x.block < w.heap.size) :
    Calls Try.prog 52 #[.pointer (some ⟨b, 0, none⟩)] w fun e w' => ∃ v vs, e = .returned v ∧ w'.ownsRow w.heap.size 24 3 v vs.length (cells3 vs) ∧ vs.length ≤ 4 ∧ Hid (Short vs) ∧ But b w w' := by
  have hl := h.lt
  have HS : Hid (Src w b a len cap 0) := h
  have HC : Hid (0 < len → ∀ x, a = some x → x.block < w.heap.size) := hcode
  clear h hcode
  obtain ⟨i0, hi, hz0', hz1, hz2⟩ := info_parts info24
  have hA0 : But b w (w.alloc (.cells #[] 24)) := but_alloc (But.refl _ _) _
  have HO0 : Hid ((w.alloc (.cells #[] 24)).ownsRow w.heap.size 24 3 (.slice (some ⟨w.heap.size, 0, none⟩) 0 0) 0 []) := own_none (Nat.le_refl _)
  go_enter Try.func52, Try.ntmps52
  go_wp2_with fail
  refine (next_any 5 (HS.out.below ((Below.refl _ _).alloc (Nat.le_refl _) _)) (by omega) (by omega) (by omega)).mono ?_
  rintro e w1 ⟨r, rfl, r0, r1, hs1, hb1⟩
  have hB1 := hA0.trans hb1
  have hO1 := own_but HO0.out hb1 hl
  clear HO0 hA0 hb1
  go_wp2
  go_loopw [3, 4] (fun out k wr => ∃ (vs : List V3) (kk : Int), k = .int .i64 kk ∧ 0 ≤ kk ∧ (vs.length : Int) + kk ≤ 4 ∧ Hid (Short vs) ∧ Hid (Src wr b a len cap (1 + 5 * vs.length)) ∧ wr.ownsRow w.heap.size 24 3 out vs.length (cells3 vs) ∧ Hid (But b w wr)) (fun _ k _ => (intOf k).toNat)
  case atStart => exact ⟨[], r, rfl, r0, by simp; omega, fun x hx => by simp at hx, hs1, hO1, hB1⟩
  case round =>
    clear hO1 hs1 hB1
    obtain ⟨vs, kk, rfl, hk0, hk1, HSh, HSr, hown, HBu⟩ := hrel
    have HOw : Hid (wr.ownsRow w.heap.size 24 3 u3 vs.length (cells3 vs)) := hown
    by_cases hgo : 0 < kk
    · have hsz : w.heap.size ≤ wr.heap.size := HBu.out.size
      clear hown
      go_wp2_with fail
      refine (value_in HSr.out (by omega) (fun hl' x e => Nat.lt_of_lt_of_le (HC.out hl' x e) hsz)).mono ?_
      rintro e w2 ⟨k0, n0, t0, rfl, hok, h64, ht, hs2, hb2⟩
      have HN : Hid (Short (vs ++ [((k0, n0, t0) : V3)])) := HSh.out.snoc hok h64 ht
      have hB2 := HBu.out.trans hb2
      have hO2 := own_but HOw.out hb2 hl
      have hB3 : But b w (w2.alloc (.cells #[.int .i64 k0, .int .i64 n0, .string t0] 24)) := but_alloc hB2 _
      have hown3 : (w2.alloc (.cells #[.int .i64 k0, .int .i64 n0, .string t0] 24)).ownsRow w.heap.size 24 3 u3 vs.length (cells3 vs) := own_belowN hO2 ((Below.refl _ _).alloc (Nat.le_refl _) _)
      have HS3 : Hid (Src (w2.alloc (.cells #[.int .i64 k0, .int .i64 n0, .string t0] 24)) b a len cap (1 + 5 * vs.length + 5)) := hs2.below ((Below.refl _ _).alloc (Nat.le_refl _) _)
      clear hok h64 ht hs2 hb2 hB2 hO2
      go_wp2_with (at_builtin; refine wpList_append_own _ rfl (.tmp 12) (.tmp 15) 29 rfl w.heap.size 24 i0 (.agg #[.int .i64 0, .int .i64 0, .string ⟨#[]⟩]) 3 32 Try.underlying29 hi hz0' hz1 hz2 rfl (by decide) _ vs.length (cells3 vs) rfl hown3 ⟨w2.heap.size, 0, none⟩ 1 1 [.int .i64 k0, .int .i64 n0, .string t0] rfl rfl ?c1 ?c2 ?c3 ?c4 ?c5 ?_)
      case c1 => exact news3 rfl _ _ _
      case c2 => intro u' hu'; simp at hu'; rcases hu' with rfl | rfl | rfl <;> rfl
      case c3 => unfold maxLen; omega
      case c4 => omega
      case c5 => exact hB3.size
      intro v' w3 hown6 hgr _
      have hB6 := but_grown hB3 hown3 hgr
      have HO6 : Hid (w3.ownsRow w.heap.size 24 3 v' (vs ++ [((k0, n0, t0) : V3)]).length (cells3 (vs ++ [((k0, n0, t0) : V3)]))) := by
        show World.ownsRow _ _ _ _ _ _ _
        rw [cells3_snoc]
        simpa using hown6
      have HS6 : Hid (Src w3 b a len cap (1 + 5 * (vs ++ [((k0, n0, t0) : V3)]).length)) := by
        have := HS3.out.grown hl HC.out hown3 hgr
        have e : 1 + 5 * (vs ++ [((k0, n0, t0) : V3)]).length = 1 + 5 * vs.length + 5 := by rw [List.length_append]; simp only [List.length_cons, List.length_nil]; omega
        rw [e]
        exact this
      clear hown6 hgr hown3 hB3 HS3
      go_wp2
      exact ⟨⟨vs ++ [((k0, n0, t0) : V3)], kk - 1, rfl, by omega, by simp; omega, HN, HS6, HO6.out, hB6⟩, by simp [intOf]; omega⟩
    · have hB := HBu.out
      have hvl : vs.length ≤ 4 := by omega
      clear hown
      go_wp2
      go_ret
      exact ⟨_, rfl, vs, HOw.out, hvl, HSh, hB⟩

set_option maxRecDepth 100000 in
theorem rowOf_any {w : World} {a : Option Addr} {len cap : Nat} (h : Code w a len) (hlen : len ≤ 4194304) :
    Calls Try.prog 17 #[.slice a len cap] w fun e w' => ∃ v vs, e = .returned v ∧ w'.ownsRow w.heap.size 24 3 v vs.length (cells3 vs) ∧ vs.length ≤ 4 ∧ Hid (Short vs) ∧ Below w.heap.size w w' := by
  have HC : Hid (Code w a len) := h
  have HL : Hid (0 < len → ∀ x, a = some x → x.block < w.heap.size) := h.lt
  clear h
  go_enter Try.func17, Try.ntmps17
  go_wp2_with fail
  refine (source_any HC.out hlen).mono ?_
  rintro e w1 ⟨rfl, hs, hb⟩
  have HS1 : Hid (Src w1 w.heap.size a len cap 0) := hs
  clear hs
  go_wp2_with fail
  refine (values_any HS1.out (fun hl x e => Nat.lt_of_lt_of_le (HL.out hl x e) hb.size)).mono ?_
  rintro e w2 ⟨v, vs, rfl, hown, hvl, HSh, hbu⟩
  have HO : Hid (w2.ownsRow w.heap.size 24 3 v vs.length (cells3 vs)) := own_mono hown hb.size
  have hB : Below w.heap.size w w2 := hbu.below hb (Nat.le_refl _) hb.size
  clear hown hbu hb
  go_wp2
  go_ret
  first | exact ⟨_, rfl, vs, HO.out, hvl, HSh, hB⟩ | exact ⟨_, vs, rfl, HO.out, hvl, HSh, hB⟩

set_option maxRecDepth 100000 in
set_option maxHeartbeats 2000000 in
theorem sameRow_any (a1 a2 : Option Addr) (c1 c2 : Nat) (vs : List V3) (w : World) (h1 : RowV w a1 vs) (h2 : RowV w a2 vs) (hlen : vs.length ≤ 8) :
    Calls Try.prog 23 #[.slice a1 vs.length c1, .slice a2 vs.length c2] w fun e w' => e = .returned (.bool true) ∧ Below w.heap.size w w' := by
  have H1 : Hid (RowV w a1 vs) := h1
  have H2 : Hid (RowV w a2 vs) := h2
  clear h1 h2
  generalize hL : vs.length = len at *
  have HL : Hid (vs.length = len) := hL
  clear hL
  go_enter Try.func23, Try.ntmps23
  go_wp2
  go_loopw [5] (fun i wr => ∃ k : Nat, k ≤ len ∧ i = .int .i64 k ∧ Below w.heap.size w wr) (fun i _ => len - (intOf i).toNat)
  case atStart => exact ⟨0, by omega, rfl, Below.refl _ _⟩
  case round =>
    obtain ⟨k, hk, rfl, hbl⟩ := hrel
    by_cases hlt : k < len
    · obtain ⟨b1, o1, rfl, hlb1, ⟨x0, x1, x2⟩, _⟩ := (H1.out.below hbl) k (by rw [HL.out]; exact hlt)
      obtain ⟨b2, o2, rfl, hlb2, ⟨y0, y1, y2⟩, _⟩ := (H2.out.below hbl) k (by rw [HL.out]; exact hlt)
      generalize nthV vs k = v at *
      obtain ⟨k0, n0, t0⟩ := v
      simp only at x0 x1 x2 y0 y1 y2
      have hltI : (k : Int) < (len : Int) := by omega
      go_wp2_with fail
      go_quiet (fail)
      go_wp2
      go_roundw
      case rel => exact ⟨k + 1, by omega, by go_num, below_drewN hbl _⟩
      case measure => simp [intOf]; omega
    · go_wp2
      go_ret
      exact ⟨rfl, hbl⟩

set_option maxRecDepth 100000 in
set_option maxHeartbeats 2000000 in
theorem at_any {w : World} {a : Option Addr} {len cap : Nat} (h : Code w a len) (hlen : len ≤ 1048576) :
    Calls Try.prog 18 #[.slice a len cap, .int .i64 0, .int .i64 3] w fun e w' => ∃ r : Int, e = .returned (.int .i64 r) ∧ Below w.heap.size w w' := by
  by_cases h0 : len = 0
  · subst h0
    go_enter Try.func18, Try.ntmps18
    go_wp2
    go_ret
    exact ⟨_, rfl, Below.refl _ _⟩
  obtain ⟨cb, off, c, rfl, hlt, c0, c5, hc⟩ := h 0 (by omega)
  have hlI : ((len : Int) == 0) = false := beq_eq_false_iff_ne.2 (by omega)
  have hl0 : (0 : Int) < (len : Int) := by omega
  rw [Nat.add_zero] at hc
  have hne : ¬ (len : Int) = 0 := by omega
  by_cases h1 : len = 1
  · subst h1
    go_enter Try.func18, Try.ntmps18
    go_wp2_with fail
    go_quiet (fail)
    go_wp2
    go_ret
    exact ⟨_, rfl, below_drewN (Below.refl _ _) _⟩
  · obtain ⟨cb', off', d, e', hlt', d0, d5, hd⟩ := h 1 (by omega)
    cases e'
    have hm1 : Int.tmod 1 (len : Int) = 1 := by rw [Int.tmod_eq_emod_of_nonneg (by omega)]; exact Int.emod_eq_of_lt (by omega) (by omega)
    have hm0 : Int.tmod 0 (len : Int) = 0 := Int.zero_tmod _
    have hq0 : Int.tdiv 0 (len : Int) = 0 := Int.zero_tdiv _
    have hl1 : (1 : Int) < (len : Int) := by omega
    go_enter Try.func18, Try.ntmps18
    go_wp2_with fail
    go_quiet (fail)
    go_wp2
    go_ret
    exact ⟨_, rfl, below_drewN (Below.refl _ _) _⟩
end Go.Proofs.Ytfkenogbfbbbjaa
