/- l04Step: an unpin (stage 4). -/
import Derived.Test.YtaklphoplfofbaaStV
namespace Go.Proofs.Ytaklphoplfofbaa
open Go.RowKit

theorem wrap_small {x : Int} (h : 0 ≤ x ∧ x ≤ 1000000) : IntKind.i64.wrap x = x := by
  simp [IntKind.wrap, IntKind.bits, IntKind.signed]; omega
theorem read_take {w : World} {a : Option Addr} {n c k : Nat} {l : List Int} (h : ReadI w (.slice a n c) l) (hk : k ≤ l.length) : ReadI w (.slice a k c) (l.take k) := by
  rcases h with ⟨e, rfl⟩ | ⟨p, c', e, hc, r⟩
  · cases e
    obtain rfl : k = 0 := by simpa using hk
    exact .inl ⟨rfl, rfl⟩
  · injection e with e1 e2 e3
    subst e1 e3
    refine .inr ⟨p, c, by rw [List.length_take, Nat.min_eq_left hk], by rw [List.length_take]; omega, fun i hi => ?_⟩
    rw [List.length_take] at hi
    obtain ⟨b, off, e, hb, hcell⟩ := r i (by omega)
    refine ⟨b, off, e, hb, hcell.trans ?_⟩
    unfold nthI
    rw [List.getD_eq_getElem?_getD, List.getD_eq_getElem?_getD, List.getElem?_take_of_lt (by omega)]
/-- The rest of a list behind place k is appended to one of the call's own. -/
theorem app_rest (v : Value) (l qs : List Int) (w : World) (B : Nat) (h : OwnI w B v l) (hl : l.length ≤ 64) (bq oq y c3 k : Nat) (hr : RowI w (some ⟨bq, oq, none⟩) qs) (hy : qs.length = y) (hk : k < y) (hy2 : y ≤ 64) (hc : y ≤ c3) (hB : B ≤ w.heap.size) (A : Option Addr) (hA : A = if c3 = k + 1 then some ⟨bq, oq, none⟩ else some ⟨bq, oq + (k + 1), none⟩) (cc : Nat) :
    ∃ v' w', (Builtin.append_ #[26, 26] 26 #[v, .slice A (y - (k + 1)) cc]).run Try.prog w = .ok v' w' ∧ OwnI w' B v' (l ++ qs.drop (k + 1)) ∧ w.grownBy w' v.ownBlock := by
  obtain ⟨i0, hi, hz0, hz1, hz2⟩ := info_parts info3
  have hlen : ((qs.drop (k + 1)).map (Value.int .i64)).length = (y - (k + 1)) * 1 := by simp [hy]
  obtain ⟨A', hA', hnews⟩ : ∃ A' : Addr, A = some A' ∧ ∀ j u, ((qs.drop (k + 1)).map (Value.int .i64))[j]? = some u → w.cell? (A'.add j) = some u := by
    have key : ∀ j u, ((qs.drop (k + 1)).map (Value.int .i64))[j]? = some u → w.cell? ⟨bq, oq + (k + 1) + j, none⟩ = some u := fun j u hu => by
      have hj : j < y - (k + 1) := by
        rcases Nat.lt_or_ge j ((qs.drop (k + 1)).map (Value.int .i64)).length with h' | h'
        · rw [hlen] at h'; omega
        · rw [List.getElem?_eq_none h'] at hu; cases hu
      rw [List.getElem?_map, List.getElem?_drop, List.getElem?_eq_getElem (by omega)] at hu
      cases hu
      obtain ⟨b, off, e, _, hcell⟩ := hr (k + 1 + j) (by omega)
      cases e
      rw [Nat.add_assoc, hcell, nthI_get (by omega)]
    by_cases h : c3 = k + 1
    · rw [if_pos h] at hA
      refine ⟨_, hA, fun j u hu => ?_⟩
      have : ((qs.drop (k + 1)).map (Value.int .i64)).length = 0 := by rw [hlen]; omega
      rw [List.length_eq_zero_iff.1 this] at hu
      simp at hu
    · rw [if_neg h] at hA
      refine ⟨_, hA, fun j u hu => ?_⟩
      rw [add_plain]
      exact key j u hu
  subst hA'
  obtain ⟨v', w', hrun, r1, r2, _⟩ := run_append_own (P := Try.prog) w B 26 26 3 i0 (.int .i64 0) 1 8 Try.underlying26 hi hz0 hz1 hz2 rfl (by decide) v l.length (l.map (Value.int .i64)) h A' (y - (k + 1)) cc ((qs.drop (k + 1)).map (Value.int .i64)) hlen hnews (ones_I _) (by unfold maxLen; omega) (by omega) hB
  refine ⟨v', w', hrun, ownI_of (n := l.length + (y - (k + 1))) ?_, r2⟩
  rw [List.map_append]
  exact r1

set_option maxRecDepth 100000 in
set_option maxHeartbeats 16000000 in
theorem stepS_unpin (t : Nat) (e : Int) (k : Nat) (v1 v2 v3 : Value) (ss : List Int) (ps : List P2) (qs : List Int) (w : World) (h1 : ReadI w v1 ss) (h2 : ReadP w v2 ps) (h3 : ReadI w v3 qs) (l1 : ss.length ≤ 1048576) (l2 : ps.length ≤ 1048576) (l3 : qs.length ≤ 1048576) (hk : k < qs.length) (hq2 : qs.length ≤ 64) (he : 0 ≤ e) (he2 : e ≤ 1000000) :
    Calls Try.prog 45 #[SV t e v1 v2 v3, .agg #[.int .i64 3, .int .i64 (k : Int)]] w (QS w v1 v2 v3 ss ps qs t ⟨e, ss, relP e (qs.eraseIdx k) ps, qs.eraseIdx k, 0, []⟩) := by
  have HQ2 : Hid (qs.length ≤ 64) := hq2
  have HKQ : Hid (k < qs.length) := hk
  have HL1 : Hid (ss.length ≤ 1048576) := l1
  have HL2 : Hid (ps.length ≤ 1048576) := l2
  have HL3 : Hid (qs.length ≤ 1048576) := l3
  have HR1 : Hid (ReadI w v1 ss) := h1
  have HR2 : Hid (ReadP w v2 ps) := h2
  have HR3 : Hid (ReadI w v3 qs) := h3
  obtain ⟨a1, c1, rfl, _⟩ := h1.row
  obtain ⟨a2, c2, rfl, _⟩ := h2.row
  obtain ⟨a3, c3, rfl, _⟩ := h3.row
  clear h1 h2 h3
  obtain ⟨x, hx⟩ : ∃ x, ss.length = x := ⟨_, rfl⟩
  obtain ⟨z, hz⟩ : ∃ z, ps.length = z := ⟨_, rfl⟩
  obtain ⟨y, hy⟩ : ∃ y, qs.length = y := ⟨_, rfl⟩
  have HX : Hid (ss.length = x) := hx
  have HZ : Hid (ps.length = z) := hz
  have HY : Hid (qs.length = y) := hy
  rw [hx] at HR1 ⊢
  rw [hz] at HR2 ⊢
  rw [hy] at HR3 ⊢
  try rw [hx] at l1
  try rw [hz] at l2
  try rw [hy] at l3
  rw [hy] at hk hq2
  clear hx hy hz
  have hcap : y ≤ c3 := by
    rcases HR3.out with ⟨h, _⟩ | ⟨p, c, h, hc, _⟩
    · injection h with h1 h2 h3; omega
    · injection h with _ h2 h3; rw [HY.out] at hc; omega
  obtain ⟨a3', c3', e3, r3⟩ := HR3.out.row
  injection e3 with e3a e3b e3c
  subst e3a e3c
  obtain ⟨bq, oq, rfl, hlq, _⟩ := r3 k HKQ.out
  have HRW : Hid (RowI w (some ⟨bq, oq, none⟩) qs) := r3
  clear r3 e3b
  obtain ⟨W0, hW0⟩ : ∃ W0, W6 w t e (.slice a1 x c1) (.slice a2 z c2) (.slice (some ⟨bq, oq, none⟩) y c3) 3 (k : Int) = W0 := ⟨_, rfl⟩
  have B0 : Below w.heap.size w W0 := hW0 ▸ below_W6 w t e _ _ _ _ _
  have z0 : W0.heap.size = w.heap.size + 6 := hW0 ▸ W6_size w t e _ _ _ _ _
  have xbW0 : W0.heap[w.heap.size]? = some (.cells #[.int .i64 t, .int .i64 e, .slice a1 x c1, .slice a2 z c2, .slice (some ⟨bq, oq, none⟩) y c3] 29 (0, 0)) := hW0 ▸ W6_b w t e _ _ _ _ _
  have xaW0 : W0.heap[w.heap.size + 1]? = some (.cells #[.int .i64 3, .int .i64 (k : Int)] 39 (0, 0)) := hW0 ▸ W6_a w t e _ _ _ _ _
  have xrW0 : W0.heap[w.heap.size + 1 + 1]? = some (.cells #[.int .i64 0, .int .i64 0, .slice none 0 0, .slice none 0 0, .slice none 0 0] 29 (0, 0)) := hW0 ▸ W6_r w t e _ _ _ _ _
  have xqW0 : W0.heap[w.heap.size + 1 + 1 + 1]? = some (.cells #[.int .i64 0, .slice none 0 0] 37 (0, 0)) := hW0 ▸ W6_q w t e _ _ _ _ _
  have xeW0 : W0.heap[w.heap.size + 1 + 1 + 1 + 1]? = some (.cells #[] 3 (0, 0)) := hW0 ▸ W6_e w t e _ _ _ _ _
  have xpW0 : W0.heap[w.heap.size + 1 + 1 + 1 + 1 + 1]? = some (.cells #[.int .i64 0, .slice (some ⟨w.heap.size + 1 + 1 + 1 + 1, 0, none⟩) 0 0] 37 (0, 0)) := hW0 ▸ W6_p w t e _ _ _ _ _
  have cb0W0 : W0.cell? ⟨w.heap.size, 0, none⟩ = some (.int .i64 t) := (by simp [World.cell?, xbW0])
  have cb1W0 : W0.cell? ⟨w.heap.size, 1, none⟩ = some (.int .i64 e) := (by simp [World.cell?, xbW0])
  have cb2W0 : W0.cell? ⟨w.heap.size, 2, none⟩ = some (.slice a1 x c1) := (by simp [World.cell?, xbW0])
  have cb3W0 : W0.cell? ⟨w.heap.size, 3, none⟩ = some (.slice a2 z c2) := (by simp [World.cell?, xbW0])
  have cb4W0 : W0.cell? ⟨w.heap.size, 4, none⟩ = some (.slice (some ⟨bq, oq, none⟩) y c3) := (by simp [World.cell?, xbW0])
  have fbW0 : ∀ o, W0.frozen? ⟨w.heap.size, o, none⟩ = false := fun o => (by simp [World.frozen?, xbW0])
  have ca0W0 : W0.cell? ⟨w.heap.size + 1, 0, none⟩ = some (.int .i64 3) := (by simp [World.cell?, xaW0])
  have ca1W0 : W0.cell? ⟨w.heap.size + 1, 1, none⟩ = some (.int .i64 (k : Int)) := (by simp [World.cell?, xaW0])
  have faW0 : ∀ o, W0.frozen? ⟨w.heap.size + 1, o, none⟩ = false := fun o => (by simp [World.frozen?, xaW0])
  have cr0W0 : W0.cell? ⟨w.heap.size + 1 + 1, 0, none⟩ = some (.int .i64 0) := (by simp [World.cell?, xrW0])
  have cr1W0 : W0.cell? ⟨w.heap.size + 1 + 1, 1, none⟩ = some (.int .i64 0) := (by simp [World.cell?, xrW0])
  have cr2W0 : W0.cell? ⟨w.heap.size + 1 + 1, 2, none⟩ = some (.slice none 0 0) := (by simp [World.cell?, xrW0])
  have cr3W0 : W0.cell? ⟨w.heap.size + 1 + 1, 3, none⟩ = some (.slice none 0 0) := (by simp [World.cell?, xrW0])
  have cr4W0 : W0.cell? ⟨w.heap.size + 1 + 1, 4, none⟩ = some (.slice none 0 0) := (by simp [World.cell?, xrW0])
  have frW0 : ∀ o, W0.frozen? ⟨w.heap.size + 1 + 1, o, none⟩ = false := fun o => (by simp [World.frozen?, xrW0])
  have cq0W0 : W0.cell? ⟨w.heap.size + 1 + 1 + 1, 0, none⟩ = some (.int .i64 0) := (by simp [World.cell?, xqW0])
  have cq1W0 : W0.cell? ⟨w.heap.size + 1 + 1 + 1, 1, none⟩ = some (.slice none 0 0) := (by simp [World.cell?, xqW0])
  have fqW0 : ∀ o, W0.frozen? ⟨w.heap.size + 1 + 1 + 1, o, none⟩ = false := fun o => (by simp [World.frozen?, xqW0])
  have cp0W0 : W0.cell? ⟨w.heap.size + 1 + 1 + 1 + 1 + 1, 0, none⟩ = some (.int .i64 0) := (by simp [World.cell?, xpW0])
  have cp1W0 : W0.cell? ⟨w.heap.size + 1 + 1 + 1 + 1 + 1, 1, none⟩ = some (.slice (some ⟨w.heap.size + 1 + 1 + 1 + 1, 0, none⟩) 0 0) := (by simp [World.cell?, xpW0])
  have fpW0 : ∀ o, W0.frozen? ⟨w.heap.size + 1 + 1 + 1 + 1 + 1, o, none⟩ = false := fun o => (by simp [World.frozen?, xpW0])
  have XB : Hid (W0.heap[w.heap.size]? = some (.cells #[.int .i64 t, .int .i64 e, .slice a1 x c1, .slice a2 z c2, .slice (some ⟨bq, oq, none⟩) y c3] 29 (0, 0))) := xbW0
  have XA : Hid (W0.heap[w.heap.size + 1]? = some (.cells #[.int .i64 3, .int .i64 (k : Int)] 39 (0, 0))) := xaW0
  have XR : Hid (W0.heap[w.heap.size + 1 + 1]? = some (.cells #[.int .i64 0, .int .i64 0, .slice none 0 0, .slice none 0 0, .slice none 0 0] 29 (0, 0))) := xrW0
  have XQ : Hid (W0.heap[w.heap.size + 1 + 1 + 1]? = some (.cells #[.int .i64 0, .slice none 0 0] 37 (0, 0))) := xqW0
  have XE : Hid (W0.heap[w.heap.size + 1 + 1 + 1 + 1]? = some (.cells #[] 3 (0, 0))) := xeW0
  have XP : Hid (W0.heap[w.heap.size + 1 + 1 + 1 + 1 + 1]? = some (.cells #[.int .i64 0, .slice (some ⟨w.heap.size + 1 + 1 + 1 + 1, 0, none⟩) 0 0] 37 (0, 0))) := xpW0
  clear xbW0 xaW0 xrW0 xqW0 xeW0 xpW0
  have HI : Hid (inB (k : Int) 0 ((y : Int) - 1) = true) := decide_eq_true (by omega)
  go_enter Try.func45, Try.ntmps45
  go_wp2_with fail
  refine (l01In_any k 0 _ W0).mono ?_
  rintro r w1' ⟨rfl, hq⟩
  obtain rfl := hq.symm
  rw [HI.out]
  go_wp2_with fail
  refine (l04Own_any t e _ _ _ ss ps qs W0 (HR1.out.below B0) (HR2.out.below B0) (HR3.out.below B0) HL1.out HL2.out HL3.out).mono ?_
  rintro r w1 ⟨u1, u2, u3, rfl, g1, g2, g3, sp, b1⟩
  obtain ⟨b1', n1, d1, rfl⟩ := own_shr g1
  obtain ⟨b2', n2, d2, rfl⟩ := own_shr g2
  obtain ⟨b3, n3, d3, rfl⟩ := own_shr g3
  have s1 : W0.heap.size ≤ w1.heap.size := b1.size
  have B1 : Below w.heap.size w w1 := B0.trans (b1.mono B0.size)
  clear cb0W0 cb1W0 cb2W0 cb3W0 cb4W0 fbW0 ca0W0 ca1W0 faW0 cr0W0 cr1W0 cr2W0 cr3W0 cr4W0 frW0 cq0W0 cq1W0 fqW0 cp0W0 cp1W0 fpW0
  obtain ⟨W2, hW2⟩ : ∃ W2, (w1.alloc (.cells #[.int .i64 t, .int .i64 e, .slice b1' n1 d1, .slice b2' n2 d2, .slice b3 n3 d3] 29)) = W2 := ⟨_, rfl⟩
  have z2 : W2.heap.size = w1.heap.size + 1 := by rw [← hW2]; simp
  have b2 : Below w1.heap.size w1 W2 := hW2 ▸ (Below.refl _ _).alloc (Nat.le_refl _) _
  have x2 : W2.heap[w1.heap.size]? = some (.cells #[.int .i64 t, .int .i64 e, .slice b1' n1 d1, .slice b2' n2 d2, .slice b3 n3 d3] 29 (0, 0)) := hW2 ▸ heap_new' _ _ _ rfl
  obtain ⟨WA, hWA⟩ : ∃ WA, (W2.drew.alloc (.cells #[] 3)) = WA := ⟨_, rfl⟩
  have zA : WA.heap.size = w1.heap.size + 2 := by rw [← hWA]; show (W2.heap.push _).size = _; simp; omega
  have bA : Below W2.heap.size W2 WA := hWA ▸ below_draw.alloc (Nat.le_refl _) _
  have xE : WA.heap[w1.heap.size + 1]? = some (.cells #[] 3 (0, 0)) := hWA ▸ heap_new' _ _ _ (by show _ = W2.heap.size; omega)
  have B2 : Below w.heap.size w W2 := B1.trans (b2.mono B1.size)
  have BA : Below w.heap.size w WA := B2.trans (bA.mono B2.size)
  obtain ⟨v5, w5, hr5, ho5, hg5, hw5⟩ := app_I (.slice (some ⟨bq, oq, none⟩) k c3) (qs.take k) WA (read_take (HR3.out.below BA) (Nat.le_of_lt HKQ.out)) (by rw [List.length_take]; have := HQ2.out; omega) (w1.heap.size + 1) xE (w1.heap.size + 1) (Nat.le_refl _)
  obtain ⟨q5, p5, r5, rfl⟩ := own_shr ho5
  have s5 : WA.heap.size ≤ w5.heap.size := hg5.size
  have B5 : Below w.heap.size w w5 := BA.grown hg5 (by omega) (fun q hq => by cases hq; omega)
  obtain ⟨A', hAe⟩ : ∃ A' : Option Addr, (if c3 = k + 1 then some (⟨bq, oq, none⟩ : Addr) else some ⟨bq, oq + (k + 1), none⟩) = A' := ⟨_, rfl⟩
  obtain ⟨v6, w6, hr6, ho6, hg6⟩ := app_rest (.slice q5 p5 r5) (qs.take k) qs w5 (w1.heap.size + 1) ho5 (by rw [List.length_take]; have := HQ2.out; omega) bq oq y c3 k (HRW.out.below B5) HY.out hk hq2 hcap (by omega) A' hAe.symm (c3 - (k + 1))
  obtain ⟨q6, p6, r6, rfl⟩ := own_shr ho6
  have s6 : w5.heap.size ≤ w6.heap.size := hg6.size
  have o5l : ∀ j, Value.ownBlock (.slice q5 p5 r5) = some j → w1.heap.size + 1 ≤ j := fun j hj => (own_lt ho5 hj).1
  have k6 : ∀ g, g < w1.heap.size + 1 → w6.heap[g]? = W2.heap[g]? := fun g hg => (hg6.block g (by omega) (fun hq => by have := o5l g hq.symm; omega)).trans ((hg5.block g (by omega) (by intro hq; cases hq; omega)).trans (bA.block g (by omega)))
  have x6 : w6.heap[w1.heap.size]? = some (.cells #[.int .i64 t, .int .i64 e, .slice b1' n1 d1, .slice b2' n2 d2, .slice b3 n3 d3] 29 (0, 0)) := (k6 _ (by omega)).trans x2
  have kW : ∀ g, g < W0.heap.size → w6.heap[g]? = W0.heap[g]? := fun g hg => (k6 g (by omega)).trans ((b2.block g (by omega)).trans (b1.block g hg))
  have B6 : Below w.heap.size w w6 := B5.grown hg6 (by omega) (fun q hq => by have := o5l q hq; omega)
  obtain ⟨W7, hW7⟩ : ∃ W7, w6.setCell ⟨w1.heap.size, 4, none⟩ (.slice q6 p6 r6) = W7 := ⟨_, rfl⟩
  have h7 : ∀ g, g ≠ w1.heap.size → W7.heap[g]? = w6.heap[g]? := fun g hg => by rw [← hW7]; exact Below.heap_setCell _ _ _ _ hg
  have z7 : W7.heap.size = w6.heap.size := by rw [← hW7]; simp [World.setCell]
  have x7 : W7.heap[w1.heap.size]? = some (.cells #[.int .i64 t, .int .i64 e, .slice b1' n1 d1, .slice b2' n2 d2, .slice q6 p6 r6] 29 (0, 0)) := by rw [← hW7]; exact slab_set x6 _
  have B7' : Below w.heap.size w W7 := hW7 ▸ B6.setCell (p := ⟨w1.heap.size, 4, none⟩) (by show _ ≤ w1.heap.size; omega) _
  have xp7 : W7.heap[w.heap.size + 1 + 1 + 1 + 1 + 1]? = some (.cells #[.int .i64 0, .slice (some ⟨w.heap.size + 1 + 1 + 1 + 1, 0, none⟩) 0 0] 37 (0, 0)) := (h7 _ (by omega)).trans ((kW _ (by omega)).trans XP.out)
  have xe7 : W7.heap[w.heap.size + 1 + 1 + 1 + 1]? = some (.cells #[] 3 (0, 0)) := (h7 _ (by omega)).trans ((kW _ (by omega)).trans XE.out)
  have xr7 : W7.heap[w.heap.size + 1 + 1]? = some (.cells #[.int .i64 0, .int .i64 0, .slice none 0 0, .slice none 0 0, .slice none 0 0] 29 (0, 0)) := (h7 _ (by omega)).trans ((kW _ (by omega)).trans XR.out)
  have xq7 : W7.heap[w.heap.size + 1 + 1 + 1]? = some (.cells #[.int .i64 0, .slice none 0 0] 37 (0, 0)) := (h7 _ (by omega)).trans ((kW _ (by omega)).trans XQ.out)
  have F1 : Hid (OwnI W7 W0.heap.size (.slice b1' n1 d1) ss) := own_at g1 (fun j hj => by have := own_lt g1 hj; exact (h7 _ (by omega)).trans ((k6 _ (by omega)).trans (b2.block _ (by omega))))
  have F2 : Hid (OwnP W7 W0.heap.size (.slice b2' n2 d2) ps) := own_at g2 (fun j hj => by have := own_lt g2 hj; exact (h7 _ (by omega)).trans ((k6 _ (by omega)).trans (b2.block _ (by omega))))
  have F6 : Hid (OwnI W7 (w1.heap.size + 1) (.slice q6 p6 r6) (qs.eraseIdx k)) := by
    show OwnI _ _ _ _
    rw [List.eraseIdx_eq_take_drop_succ]
    exact own_keep ho6 (fun g hg _ => h7 g (by omega))
  -- what the region reads
  have hxA : ∀ {wz : World}, (∀ g, g < W0.heap.size → wz.heap[g]? = W0.heap[g]?) → (fun w' => Box5 (w.heap.size) t e (.slice a1 x c1) (.slice a2 z c2) (.slice (some ⟨bq, oq, none⟩) y c3) w' ∧ w'.cell? ⟨w.heap.size + 1, 1, none⟩ = some (.int .i64 (k : Int))) wz := fun hz => ⟨box5_of ((hz _ (by omega)).trans XB.out), by have hh := (hz _ (by omega)).trans XA.out; simp [World.cell?, hh]⟩
  have S2d : Hid ((fun w' => Box5 (w.heap.size) t e (.slice a1 x c1) (.slice a2 z c2) (.slice (some ⟨bq, oq, none⟩) y c3) w' ∧ w'.cell? ⟨w.heap.size + 1, 1, none⟩ = some (.int .i64 (k : Int))) W2.drew) := hxA (wz := W2.drew) (fun g hg => (b2.block g (by omega)).trans (b1.block g hg))
  have SA : Hid ((fun w' => Box5 (w.heap.size) t e (.slice a1 x c1) (.slice a2 z c2) (.slice (some ⟨bq, oq, none⟩) y c3) w' ∧ w'.cell? ⟨w.heap.size + 1, 1, none⟩ = some (.int .i64 (k : Int))) WA) := hxA (fun g hg => (bA.block g (by omega)).trans ((b2.block g (by omega)).trans (b1.block g hg)))
  have S5 : Hid ((fun w' => Box5 (w.heap.size) t e (.slice a1 x c1) (.slice a2 z c2) (.slice (some ⟨bq, oq, none⟩) y c3) w' ∧ w'.cell? ⟨w.heap.size + 1, 1, none⟩ = some (.int .i64 (k : Int))) w5) := hxA (fun g hg => (hg5.block g (by omega) (by intro hq; cases hq; omega)).trans ((bA.block g (by omega)).trans ((b2.block g (by omega)).trans (b1.block g hg))))
  have S6 : Hid ((fun w' => Box5 (w.heap.size) t e (.slice a1 x c1) (.slice a2 z c2) (.slice (some ⟨bq, oq, none⟩) y c3) w' ∧ w'.cell? ⟨w.heap.size + 1, 1, none⟩ = some (.int .i64 (k : Int))) w6) := hxA kW
  have S7 : Hid ((fun w' => Box5 (w.heap.size) t e (.slice a1 x c1) (.slice a2 z c2) (.slice (some ⟨bq, oq, none⟩) y c3) w' ∧ w'.cell? ⟨w.heap.size + 1, 1, none⟩ = some (.int .i64 (k : Int))) W7) := hxA (fun g hg => (h7 g (by omega)).trans (kW g hg))
  have c64 : w6.cell? ⟨w1.heap.size, 4, none⟩ = some (.slice b3 n3 d3) := (by simp [World.cell?, x6])
  have f64 : ∀ o, w6.frozen? ⟨w1.heap.size, o, none⟩ = false := fun o => (by simp [World.frozen?, x6])
  have XX7 : Hid (W7.heap[w1.heap.size]? = some (.cells #[.int .i64 t, .int .i64 e, .slice b1' n1 d1, .slice b2' n2 d2, .slice q6 p6 r6] 29 (0, 0)) ∧ W7.heap[w.heap.size + 1 + 1 + 1 + 1 + 1]? = some (.cells #[.int .i64 0, .slice (some ⟨w.heap.size + 1 + 1 + 1 + 1, 0, none⟩) 0 0] 37 (0, 0)) ∧ W7.heap[w.heap.size + 1 + 1 + 1 + 1]? = some (.cells #[] 3 (0, 0)) ∧ W7.heap[w.heap.size + 1 + 1]? = some (.cells #[.int .i64 0, .int .i64 0, .slice none 0 0, .slice none 0 0, .slice none 0 0] 29 (0, 0)) ∧ W7.heap[w.heap.size + 1 + 1 + 1]? = some (.cells #[.int .i64 0, .slice none 0 0] 37 (0, 0))) := ⟨x7, xp7, xe7, xr7, xq7⟩
  clear g1 g2 g3 sp b1 ho5 hg5 hw5 ho6 hg6 o5l k6 x6 kW h7 x7 xp7 xe7 xr7 xq7 x2 b2 bA xE hxA BA B5 B6 B2
  go_wp2_with fail
  have hk1 : (k : Int) ≤ (c3 : Int) := by omega
  have hk2 : (k : Int) + 1 ≤ (y : Int) := by omega
  have hk3 : (y : Int) ≤ (c3 : Int) := by omega
  have hk4 : (0 : Int) ≤ (k : Int) + 1 := by omega
  have hk5 : ((k : Int) + 1).toNat = k + 1 := by omega
  have hk7 : (0 : Int) ≤ (k : Int) := by omega
  have hk8 : (k : Int) ≤ 64 := by omega
  have hwr : IntKind.i64.wrap ((k : Int) + 1) = (k : Int) + 1 := wrap_small (by omega)
  go_region_held3 (fun w' => Box5 (w.heap.size) t e (.slice a1 x c1) (.slice a2 z c2) (.slice (some ⟨bq, oq, none⟩) y c3) w' ∧ w'.cell? ⟨w.heap.size + 1, 1, none⟩ = some (.int .i64 (k : Int))) (with_reducible (first | exact S2d.out | exact SA.out | exact S5.out | exact S6.out | exact S7.out)) (first | ((with_reducible change (if _ = true then Oper.wp _ _ _ WA _ _ else _)); refine step_append_run (by rfl) _ _ _ _ (by rfl) _ _ (by rfl) (by rfl) _ _ hr5 ?_) | ((with_reducible change (if _ = true then Oper.wp _ _ _ w5 _ _ else _)); refine step_append_run (by rfl) _ _ _ _ (by rfl) _ _ (by rfl) (by rfl) _ _ hr6 ?_) | fail)
  go_wp2_with fail
  have bd : Below W7.heap.size W7 W7.drew := below_draw
  have T0 : Hid (Box72 w1.heap.size (w.heap.size + 1 + 1 + 1 + 1 + 1) t e (.slice b1' n1 d1) (.slice b2' n2 d2) (.slice q6 p6 r6) 0 (.slice (some ⟨w.heap.size + 1 + 1 + 1 + 1, 0, none⟩) 0 0) W7.drew) := box72_of XX7.out.1 XX7.out.2.1
  have HEL : Hid ((qs.eraseIdx k).length ≤ 1048576) := by show _ ≤ _; have := List.length_eraseIdx_le qs k; have := HL3.out; omega
  go_region_held3 (Box72 w1.heap.size (w.heap.size + 1 + 1 + 1 + 1 + 1) t e (.slice b1' n1 d1) (.slice b2' n2 d2) (.slice q6 p6 r6) 0 (.slice (some ⟨w.heap.size + 1 + 1 + 1 + 1, 0, none⟩) 0 0)) (with_reducible (first | exact T0.out | (repeat (first | exact T8.out | refine box72_set ?_ (by omega) (by omega))))) (first
    | (go_at_call 68; (with_reducible refine (release_any t e (.slice b1' n1 d1) (.slice b2' n2 d2) (.slice q6 p6 r6) ss ps (qs.eraseIdx k) W7.drew ((F1.out.read).below bd) ((OwnP.read F2.out).below bd) ((F6.out.read).below bd) HL1.out HL2.out HEL.out he (by omega)).mono ?_); rintro r w8 ⟨y1, y2, y3, rfl, p1, p2, p3, b8⟩; have c8 : Below W7.heap.size W7 w8 := bd.trans b8; (obtain ⟨e1, m1, g1, rfl⟩ := own_shr p1); (obtain ⟨e2, m2, g2, rfl⟩ := own_shr p2); (obtain ⟨e3, m3, g3, rfl⟩ := own_shr p3); have T8 : Hid (Box72 w1.heap.size (w.heap.size + 1 + 1 + 1 + 1 + 1) t e (.slice b1' n1 d1) (.slice b2' n2 d2) (.slice q6 p6 r6) 0 (.slice (some ⟨w.heap.size + 1 + 1 + 1 + 1, 0, none⟩) 0 0) w8) := box72_of (keepBlk XX7.out.1 c8 (by omega)) (keepBlk XX7.out.2.1 c8 (by omega)); have HP8 : Hid (OwnI w8 W7.heap.size (.slice e1 m1 g1) ss ∧ OwnP w8 W7.heap.size (.slice e2 m2 g2) (relP e (qs.eraseIdx k) ps) ∧ OwnI w8 W7.heap.size (.slice e3 m3 g3) (qs.eraseIdx k) ∧ w8.heap[w.heap.size + 1 + 1 + 1 + 1]? = some (.cells #[] 3 (0, 0)) ∧ Below W7.heap.size W7 w8) := ⟨p1, p2, p3, keepBlk XX7.out.2.2.1 c8 (by omega), c8⟩; have xr8 := keepBlk XX7.out.2.2.2.1 c8 (by omega); have xq8 := keepBlk XX7.out.2.2.2.2 c8 (by omega); have cr0w8 : w8.cell? ⟨w.heap.size + 1 + 1, 0, none⟩ = some (.int .i64 0) := (by simp [World.cell?, xr8]); have cr1w8 : w8.cell? ⟨w.heap.size + 1 + 1, 1, none⟩ = some (.int .i64 0) := (by simp [World.cell?, xr8]); have cr2w8 : w8.cell? ⟨w.heap.size + 1 + 1, 2, none⟩ = some (.slice none 0 0) := (by simp [World.cell?, xr8]); have cr3w8 : w8.cell? ⟨w.heap.size + 1 + 1, 3, none⟩ = some (.slice none 0 0) := (by simp [World.cell?, xr8]); have cr4w8 : w8.cell? ⟨w.heap.size + 1 + 1, 4, none⟩ = some (.slice none 0 0) := (by simp [World.cell?, xr8]); have frw8 : ∀ o, w8.frozen? ⟨w.heap.size + 1 + 1, o, none⟩ = false := fun o => (by simp [World.frozen?, xr8]); have cq0w8 : w8.cell? ⟨w.heap.size + 1 + 1 + 1, 0, none⟩ = some (.int .i64 0) := (by simp [World.cell?, xq8]); have cq1w8 : w8.cell? ⟨w.heap.size + 1 + 1 + 1, 1, none⟩ = some (.slice none 0 0) := (by simp [World.cell?, xq8]); have fqw8 : ∀ o, w8.frozen? ⟨w.heap.size + 1 + 1 + 1, o, none⟩ = false := fun o => (by simp [World.frozen?, xq8]); clear p1 p2 p3 b8 c8 xr8 xq8)
    | fail)
  have OE8 : Hid (OwnI w8 (w.heap.size + 1 + 1 + 1 + 1) (.slice (some ⟨w.heap.size + 1 + 1 + 1 + 1, 0, none⟩) 0 0) []) := ⟨rfl, .inr ⟨_, 0, #[], rfl, Nat.le_refl _, HP8.out.2.2.2.1, Nat.le_refl _, by decide, rfl, rfl⟩⟩
  clear T8
  go_wp2
  refine bodyPost_ret (v := .tuple #[SV t e (.slice e1 m1 g1) (.slice e2 m2 g2) (.slice e3 m3 g3), .agg #[.int .i64 0, .slice (some ⟨w.heap.size + 1 + 1 + 1 + 1, 0, none⟩) 0 0]]) (by go_simp; simp [results, Try.results45, go_sem, cr0w8, cr1w8, cr2w8, cr3w8, cr4w8, cq0w8, cq1w8]) rfl ⟨_, _, _, _, rfl, .inr (res_own HP8.out.1 (by omega) (by omega) _ _ _ _ _ _ _), .inr (res_own HP8.out.2.1 (by omega) (by omega) _ _ _ _ _ _ _), .inr (res_own HP8.out.2.2.1 (by omega) (by omega) _ _ _ _ _ _ _), res_own OE8.out (by omega) (by omega) _ _ _ _ _ _ _, res_below (B7'.trans (HP8.out.2.2.2.2.mono B7'.size)) (by omega) _ _ _ _ _ _ _⟩
end Go.Proofs.Ytaklphoplfofbaa
