/- l04Step: a pin (stage 4). -/
import Derived.Test.YtaklphoplfofbaaStU
namespace Go.Proofs.Ytaklphoplfofbaa
open Go.RowKit

/-- One number is appended to a list of the call's own. -/
theorem app_one (v : Value) (l : List Int) (w : World) (B : Nat) (h : OwnI w B v l) (hl : l.length ≤ 1048576) (x : Int) (g : Nat) (hg : w.heap[g]? = some (.cells #[.int .i64 x] 3 (0, 0))) (hB : B ≤ w.heap.size) :
    ∃ v' w', (Builtin.append_ #[26, 26] 26 #[v, .slice (some ⟨g, 0, none⟩) 1 1]).run Try.prog w = .ok v' w' ∧ OwnI w' B v' (l ++ [x]) ∧ w.grownBy w' v.ownBlock := by
  obtain ⟨i0, hi, hz0, hz1, hz2⟩ := info_parts info3
  obtain ⟨v', w', hrun, r1, r2, _⟩ := run_append_own (P := Try.prog) w B 26 26 3 i0 (.int .i64 0) 1 8 Try.underlying26 hi hz0 hz1 hz2 rfl (by decide) v l.length (l.map (Value.int .i64)) h ⟨g, 0, none⟩ 1 1 [.int .i64 x] rfl (fun j u hj => by
    match j, hj with
    | 0, hj => simp at hj; subst hj; rw [add_plain, slab_cell hg]; rfl) (by intro u hu; simp at hu; subst hu; rfl) (by unfold maxLen; omega) (by omega) hB
  exact ⟨v', w', hrun, OwnI.snoc r1, r2⟩

theorem diffT {w : World} {B B' : Nat} {v v' : Value} {l : List Int} {l' : List P2} (h : OwnI w B v l) (h' : OwnP w B' v' l') {j : Nat} (a : v.ownBlock = some j) (b : v'.ownBlock = some j) : False := by
  rcases h.2 with ⟨rfl, _⟩ | ⟨g, cap, cur, rfl, _, hh, _⟩
  · cases a
  · rcases h'.2 with ⟨rfl, _⟩ | ⟨g', cap', cur', rfl, _, hh', _⟩
    · cases b
    · cases a
      cases b
      rw [hh] at hh'
      injection hh' with hh'
      injection hh' with _ h2
      exact absurd h2 (by decide)

set_option maxRecDepth 100000 in
set_option maxHeartbeats 16000000 in
theorem stepS_pin (t : Nat) (e n : Int) (v1 v2 v3 : Value) (ss : List Int) (ps : List P2) (qs : List Int) (w : World) (h1 : ReadI w v1 ss) (h2 : ReadP w v2 ps) (h3 : ReadI w v3 qs) (l1 : ss.length ≤ 1048576) (l2 : ps.length ≤ 1048576) (l3 : qs.length ≤ 1048576) (hq : ¬ qs.length = 4) (hq2 : qs.length ≤ 64) :
    Calls Try.prog 45 #[SV t e v1 v2 v3, .agg #[.int .i64 2, .int .i64 n]] w (QS w v1 v2 v3 ss ps qs t ⟨e, ss, ps, qs ++ [e], 0, ss⟩) := by
  have HQ2 : Hid (qs.length ≤ 64) := hq2
  have HL1 : Hid (ss.length ≤ 1048576) := l1
  have HL2 : Hid (ps.length ≤ 1048576) := l2
  have HL3 : Hid (qs.length ≤ 1048576) := l3
  have HR1 : Hid (ReadI w v1 ss) := h1
  have HR2 : Hid (ReadP w v2 ps) := h2
  have HR3 : Hid (ReadI w v3 qs) := h3
  obtain ⟨a1, c1, rfl, _⟩ := h1.row
  obtain ⟨a2, c2, rfl, _⟩ := h2.row
  obtain ⟨a3, c3, rfl, _⟩ := h3.row
  clear h1 h2 h3
  obtain ⟨x, hx⟩ : ∃ x, ss.length = x := ⟨_, rfl⟩
  obtain ⟨z, hz⟩ : ∃ z, ps.length = z := ⟨_, rfl⟩
  obtain ⟨y, hy⟩ : ∃ y, qs.length = y := ⟨_, rfl⟩
  have HX : Hid (ss.length = x) := hx
  have HZ : Hid (ps.length = z) := hz
  have HY : Hid (qs.length = y) := hy
  rw [hx] at HR1 ⊢
  rw [hz] at HR2 ⊢
  rw [hy] at HR3 ⊢
  try rw [hx] at l1
  try rw [hz] at l2
  try rw [hy] at l3
  rw [hy] at hq
  clear hx hy hz
  have hq' : ((y : Int) == 4) = false := by simp; omega
  clear hq hq2
  obtain ⟨W0, hW0⟩ : ∃ W0, W6 w t e (.slice a1 x c1) (.slice a2 z c2) (.slice a3 y c3) 2 n = W0 := ⟨_, rfl⟩
  have B0 : Below w.heap.size w W0 := hW0 ▸ below_W6 w t e _ _ _ _ _
  have z0 : W0.heap.size = w.heap.size + 6 := hW0 ▸ W6_size w t e _ _ _ _ _
  have xbW0 : W0.heap[w.heap.size]? = some (.cells #[.int .i64 t, .int .i64 e, .slice a1 x c1, .slice a2 z c2, .slice a3 y c3] 29 (0, 0)) := hW0 ▸ W6_b w t e _ _ _ _ _
  have xaW0 : W0.heap[w.heap.size + 1]? = some (.cells #[.int .i64 2, .int .i64 n] 39 (0, 0)) := hW0 ▸ W6_a w t e _ _ _ _ _
  have xrW0 : W0.heap[w.heap.size + 1 + 1]? = some (.cells #[.int .i64 0, .int .i64 0, .slice none 0 0, .slice none 0 0, .slice none 0 0] 29 (0, 0)) := hW0 ▸ W6_r w t e _ _ _ _ _
  have xqW0 : W0.heap[w.heap.size + 1 + 1 + 1]? = some (.cells #[.int .i64 0, .slice none 0 0] 37 (0, 0)) := hW0 ▸ W6_q w t e _ _ _ _ _
  have xeW0 : W0.heap[w.heap.size + 1 + 1 + 1 + 1]? = some (.cells #[] 3 (0, 0)) := hW0 ▸ W6_e w t e _ _ _ _ _
  have xpW0 : W0.heap[w.heap.size + 1 + 1 + 1 + 1 + 1]? = some (.cells #[.int .i64 0, .slice (some ⟨w.heap.size + 1 + 1 + 1 + 1, 0, none⟩) 0 0] 37 (0, 0)) := hW0 ▸ W6_p w t e _ _ _ _ _
  have cb0W0 : W0.cell? ⟨w.heap.size, 0, none⟩ = some (.int .i64 t) := (by simp [World.cell?, xbW0])
  have cb1W0 : W0.cell? ⟨w.heap.size, 1, none⟩ = some (.int .i64 e) := (by simp [World.cell?, xbW0])
  have cb2W0 : W0.cell? ⟨w.heap.size, 2, none⟩ = some (.slice a1 x c1) := (by simp [World.cell?, xbW0])
  have cb3W0 : W0.cell? ⟨w.heap.size, 3, none⟩ = some (.slice a2 z c2) := (by simp [World.cell?, xbW0])
  have cb4W0 : W0.cell? ⟨w.heap.size, 4, none⟩ = some (.slice a3 y c3) := (by simp [World.cell?, xbW0])
  have fbW0 : ∀ o, W0.frozen? ⟨w.heap.size, o, none⟩ = false := fun o => (by simp [World.frozen?, xbW0])
  have ca0W0 : W0.cell? ⟨w.heap.size + 1, 0, none⟩ = some (.int .i64 2) := (by simp [World.cell?, xaW0])
  have ca1W0 : W0.cell? ⟨w.heap.size + 1, 1, none⟩ = some (.int .i64 n) := (by simp [World.cell?, xaW0])
  have faW0 : ∀ o, W0.frozen? ⟨w.heap.size + 1, o, none⟩ = false := fun o => (by simp [World.frozen?, xaW0])
  have cr0W0 : W0.cell? ⟨w.heap.size + 1 + 1, 0, none⟩ = some (.int .i64 0) := (by simp [World.cell?, xrW0])
  have cr1W0 : W0.cell? ⟨w.heap.size + 1 + 1, 1, none⟩ = some (.int .i64 0) := (by simp [World.cell?, xrW0])
  have cr2W0 : W0.cell? ⟨w.heap.size + 1 + 1, 2, none⟩ = some (.slice none 0 0) := (by simp [World.cell?, xrW0])
  have cr3W0 : W0.cell? ⟨w.heap.size + 1 + 1, 3, none⟩ = some (.slice none 0 0) := (by simp [World.cell?, xrW0])
  have cr4W0 : W0.cell? ⟨w.heap.size + 1 + 1, 4, none⟩ = some (.slice none 0 0) := (by simp [World.cell?, xrW0])
  have frW0 : ∀ o, W0.frozen? ⟨w.heap.size + 1 + 1, o, none⟩ = false := fun o => (by simp [World.frozen?, xrW0])
  have cq0W0 : W0.cell? ⟨w.heap.size + 1 + 1 + 1, 0, none⟩ = some (.int .i64 0) := (by simp [World.cell?, xqW0])
  have cq1W0 : W0.cell? ⟨w.heap.size + 1 + 1 + 1, 1, none⟩ = some (.slice none 0 0) := (by simp [World.cell?, xqW0])
  have fqW0 : ∀ o, W0.frozen? ⟨w.heap.size + 1 + 1 + 1, o, none⟩ = false := fun o => (by simp [World.frozen?, xqW0])
  have cp0W0 : W0.cell? ⟨w.heap.size + 1 + 1 + 1 + 1 + 1, 0, none⟩ = some (.int .i64 0) := (by simp [World.cell?, xpW0])
  have cp1W0 : W0.cell? ⟨w.heap.size + 1 + 1 + 1 + 1 + 1, 1, none⟩ = some (.slice (some ⟨w.heap.size + 1 + 1 + 1 + 1, 0, none⟩) 0 0) := (by simp [World.cell?, xpW0])
  have fpW0 : ∀ o, W0.frozen? ⟨w.heap.size + 1 + 1 + 1 + 1 + 1, o, none⟩ = false := fun o => (by simp [World.frozen?, xpW0])
  have XB : Hid (W0.heap[w.heap.size]? = some (.cells #[.int .i64 t, .int .i64 e, .slice a1 x c1, .slice a2 z c2, .slice a3 y c3] 29 (0, 0))) := xbW0
  have XA : Hid (W0.heap[w.heap.size + 1]? = some (.cells #[.int .i64 2, .int .i64 n] 39 (0, 0))) := xaW0
  have XR : Hid (W0.heap[w.heap.size + 1 + 1]? = some (.cells #[.int .i64 0, .int .i64 0, .slice none 0 0, .slice none 0 0, .slice none 0 0] 29 (0, 0))) := xrW0
  have XQ : Hid (W0.heap[w.heap.size + 1 + 1 + 1]? = some (.cells #[.int .i64 0, .slice none 0 0] 37 (0, 0))) := xqW0
  have XE : Hid (W0.heap[w.heap.size + 1 + 1 + 1 + 1]? = some (.cells #[] 3 (0, 0))) := xeW0
  have XP : Hid (W0.heap[w.heap.size + 1 + 1 + 1 + 1 + 1]? = some (.cells #[.int .i64 0, .slice (some ⟨w.heap.size + 1 + 1 + 1 + 1, 0, none⟩) 0 0] 37 (0, 0))) := xpW0
  clear xbW0 xaW0 xrW0 xqW0 xeW0 xpW0
  go_enter Try.func45, Try.ntmps45
  go_wp2_with fail
  refine (l04Own_any t e _ _ _ ss ps qs W0 (HR1.out.below B0) (HR2.out.below B0) (HR3.out.below B0) HL1.out HL2.out HL3.out).mono ?_
  rintro r w1 ⟨u1, u2, u3, rfl, g1, g2, g3, sp, b1⟩
  obtain ⟨b1', n1, d1, rfl⟩ := own_shr g1
  obtain ⟨b2', n2, d2, rfl⟩ := own_shr g2
  obtain ⟨b3, n3, d3, rfl⟩ := own_shr g3
  have s1 : W0.heap.size ≤ w1.heap.size := b1.size
  have B1 : Below w.heap.size w w1 := B0.trans (b1.mono B0.size)
  obtain ⟨WA, hWA⟩ : ∃ WA, ((w1.alloc (.cells #[.int .i64 t, .int .i64 e, .slice b1' n1 d1, .slice b2' n2 d2, .slice b3 n3 d3] 29)).alloc (.cells #[.int .i64 e] 3)) = WA := ⟨_, rfl⟩
  have zA : WA.heap.size = w1.heap.size + 2 := by rw [← hWA]; simp
  have bA : Below w1.heap.size w1 WA := hWA ▸ ((Below.refl _ _).alloc (Nat.le_refl _) _).alloc (by simp) _
  have xA : WA.heap[w1.heap.size]? = some (.cells #[.int .i64 t, .int .i64 e, .slice b1' n1 d1, .slice b2' n2 d2, .slice b3 n3 d3] 29 (0, 0)) := hWA ▸ (heap_old _ _ _ (by simp)).trans (heap_new' _ _ _ rfl)
  have xE : WA.heap[w1.heap.size + 1]? = some (.cells #[.int .i64 e] 3 (0, 0)) := hWA ▸ heap_new' _ _ _ (by simp)
  obtain ⟨v3', w2, hr3, ho3, hg3⟩ := app_one (.slice b3 n3 d3) qs WA W0.heap.size (own_keep g3 (fun g _ hl => bA.block g hl)) (by have := HQ2.out; omega) e (w1.heap.size + 1) xE (by omega)
  obtain ⟨q3, p3, r3, rfl⟩ := own_shr ho3
  have nb3 : ∀ g, g < W0.heap.size ∨ w1.heap.size ≤ g → some g ≠ Value.ownBlock (.slice b3 n3 d3) := fun g hg hq => by have := own_lt g3 hq.symm; omega
  have s2 : WA.heap.size ≤ w2.heap.size := hg3.size
  have k2 : ∀ g, g < W0.heap.size → w2.heap[g]? = W0.heap[g]? := fun g hg => (hg3.block g (by omega) (nb3 g (.inl hg))).trans ((bA.block g (by omega)).trans (b1.block g hg))
  have x2 : w2.heap[w1.heap.size]? = some (.cells #[.int .i64 t, .int .i64 e, .slice b1' n1 d1, .slice b2' n2 d2, .slice b3 n3 d3] 29 (0, 0)) := (hg3.block _ (by omega) (nb3 _ (.inr (Nat.le_refl _)))).trans xA
  have O1 : Hid (OwnI w2 W0.heap.size (.slice b1' n1 d1) ss) := own_at g1 (fun j hj => (hg3.block j (by have := (own_lt g1 hj).2; omega) (fun hq => sp j (Nat.zero_le _) hj hq.symm)).trans (bA.block j (own_lt g1 hj).2))
  have O2 : Hid (OwnP w2 W0.heap.size (.slice b2' n2 d2) ps) := own_at g2 (fun j hj => (hg3.block j (by have := (own_lt g2 hj).2; omega) (fun hq => diffT g3 g2 hq.symm hj)).trans (bA.block j (own_lt g2 hj).2))
  have O3 : Hid (OwnI w2 W0.heap.size (.slice q3 p3 r3) (qs ++ [e])) := ho3
  have B2 : Hid (Below w.heap.size w w2) := (B1.trans (bA.mono B1.size)).grown hg3 (by omega) (fun q hq => by have := (own_lt g3 hq).1; omega)
  -- the pins' cell
  obtain ⟨W3, hW3⟩ : ∃ W3, w2.setCell ⟨w1.heap.size, 4, none⟩ (.slice q3 p3 r3) = W3 := ⟨_, rfl⟩
  have h3 : ∀ g, g ≠ w1.heap.size → W3.heap[g]? = w2.heap[g]? := fun g hg => by rw [← hW3]; exact Below.heap_setCell _ _ _ _ hg
  have z3 : W3.heap.size = w2.heap.size := by rw [← hW3]; simp [World.setCell]
  have x3 : W3.heap[w1.heap.size]? = some (.cells #[.int .i64 t, .int .i64 e, .slice b1' n1 d1, .slice b2' n2 d2, .slice q3 p3 r3] 29 (0, 0)) := by rw [← hW3]; exact slab_set x2 _
  have xe3 : W3.heap[w.heap.size + 1 + 1 + 1 + 1]? = some (.cells #[] 3 (0, 0)) := (h3 _ (by omega)).trans ((k2 _ (by omega)).trans XE.out)
  have xb3 : W3.heap[w.heap.size]? = some (.cells #[.int .i64 t, .int .i64 e, .slice a1 x c1, .slice a2 z c2, .slice a3 y c3] 29 (0, 0)) := (h3 _ (by omega)).trans ((k2 _ (by omega)).trans XB.out)
  have B3 : Below w.heap.size w W3 := hW3 ▸ B2.out.setCell (p := ⟨w1.heap.size, 4, none⟩) (by show _ ≤ w1.heap.size; omega) _
  obtain ⟨v4, w4, hr4, ho4, hg4, hw4⟩ := app_I (.slice a1 x c1) ss W3 (HR1.out.below B3) HL1.out (w.heap.size + 1 + 1 + 1 + 1) xe3 (w.heap.size + 1 + 1 + 1 + 1) (Nat.le_refl _)
  obtain ⟨q4, p4, r4, rfl⟩ := own_shr ho4
  have s4 : W3.heap.size ≤ w4.heap.size := hg4.size
  have k4 : ∀ g, g < W3.heap.size → g ≠ w.heap.size + 1 + 1 + 1 + 1 → w4.heap[g]? = W3.heap[g]? := fun g hg hne => hg4.block g hg (by simpa using hne)
  have xp4 : w4.heap[w.heap.size + 1 + 1 + 1 + 1 + 1]? = some (.cells #[.int .i64 0, .slice (some ⟨w.heap.size + 1 + 1 + 1 + 1, 0, none⟩) 0 0] 37 (0, 0)) := (k4 _ (by omega) (by omega)).trans ((h3 _ (by omega)).trans ((k2 _ (by omega)).trans XP.out))
  have x4 : w4.heap[w1.heap.size]? = some (.cells #[.int .i64 t, .int .i64 e, .slice b1' n1 d1, .slice b2' n2 d2, .slice q3 p3 r3] 29 (0, 0)) := (k4 _ (by omega) (by omega)).trans x3
  obtain ⟨W5, hW5⟩ : ∃ W5, w4.setCell ⟨w.heap.size + 1 + 1 + 1 + 1 + 1, 1, none⟩ (.slice q4 p4 r4) = W5 := ⟨_, rfl⟩
  have h5 : ∀ g, g ≠ w.heap.size + 1 + 1 + 1 + 1 + 1 → W5.heap[g]? = w4.heap[g]? := fun g hg => by rw [← hW5]; exact Below.heap_setCell _ _ _ _ hg
  have z5 : W5.heap.size = w4.heap.size := by rw [← hW5]; simp [World.setCell]
  have xp5 : W5.heap[w.heap.size + 1 + 1 + 1 + 1 + 1]? = some (.cells #[.int .i64 0, .slice q4 p4 r4] 37 (0, 0)) := by rw [← hW5]; exact slab_set xp4 _
  have x5 : W5.heap[w1.heap.size]? = some (.cells #[.int .i64 t, .int .i64 e, .slice b1' n1 d1, .slice b2' n2 d2, .slice q3 p3 r3] 29 (0, 0)) := (h5 _ (by omega)).trans x4
  have xr5 : W5.heap[w.heap.size + 1 + 1]? = some (.cells #[.int .i64 0, .int .i64 0, .slice none 0 0, .slice none 0 0, .slice none 0 0] 29 (0, 0)) := (h5 _ (by omega)).trans ((k4 _ (by omega) (by omega)).trans ((h3 _ (by omega)).trans ((k2 _ (by omega)).trans XR.out)))
  have xq5 : W5.heap[w.heap.size + 1 + 1 + 1]? = some (.cells #[.int .i64 0, .slice none 0 0] 37 (0, 0)) := (h5 _ (by omega)).trans ((k4 _ (by omega) (by omega)).trans ((h3 _ (by omega)).trans ((k2 _ (by omega)).trans XQ.out)))
  have B5 : Hid (Below w.heap.size w W5) := hW5 ▸ (B3.grown hg4 (by omega) (fun q hq => by cases hq; omega)).setCell (p := ⟨w.heap.size + 1 + 1 + 1 + 1 + 1, 1, none⟩) (by show _ ≤ _ + 5; omega) _
  have keep : ∀ {ty m k : Nat} {v : Value} {xs : List Value}, w2.ownsRow W0.heap.size ty m v k xs → (∀ j, v.ownBlock = some j → j ≠ w1.heap.size) → W5.ownsRow W0.heap.size ty m v k xs := fun o hb => own_at o (fun j hj => by
    have hj1 := own_lt o hj
    have hj2 := hb j hj
    exact (h5 _ (by omega)).trans ((k4 _ (by omega) (by omega)).trans (h3 _ (by omega))))
  have nB : ∀ {ty m k : Nat} {v : Value} {xs : List Value}, w2.ownsRow W0.heap.size ty m v k xs → ty ≠ 29 → ∀ j, v.ownBlock = some j → j ≠ w1.heap.size := fun o ht j hj hq => by
    rcases o.2 with ⟨rfl, _⟩ | ⟨g, cap, cur, rfl, _, hh, _⟩
    · cases hj
    · cases hj
      subst hq
      rw [x2] at hh
      injection hh with hh
      injection hh with _ h2
      exact ht h2.symm
  have F1 : Hid (OwnI W5 W0.heap.size (.slice b1' n1 d1) ss) := keep O1.out (nB O1.out (by decide))
  have F2 : Hid (OwnP W5 W0.heap.size (.slice b2' n2 d2) ps) := keep O2.out (nB O2.out (by decide))
  have F3 : Hid (OwnI W5 W0.heap.size (.slice q3 p3 r3) (qs ++ [e])) := keep O3.out (nB O3.out (by decide))
  have F4 : Hid (OwnI W5 (w.heap.size + 1 + 1 + 1 + 1) (.slice q4 p4 r4) ss) := own_at ho4 (fun j hj => h5 _ (by rcases hw4 j hj with e | e <;> omega))
  have cA : WA.cell? ⟨w1.heap.size, 4, none⟩ = some (.slice b3 n3 d3) := (by simp [World.cell?, xA])
  have xb1 := keepBlk XB.out b1 (by omega)
  have cb1w : w1.cell? ⟨w.heap.size, 1, none⟩ = some (.int .i64 e) := (by simp [World.cell?, xb1])
  have lt1 : w.heap.size < w1.heap.size := by omega
  have c24 : w2.cell? ⟨w1.heap.size, 4, none⟩ = some (.slice b3 n3 d3) := (by simp [World.cell?, x2])
  have f24 : ∀ o, w2.frozen? ⟨w1.heap.size, o, none⟩ = false := fun o => (by simp [World.frozen?, x2])
  have xp3 : W3.heap[w.heap.size + 1 + 1 + 1 + 1 + 1]? = some (.cells #[.int .i64 0, .slice (some ⟨w.heap.size + 1 + 1 + 1 + 1, 0, none⟩) 0 0] 37 (0, 0)) := (h3 _ (by omega)).trans ((k2 _ (by omega)).trans XP.out)
  have c31 : W3.cell? ⟨w.heap.size + 1 + 1 + 1 + 1 + 1, 1, none⟩ = some (.slice (some ⟨w.heap.size + 1 + 1 + 1 + 1, 0, none⟩) 0 0) := (by simp [World.cell?, xp3])
  have c32 : W3.cell? ⟨w.heap.size, 2, none⟩ = some (.slice a1 x c1) := (by simp [World.cell?, xb3])
  have c41 : w4.cell? ⟨w.heap.size + 1 + 1 + 1 + 1 + 1, 1, none⟩ = some (.slice (some ⟨w.heap.size + 1 + 1 + 1 + 1, 0, none⟩) 0 0) := (by simp [World.cell?, xp4])
  have f41 : ∀ o, w4.frozen? ⟨w.heap.size + 1 + 1 + 1 + 1 + 1, o, none⟩ = false := fun o => (by simp [World.frozen?, xp4])
  have cr0W5 : W5.cell? ⟨w.heap.size + 1 + 1, 0, none⟩ = some (.int .i64 0) := (by simp [World.cell?, xr5])
  have cr1W5 : W5.cell? ⟨w.heap.size + 1 + 1, 1, none⟩ = some (.int .i64 0) := (by simp [World.cell?, xr5])
  have cr2W5 : W5.cell? ⟨w.heap.size + 1 + 1, 2, none⟩ = some (.slice none 0 0) := (by simp [World.cell?, xr5])
  have cr3W5 : W5.cell? ⟨w.heap.size + 1 + 1, 3, none⟩ = some (.slice none 0 0) := (by simp [World.cell?, xr5])
  have cr4W5 : W5.cell? ⟨w.heap.size + 1 + 1, 4, none⟩ = some (.slice none 0 0) := (by simp [World.cell?, xr5])
  have frW5 : ∀ o, W5.frozen? ⟨w.heap.size + 1 + 1, o, none⟩ = false := fun o => (by simp [World.frozen?, xr5])
  have cq0W5 : W5.cell? ⟨w.heap.size + 1 + 1 + 1, 0, none⟩ = some (.int .i64 0) := (by simp [World.cell?, xq5])
  have cq1W5 : W5.cell? ⟨w.heap.size + 1 + 1 + 1, 1, none⟩ = some (.slice none 0 0) := (by simp [World.cell?, xq5])
  have fqW5 : ∀ o, W5.frozen? ⟨w.heap.size + 1 + 1 + 1, o, none⟩ = false := fun o => (by simp [World.frozen?, xq5])
  have T00 : Hid (Box72 w1.heap.size (w.heap.size + 1 + 1 + 1 + 1 + 1) t e (.slice b1' n1 d1) (.slice b2' n2 d2) (.slice q3 p3 r3) 0 (.slice q4 p4 r4) W5) := box72_of x5 xp5
  have T0 : Hid (Box72 w1.heap.size (w.heap.size + 1 + 1 + 1 + 1 + 1) t e (.slice b1' n1 d1) (.slice b2' n2 d2) (.slice q3 p3 r3) 0 (.slice q4 p4 r4) W5.drew) := box72_of x5 xp5
  clear cb0W0 cb1W0 cb2W0 cb3W0 cb4W0 fbW0 ca0W0 ca1W0 faW0 cr0W0 cr1W0 cr2W0 cr3W0 cr4W0 frW0 cq0W0 cq1W0 fqW0 cp0W0 cp1W0 fpW0 g1 g2 g3 sp bA xA xE ho3 hg3 nb3 k2 x2 h3 x3 xe3 xb3 ho4 hg4 hw4 k4 xp4 x4 h5 xp5 x5 xr5 xq5 keep nB O1 O2 O3 xb1 xp3 b1
  go_wp2_with (at_builtin; first | ((with_reducible change wpList _ _ _ _ _ WA); refine Lib.wpList_append_run _ rfl _ _ _ _ rfl _ _ rfl rfl _ _ hr3 ?_) | ((with_reducible change wpList _ _ _ _ _ W3); refine Lib.wpList_append_run _ rfl _ _ _ _ rfl _ _ rfl rfl _ _ hr4 ?_))
  go_region_held3 (Box72 w1.heap.size (w.heap.size + 1 + 1 + 1 + 1 + 1) t e (.slice b1' n1 d1) (.slice b2' n2 d2) (.slice q3 p3 r3) 0 (.slice q4 p4 r4)) (with_reducible (first | exact T0.out | (repeat (first | exact T00.out | refine box72_drew ?_ | refine box72_set ?_ (by omega) (by omega))))) (fail)
  go_wp2
  refine bodyPost_ret (v := .tuple #[SV t e (.slice b1' n1 d1) (.slice b2' n2 d2) (.slice q3 p3 r3), .agg #[.int .i64 0, .slice q4 p4 r4]]) (by go_simp; simp [results, Try.results45, go_sem, cr0W5, cr1W5, cr2W5, cr3W5, cr4W5, cq0W5, cq1W5]) rfl ⟨_, _, _, _, rfl, .inr (own_drew (res_own F1.out (by omega) (by omega) _ _ _ _ _ _ _)), .inr (own_drew (res_own F2.out (by omega) (by omega) _ _ _ _ _ _ _)), .inr (own_drew (res_own F3.out (by omega) (by omega) _ _ _ _ _ _ _)), own_drew (res_own F4.out (by omega) (by omega) _ _ _ _ _ _ _), (res_below B5.out (by omega) _ _ _ _ _ _ _).drew⟩
end Go.Proofs.Ytaklphoplfofbaa
