/- l04Release (stage 4). -/
import Derived.Test.YtaklphoplfofbaaStP
namespace Go.Proofs.Ytaklphoplfofbaa
open Go.RowKit

theorem relP_snoc (e : Int) (qs : List Int) (ps : List P2) (k : Nat) (h : k < ps.length) : relP e qs (ps.take (k + 1)) = if (decide (e - 1 ≤ (nthP ps k).2) || qs.any (fun q => decide (q ≤ (nthP ps k).2))) = true then relP e qs (ps.take k) ++ [nthP ps k] else relP e qs (ps.take k) := by
  unfold relP
  rw [List.take_succ_eq_append_getElem h, List.filter_append, nthP_get h]
  rw [List.filter_cons, List.filter_nil]
  split
  · rfl
  · simp
theorem relP_len (e : Int) (qs : List Int) (ps : List P2) : (relP e qs ps).length ≤ ps.length := List.length_filter_le _ _
theorem anyQ_snoc (qs : List Int) (x : Int) (k : Nat) (h : k < qs.length) : (qs.take (k + 1)).any (fun q => decide (q ≤ x)) = ((qs.take k).any (fun q => decide (q ≤ x)) || decide (nthI qs k ≤ x)) := by
  rw [List.take_succ_eq_append_getElem h, List.any_append, nthI_get h]
  simp
/-- One held page is appended to a list of the call's own. -/
theorem app_held (v : Value) (l : List P2) (w : World) (B : Nat) (h : OwnP w B v l) (hl : l.length ≤ 1048576) (p : P2) (g : Nat) (hg : w.heap[g]? = some (.cells #[.int .i64 p.1, .int .i64 p.2] 88 (0, 0))) (hB : B ≤ w.heap.size) :
    ∃ v' w', (Builtin.append_ #[27, 27] 27 #[v, .slice (some ⟨g, 0, none⟩) 1 1]).run Try.prog w = .ok v' w' ∧ OwnP w' B v' (l ++ [p]) ∧ w.grownBy w' v.ownBlock := by
  obtain ⟨i0, hi, hz0, hz1, hz2⟩ := info_parts info88
  obtain ⟨v', w', hrun, r1, r2, _⟩ := run_append_own (P := Try.prog) w B 27 27 88 i0 (.agg #[.int .i64 0, .int .i64 0]) 2 16 Try.underlying27 hi hz0 hz1 hz2 rfl (by decide) v l.length (cellsP l) h ⟨g, 0, none⟩ 1 1 [.int .i64 p.1, .int .i64 p.2] rfl (fun j u hj => by
    match j, hj with
    | 0, hj => simp at hj; subst hj; rw [add_plain, slab_cell hg]; rfl
    | 1, hj => simp at hj; subst hj; rw [add_plain, slab_cell hg]; rfl) (by intro u hu; simp at hu; rcases hu with rfl | rfl <;> rfl) (by unfold maxLen; omega) (by omega) hB
  exact ⟨v', w', hrun, ownP_of (by rw [cellsP_snoc]; exact r1), r2⟩

set_option maxRecDepth 100000 in
set_option maxHeartbeats 16000000 in
theorem release_any (t e : Int) (v1 v2 v3 : Value) (ss : List Int) (ps : List P2) (qs : List Int) (w : World) (h1 : ReadI w v1 ss) (h2 : ReadP w v2 ps) (h3 : ReadI w v3 qs) (l1 : ss.length ≤ 1048576) (l2 : ps.length ≤ 1048576) (l3 : qs.length ≤ 1048576) (he : 0 ≤ e) (he2 : e ≤ 1000001) :
    Calls Try.prog 68 #[SV t e v1 v2 v3] w fun r w' => ∃ u1 u2 u3, r = .returned (SV t e u1 u2 u3) ∧ OwnI w' w.heap.size u1 ss ∧ OwnP w' w.heap.size u2 (relP e qs ps) ∧ OwnI w' w.heap.size u3 qs ∧ Below w.heap.size w w' := by
  have HL1 : Hid (ss.length ≤ 1048576) := l1
  have HL2 : Hid (ps.length ≤ 1048576) := l2
  have HL3 : Hid (qs.length ≤ 1048576) := l3
  have HR1 : Hid (ReadI w v1 ss) := h1
  have HR2 : Hid (ReadP w v2 ps) := h2
  have HR3 : Hid (ReadI w v3 qs) := h3
  obtain ⟨a1, c1, rfl, _⟩ := h1.row
  obtain ⟨a2, c2, rfl, _⟩ := h2.row
  obtain ⟨a3, c3, rfl, _⟩ := h3.row
  clear h1 h2 h3
  obtain ⟨x, hx⟩ : ∃ x, ss.length = x := ⟨_, rfl⟩
  obtain ⟨z, hz⟩ : ∃ z, ps.length = z := ⟨_, rfl⟩
  obtain ⟨y, hy⟩ : ∃ y, qs.length = y := ⟨_, rfl⟩
  have HX : Hid (ss.length = x) := hx
  have HZ : Hid (ps.length = z) := hz
  have HY : Hid (qs.length = y) := hy
  rw [hx] at HR1 ⊢
  rw [hz] at HR2 ⊢
  rw [hy] at HR3 ⊢
  try rw [hx] at l1
  try rw [hz] at l2
  try rw [hy] at l3
  clear hx hy hz
  obtain ⟨W0, hW0⟩ : ∃ W0, ((w.alloc (SC t e (.slice a1 x c1) (.slice a2 z c2) (.slice a3 y c3) 29)).alloc (.cells #[.int .i64 0, .int .i64 0, .slice none 0 0, .slice none 0 0, .slice none 0 0] 29)) = W0 := ⟨_, rfl⟩
  have B0 : Below w.heap.size w W0 := hW0 ▸ (((Below.refl _ _).alloc (Nat.le_refl _) _).alloc (by simp) _)
  have z0 : W0.heap.size = w.heap.size + 2 := by rw [← hW0]; simp
  have xb : W0.heap[w.heap.size]? = some (.cells #[.int .i64 t, .int .i64 e, .slice a1 x c1, .slice a2 z c2, .slice a3 y c3] 29 (0, 0)) := by
    rw [← hW0]
    exact (heap_old _ _ _ (by simp)).trans (heap_new' _ _ _ rfl)
  have xr : W0.heap[w.heap.size + 1]? = some (.cells #[.int .i64 0, .int .i64 0, .slice none 0 0, .slice none 0 0, .slice none 0 0] 29 (0, 0)) := by
    rw [← hW0]
    exact heap_new' _ _ _ (by simp)
  have cb0W0 : W0.cell? ⟨w.heap.size, 0, none⟩ = some (.int .i64 t) := (by simp [World.cell?, xb])
  have cb1W0 : W0.cell? ⟨w.heap.size, 1, none⟩ = some (.int .i64 e) := (by simp [World.cell?, xb])
  have cb2W0 : W0.cell? ⟨w.heap.size, 2, none⟩ = some (.slice a1 x c1) := (by simp [World.cell?, xb])
  have cb3W0 : W0.cell? ⟨w.heap.size, 3, none⟩ = some (.slice a2 z c2) := (by simp [World.cell?, xb])
  have cb4W0 : W0.cell? ⟨w.heap.size, 4, none⟩ = some (.slice a3 y c3) := (by simp [World.cell?, xb])
  have fbW0 : ∀ o, W0.frozen? ⟨w.heap.size, o, none⟩ = false := fun o => (by simp [World.frozen?, xb])
  have XB : Hid (W0.heap[w.heap.size]? = some (.cells #[.int .i64 t, .int .i64 e, .slice a1 x c1, .slice a2 z c2, .slice a3 y c3] 29 (0, 0))) := xb
  have XR : Hid (W0.heap[w.heap.size + 1]? = some (.cells #[.int .i64 0, .int .i64 0, .slice none 0 0, .slice none 0 0, .slice none 0 0] 29 (0, 0))) := xr
  clear xb xr
  go_enter Try.func68, Try.ntmps68
  go_wp2_with fail
  refine (l04Own_any t e _ _ _ ss ps qs W0 (HR1.out.below B0) (HR2.out.below B0) (HR3.out.below B0) HL1.out HL2.out HL3.out).mono ?_
  rintro r w1 ⟨u1, u2, u3, rfl, o1, o2, o3, _, b1⟩
  obtain ⟨b1', n1, d1, rfl⟩ := own_shr o1
  obtain ⟨b2, n2, d2, rfl⟩ := own_shr o2
  obtain ⟨b3, n3, d3, rfl⟩ := own_shr o3
  clear cb0W0 cb1W0 cb2W0 cb3W0 cb4W0 fbW0
  have n10 : W0.heap.size ≤ w1.heap.size := b1.size
  have XB1 : Hid (w1.heap[w.heap.size]? = some (.cells #[.int .i64 t, .int .i64 e, .slice a1 x c1, .slice a2 z c2, .slice a3 y c3] 29 (0, 0))) := keepBlk XB.out b1 (by omega)
  have XR1 : Hid (w1.heap[w.heap.size + 1]? = some (.cells #[.int .i64 0, .int .i64 0, .slice none 0 0, .slice none 0 0, .slice none 0 0] 29 (0, 0))) := keepBlk XR.out b1 (by omega)
  have O1 : Hid (OwnI w1 W0.heap.size (.slice b1' n1 d1) ss) := o1
  have O3 : Hid (OwnI w1 W0.heap.size (.slice b3 n3 d3) qs) := o3
  have B1 : Below w.heap.size w w1 := B0.trans (b1.mono B0.size)
  have R2 : Hid (ReadP w1 (.slice a2 z c2) ps) := HR2.out.below B1
  have R3 : Hid (ReadI w1 (.slice a3 y c3) qs) := HR3.out.below B1
  clear o1 o2 o3 b1 XB XR
  obtain ⟨W2, hW2⟩ : ∃ W2, ((w1.alloc (.cells #[.int .i64 t, .int .i64 e, .slice b1' n1 d1, .slice (some ⟨w1.heap.size + 1, 0, none⟩) 0 0, .slice b3 n3 d3] 29)).alloc (.cells #[] 88)) = W2 := ⟨_, rfl⟩
  have B2 : Below w1.heap.size w1 W2 := hW2 ▸ ((Below.refl _ _).alloc (Nat.le_refl _) _).alloc (by simp) _
  have xo : W2.heap[w1.heap.size]? = some (.cells #[.int .i64 t, .int .i64 e, .slice b1' n1 d1, .slice (some ⟨w1.heap.size + 1, 0, none⟩) 0 0, .slice b3 n3 d3] 29 (0, 0)) := hW2 ▸ (heap_old _ _ _ (by simp)).trans (heap_new' _ _ _ rfl)
  have oo : OwnP W2 (w1.heap.size + 1) (.slice (some ⟨w1.heap.size + 1, 0, none⟩) 0 0) (relP e qs (ps.take 0)) := hW2 ▸ ⟨rfl, .inr ⟨w1.heap.size + 1, 0, #[], rfl, Nat.le_refl _, heap_new' _ _ _ (by simp), Nat.le_refl _, by decide, rfl, rfl⟩⟩
  have A0 : Hid (W2.heap[w1.heap.size]? = some (.cells #[.int .i64 t, .int .i64 e, .slice b1' n1 d1, .slice (some ⟨w1.heap.size + 1, 0, none⟩) 0 0, .slice b3 n3 d3] 29 (0, 0)) ∧ OwnP W2 (w1.heap.size + 1) (.slice (some ⟨w1.heap.size + 1, 0, none⟩) 0 0) (relP e qs (ps.take 0)) ∧ Below w1.heap.size w1 W2) := ⟨xo, oo, B2⟩
  clear xo oo B2
  go_wp2
  go_loopw [4, 5, 6] (fun i _ _ wr => ∃ k : Nat, k ≤ z ∧ i = .int .i64 k ∧ ∃ v, Hid (wr.heap[w1.heap.size]? = some (.cells #[.int .i64 t, .int .i64 e, .slice b1' n1 d1, v, .slice b3 n3 d3] 29 (0, 0)) ∧ OwnP wr (w1.heap.size + 1) v (relP e qs (ps.take k)) ∧ Below w1.heap.size w1 wr)) (fun i _ _ _ => z - (intOf i).toNat)
  case atStart => exact ⟨0, by omega, rfl, _, A0⟩
  case round =>
    clear A0
    obtain ⟨k, hk, rfl, v, HA⟩ := hrel
    obtain ⟨av, nv, cv, rfl⟩ := own_shr HA.out.2.1
    have hbr := HA.out.2.2
    have hsr : w1.heap.size < wr.heap.size := slab_lt HA.out.1
    have xbr := keepBlk XB1.out hbr (by omega)
    have x3 : wr.cell? ⟨w.heap.size, 3, none⟩ = some (.slice a2 z c2) := (by simp [World.cell?, xbr])
    have x1 : wr.cell? ⟨w.heap.size, 1, none⟩ = some (.int .i64 e) := (by simp [World.cell?, xbr])
    have x4 : wr.cell? ⟨w.heap.size, 4, none⟩ = some (.slice a3 y c3) := (by simp [World.cell?, xbr])
    have XBR : Hid (wr.heap[w.heap.size]? = some (.cells #[.int .i64 t, .int .i64 e, .slice a1 x c1, .slice a2 z c2, .slice a3 y c3] 29 (0, 0))) := xbr
    have HBR : Hid (Below w1.heap.size w1 wr) := hbr
    clear xbr hbr
    by_cases hlt : k < z
    · have hltI : (k : Int) < (z : Int) := by omega
      obtain ⟨a2', c2', e2, r2⟩ := (R2.out.below HBR.out).row
      injection e2 with e2a e2b e2c
      subst e2a e2c
      clear e2b
      obtain ⟨b, off, rfl, hlb, hc0, hc1⟩ := r2 k (by rw [HZ.out]; exact hlt)
      clear r2
      have HS : Hid (relP e qs (ps.take (k + 1)) = if (decide (e - 1 ≤ (nthP ps k).2) || qs.any (fun q => decide (q ≤ (nthP ps k).2))) = true then relP e qs (ps.take k) ++ [nthP ps k] else relP e qs (ps.take k)) := relP_snoc e qs ps k (by rw [HZ.out]; exact hlt)
      obtain ⟨pp, hpp⟩ : ∃ pp, nthP ps k = pp := ⟨_, rfl⟩
      rw [hpp] at HS hc0 hc1
      clear hpp
      obtain ⟨pg, pe⟩ := pp
      have HLK : Hid ((relP e qs (ps.take k)).length ≤ 1048576) := by show _ ≤ _; have := relP_len e qs (ps.take k); rw [List.length_take] at this; have := HL2.out; omega
      go_wp2_with fail
      go_quiet (fail)
      go_wp2
      go_loopw [5, 6] (fun u i wx => ∃ j : Nat, j ≤ y ∧ i = .int .i64 j ∧ u = .bool (decide (e - 1 ≤ pe) || (qs.take j).any (fun q => decide (q ≤ pe))) ∧ Hid (∀ n, Below n wr wx)) (fun _ i _ => y - (intOf i).toNat)
      case atStart => exact ⟨0, by omega, rfl, by simp, fun n => below_drewN (Below.refl n wr) _⟩
      case round =>
        obtain ⟨j, hj, rfl, rfl, HSX⟩ := hrel
        rename World => wx
        have y1 : wx.cell? ⟨w.heap.size, 4, none⟩ = some (.slice a3 y c3) := ((HSX.out (w.heap.size + 1)).cell (p := ⟨w.heap.size, 4, none⟩) (Nat.lt_succ_self _)).trans x4
        have y3 : wx.cell? ⟨w.heap.size, 3, none⟩ = some (.slice (some ⟨b, off, none⟩) z c2) := ((HSX.out (w.heap.size + 1)).cell (p := ⟨w.heap.size, 3, none⟩) (Nat.lt_succ_self _)).trans x3
        have yc0 : wx.cell? ⟨b, off + k * 2, none⟩ = some (.int .i64 pg) := ((HSX.out (b + 1)).cell (p := ⟨b, off + k * 2, none⟩) (Nat.lt_succ_self _)).trans hc0
        have yc1 : wx.cell? ⟨b, off + k * 2 + 1, none⟩ = some (.int .i64 pe) := ((HSX.out (b + 1)).cell (p := ⟨b, off + k * 2 + 1, none⟩) (Nat.lt_succ_self _)).trans hc1
        obtain ⟨f, hf⟩ : ∃ f, (decide (e - 1 ≤ pe) || (qs.take j).any (fun q => decide (q ≤ pe))) = f := ⟨_, rfl⟩
        have HF : Hid ((decide (e - 1 ≤ pe) || (qs.take j).any (fun q => decide (q ≤ pe))) = f) := hf
        rw [hf]
        clear hf
        by_cases hlt2 : j < y
        · have hlt2I : (j : Int) < (y : Int) := by omega
          obtain ⟨a3', c3', e3, r3⟩ := ((R3.out.below HBR.out).below (HSX.out _)).row
          injection e3 with e3a e3b e3c
          subst e3a e3c
          clear e3b
          obtain ⟨bq, oq, rfl, hlq, hcq⟩ := r3 j (by rw [HY.out]; exact hlt2)
          have hsn := anyQ_snoc qs pe j (by rw [HY.out]; exact hlt2)
          obtain ⟨qv, hqv⟩ : ∃ qv, nthI qs j = qv := ⟨_, rfl⟩
          rw [hqv] at hcq hsn
          have HN : Hid ((decide (e - 1 ≤ pe) || (qs.take (j + 1)).any (fun q => decide (q ≤ pe))) = (f || decide (qv ≤ pe))) := by show _ = _; rw [hsn, ← Bool.or_assoc, HF.out]
          clear r3 hsn hqv
          cases f
          · have hd : decide (false = true) = false := rfl
            go_wp2_with fail
            go_quiet (fail)
            go_wp2
            go_roundw
            case rel => exact ⟨j + 1, by omega, by go_num, by rw [HN.out]; simp, fun n => below_drewN (HSX.out n) _⟩
            case measure => simp [intOf]; omega
          · go_wp2_with fail
            go_quiet (fail)
            go_wp2
            go_roundw
            case rel => exact ⟨j + 1, by omega, by go_num, by rw [HN.out]; simp, fun n => below_drewN (HSX.out n) _⟩
            case measure => simp [intOf]; omega
        · obtain rfl : j = y := by omega
          have HU : Hid ((decide (e - 1 ≤ pe) || qs.any (fun q => decide (q ≤ pe))) = f) := by show _ = _; rw [← HF.out, List.take_of_length_le (by rw [HY.out]; exact Nat.le_refl _)]
          have hsx := HSX.out
          have zx : wr.heap.size ≤ wx.heap.size := (hsx 0).size
          have XO : Hid (wx.heap[w1.heap.size]? = some (.cells #[.int .i64 t, .int .i64 e, .slice b1' n1 d1, .slice av nv cv, .slice b3 n3 d3] 29 (0, 0))) := keepBlk HA.out.1 (hsx (w1.heap.size + 1)) (Nat.lt_succ_self _)
          have OX : Hid (OwnP wx (w1.heap.size + 1) (.slice av nv cv) (relP e qs (ps.take k))) := own_keep HA.out.2.1 (fun g _ _ => (hsx (g + 1)).block g (Nat.lt_succ_self _))
          have BX : Hid (Below w1.heap.size w1 wx) := HBR.out.trans (hsx _)
          clear hsx
          cases f
          · have HN : Hid (relP e qs (ps.take (k + 1)) = relP e qs (ps.take k)) := by show _ = _; rw [HS.out, HU.out]; rfl
            go_wp2
            go_roundw
            case rel => exact ⟨k + 1, by omega, by go_num, _, XO.out, by rw [HN.out]; exact OX.out, BX.out⟩
            case measure => simp [intOf]; omega
          · have HN : Hid (relP e qs (ps.take (k + 1)) = relP e qs (ps.take k) ++ [(pg, pe)]) := by show _ = _; rw [HS.out, HU.out]; rfl
            have hda : Below wx.heap.size wx (wx.drew.alloc (.cells #[.int .i64 pg, .int .i64 pe] 88)) := below_draw.alloc (Nat.le_refl _) _
            obtain ⟨v', w2, hr', ho', hg'⟩ := app_held (.slice av nv cv) (relP e qs (ps.take k)) (wx.drew.alloc (.cells #[.int .i64 pg, .int .i64 pe] 88)) (w1.heap.size + 1) (own_keep OX.out (fun g _ hl => hda.block g hl)) HLK.out (pg, pe) wx.heap.size (heap_new' _ _ _ rfl) (by simp; omega)
            obtain ⟨ax, nx, cx, rfl⟩ := own_shr ho'
            have xo := XO.out
            have y30 : wx.cell? ⟨w1.heap.size, 3, none⟩ = some (.slice av nv cv) := (by simp [World.cell?, xo])
            have sx1 : w1.heap.size < wx.heap.size := by omega
            have sx2 : w.heap.size < wx.heap.size := by omega
            have sx3 : b < wx.heap.size := by omega
            have hbl2 : w2.heap[w1.heap.size]? = some (.cells #[.int .i64 t, .int .i64 e, .slice b1' n1 d1, .slice av nv cv, .slice b3 n3 d3] 29 (0, 0)) := (hg'.block _ (by simp; omega) (by intro hq; have := (own_lt OX.out hq.symm).1; omega)).trans ((hda.block _ sx1).trans xo)
            have y32 : w2.cell? ⟨w1.heap.size, 3, none⟩ = some (.slice av nv cv) := (by simp [World.cell?, hbl2])
            have f32 : ∀ o, w2.frozen? ⟨w1.heap.size, o, none⟩ = false := fun o => (by simp [World.frozen?, hbl2])
            have HP2 : Hid (OwnP w2 (w1.heap.size + 1) (.slice ax nx cx) (relP e qs (ps.take (k + 1)))) := by show OwnP _ _ _ _; rw [HN.out]; exact ho'
            have HB2 : Hid (Below w1.heap.size w1 w2) := (BX.out.trans (hda.mono (by omega))).grown hg' (by simp; omega) (fun q hq => by have := (own_lt OX.out hq).1; omega)
            have HX2 : Hid (w2.heap[w1.heap.size]? = some (.cells #[.int .i64 t, .int .i64 e, .slice b1' n1 d1, .slice av nv cv, .slice b3 n3 d3] 29 (0, 0))) := hbl2
            clear ho' hg' hda xo hbl2
            go_wp2_with fail
            go_region_law (first | (refine step_append_run (by rfl) _ _ _ _ (by rfl) _ _ (by rfl) (by rfl) _ _ hr' ?_))
            all_goals
              go_wp2
              go_roundw
              case rel => exact ⟨k + 1, by omega, by go_num, _, slab_set HX2.out _, own_keep HP2.out (fun g hg _ => Below.heap_setCell _ _ _ _ (by show g ≠ w1.heap.size; omega)), HB2.out.setCell (p := ⟨w1.heap.size, 3, none⟩) (Nat.le_refl _) _⟩
              case measure => simp [intOf]; omega
    · obtain rfl : k = z := by omega
      have HE : Hid (relP e qs (ps.take k) = relP e qs ps) := by show _ = _; rw [List.take_of_length_le (by rw [HZ.out]; exact Nat.le_refl _)]
      have xo := HA.out.1
      have xr := keepBlk XR1.out HBR.out (by omega)
      have co0wr : wr.cell? ⟨w1.heap.size, 0, none⟩ = some (.int .i64 t) := (by simp [World.cell?, xo])
      have co1wr : wr.cell? ⟨w1.heap.size, 1, none⟩ = some (.int .i64 e) := (by simp [World.cell?, xo])
      have co2wr : wr.cell? ⟨w1.heap.size, 2, none⟩ = some (.slice b1' n1 d1) := (by simp [World.cell?, xo])
      have co3wr : wr.cell? ⟨w1.heap.size, 3, none⟩ = some (.slice av nv cv) := (by simp [World.cell?, xo])
      have co4wr : wr.cell? ⟨w1.heap.size, 4, none⟩ = some (.slice b3 n3 d3) := (by simp [World.cell?, xo])
      have fowr : ∀ o, wr.frozen? ⟨w1.heap.size, o, none⟩ = false := fun o => (by simp [World.frozen?, xo])
      have cr0wr : wr.cell? ⟨w.heap.size + 1, 0, none⟩ = some (.int .i64 0) := (by simp [World.cell?, xr])
      have cr1wr : wr.cell? ⟨w.heap.size + 1, 1, none⟩ = some (.int .i64 0) := (by simp [World.cell?, xr])
      have cr2wr : wr.cell? ⟨w.heap.size + 1, 2, none⟩ = some (.slice none 0 0) := (by simp [World.cell?, xr])
      have cr3wr : wr.cell? ⟨w.heap.size + 1, 3, none⟩ = some (.slice none 0 0) := (by simp [World.cell?, xr])
      have cr4wr : wr.cell? ⟨w.heap.size + 1, 4, none⟩ = some (.slice none 0 0) := (by simp [World.cell?, xr])
      have frwr : ∀ o, wr.frozen? ⟨w.heap.size + 1, o, none⟩ = false := fun o => (by simp [World.frozen?, xr])
      have BW : Hid (Below w.heap.size w wr) := B1.trans (HBR.out.mono B1.size)
      clear xo xr
      go_wp2
      refine bodyPost_ret (v := SV t e (.slice b1' n1 d1) (.slice av nv cv) (.slice b3 n3 d3)) (by go_simp; simp [results, Try.results68, go_sem, cr0wr, cr1wr, cr2wr, cr3wr, cr4wr]) rfl ⟨_, _, _, rfl, ?_, ?_, ?_, ?_⟩
      · exact own_mono (own_keep O1.out (fun g hg hl => (five_other _ _ _ _ _ _ _ (by omega)).trans (HBR.out.block g hl))) (by omega)
      · rw [← HE.out]; exact own_mono (own_keep HA.out.2.1 (fun g hg _ => five_other _ _ _ _ _ _ _ (by omega))) (by omega)
      · exact own_mono (own_keep O3.out (fun g hg hl => (five_other _ _ _ _ _ _ _ (by omega)).trans (HBR.out.block g hl))) (by omega)
      · exact five_below BW.out (by omega) _ _ _ _ _
end Go.Proofs.Ytaklphoplfofbaa
