/- l04Step, whole (stage 4). -/
import Derived.Test.YtaklphoplfofbaaStX
import Derived.Test.YtaklphoplfofbaaStT
namespace Go.Proofs.Ytaklphoplfofbaa
open Go.RowKit

abbrev QSR (w : World) (v1 v2 v3 : Value) (ss : List Int) (ps : List P2) (qs : List Int) (t : Int) (R : SR) (r : Ending) (w' : World) : Prop := QS w v1 v2 v3 ss ps qs t R r w'
theorem commitS_any (t : Nat) (e n : Int) (v1 v2 v3 : Value) (ss : List Int) (ps : List P2) (qs : List Int) (w : World) (ok : OkSp t e ss ps qs) (h1 : ReadI w v1 ss) (h2 : ReadP w v2 ps) (h3 : ReadI w v3 qs) :
    Calls Try.prog 67 #[SV t e v1 v2 v3, .int .i64 n] w (QS w v1 v2 v3 ss ps qs t (stp t e ss ps qs 1 n)) := by
  have t0 := ok.1
  have e0 := ok.2.1
  have q0 := ok.2.2.2.2.2.1
  have m0 := ok_many ok
  by_cases hn : 0 ≤ n ∧ n ≤ 64
  · obtain ⟨k, rfl⟩ := Int.eq_ofNat_of_zero_le hn.1
    by_cases hf : (freeK (usedB ss ps) t).length < k ∨ e = 1000000
    · have E : stp t e ss ps qs 1 (k : Int) = ⟨e, ss, ps, qs, 7, []⟩ := by unfold stp; rw [if_pos rfl, if_pos hn, if_pos (by simpa using hf)]
      rw [E]
      exact commitS_full t e k v1 v2 v3 ss ps qs w h1 h2 h3 (by omega) (by omega) (by omega) (by omega) (by omega) hf
    · have E : stp t e ss ps qs 1 (k : Int) = ⟨e + 1, (freeK (usedB ss ps) t).take k, relP (e + 1) qs (mer e ss ps), qs, 0, (freeK (usedB ss ps) t).take k⟩ := by
        unfold stp
        rw [if_pos rfl, if_pos hn, if_neg (by simpa using hf)]
        simp
      rw [E]
      exact commitS_ok t e k v1 v2 v3 ss ps qs w h1 h2 h3 (by omega) (by omega) (by omega) (by omega) (by omega) (by omega) (by omega) (by omega) (by omega) (by omega)
  · have E : stp t e ss ps qs 1 n = ⟨e, ss, ps, qs, 4, []⟩ := by unfold stp; rw [if_pos rfl, if_neg hn]
    rw [E]
    exact commitS_range t e n v1 v2 v3 ss ps qs w h1 h2 h3 (by omega) (by omega) (by omega) (by omega) hn

set_option maxRecDepth 100000 in
set_option maxHeartbeats 8000000 in
theorem stepS_commit (t : Nat) (e n : Int) (v1 v2 v3 : Value) (ss : List Int) (ps : List P2) (qs : List Int) (w : World) (h1 : ReadI w v1 ss) (h2 : ReadP w v2 ps) (h3 : ReadI w v3 qs) (l1 : ss.length ≤ 1048576) (l2 : ps.length ≤ 1048576) (l3 : qs.length ≤ 1048576) (ok : OkSp t e ss ps qs) :
    Calls Try.prog 45 #[SV t e v1 v2 v3, .agg #[.int .i64 1, .int .i64 n]] w (QS w v1 v2 v3 ss ps qs t (stp t e ss ps qs 1 n)) := by
  have OK : Hid (OkSp t e ss ps qs) := ok
  clear ok
  have HL1 : Hid (ss.length ≤ 1048576) := l1
  have HL2 : Hid (ps.length ≤ 1048576) := l2
  have HL3 : Hid (qs.length ≤ 1048576) := l3
  have HR1 : Hid (ReadI w v1 ss) := h1
  have HR2 : Hid (ReadP w v2 ps) := h2
  have HR3 : Hid (ReadI w v3 qs) := h3
  obtain ⟨a1, c1, rfl, _⟩ := h1.row
  obtain ⟨a2, c2, rfl, _⟩ := h2.row
  obtain ⟨a3, c3, rfl, _⟩ := h3.row
  clear h1 h2 h3
  obtain ⟨x, hx⟩ : ∃ x, ss.length = x := ⟨_, rfl⟩
  obtain ⟨z, hz⟩ : ∃ z, ps.length = z := ⟨_, rfl⟩
  obtain ⟨y, hy⟩ : ∃ y, qs.length = y := ⟨_, rfl⟩
  have HX : Hid (ss.length = x) := hx
  have HZ : Hid (ps.length = z) := hz
  have HY : Hid (qs.length = y) := hy
  rw [hx] at HR1 ⊢
  rw [hz] at HR2 ⊢
  rw [hy] at HR3 ⊢
  try rw [hx] at l1
  try rw [hz] at l2
  try rw [hy] at l3
  clear hx hy hz
  obtain ⟨W0, hW0⟩ : ∃ W0, W6 w t e (.slice a1 x c1) (.slice a2 z c2) (.slice a3 y c3) 1 n = W0 := ⟨_, rfl⟩
  have B0 : Below w.heap.size w W0 := hW0 ▸ below_W6 w t e _ _ _ _ _
  have z0 : W0.heap.size = w.heap.size + 6 := hW0 ▸ W6_size w t e _ _ _ _ _
  have xbW0 : W0.heap[w.heap.size]? = some (.cells #[.int .i64 t, .int .i64 e, .slice a1 x c1, .slice a2 z c2, .slice a3 y c3] 29 (0, 0)) := hW0 ▸ W6_b w t e _ _ _ _ _
  have xaW0 : W0.heap[w.heap.size + 1]? = some (.cells #[.int .i64 1, .int .i64 n] 39 (0, 0)) := hW0 ▸ W6_a w t e _ _ _ _ _
  have xrW0 : W0.heap[w.heap.size + 1 + 1]? = some (.cells #[.int .i64 0, .int .i64 0, .slice none 0 0, .slice none 0 0, .slice none 0 0] 29 (0, 0)) := hW0 ▸ W6_r w t e _ _ _ _ _
  have xqW0 : W0.heap[w.heap.size + 1 + 1 + 1]? = some (.cells #[.int .i64 0, .slice none 0 0] 37 (0, 0)) := hW0 ▸ W6_q w t e _ _ _ _ _
  have xeW0 : W0.heap[w.heap.size + 1 + 1 + 1 + 1]? = some (.cells #[] 3 (0, 0)) := hW0 ▸ W6_e w t e _ _ _ _ _
  have xpW0 : W0.heap[w.heap.size + 1 + 1 + 1 + 1 + 1]? = some (.cells #[.int .i64 0, .slice (some ⟨w.heap.size + 1 + 1 + 1 + 1, 0, none⟩) 0 0] 37 (0, 0)) := hW0 ▸ W6_p w t e _ _ _ _ _
  have cb0W0 : W0.cell? ⟨w.heap.size, 0, none⟩ = some (.int .i64 t) := (by simp [World.cell?, xbW0])
  have cb1W0 : W0.cell? ⟨w.heap.size, 1, none⟩ = some (.int .i64 e) := (by simp [World.cell?, xbW0])
  have cb2W0 : W0.cell? ⟨w.heap.size, 2, none⟩ = some (.slice a1 x c1) := (by simp [World.cell?, xbW0])
  have cb3W0 : W0.cell? ⟨w.heap.size, 3, none⟩ = some (.slice a2 z c2) := (by simp [World.cell?, xbW0])
  have cb4W0 : W0.cell? ⟨w.heap.size, 4, none⟩ = some (.slice a3 y c3) := (by simp [World.cell?, xbW0])
  have fbW0 : ∀ o, W0.frozen? ⟨w.heap.size, o, none⟩ = false := fun o => (by simp [World.frozen?, xbW0])
  have ca0W0 : W0.cell? ⟨w.heap.size + 1, 0, none⟩ = some (.int .i64 1) := (by simp [World.cell?, xaW0])
  have ca1W0 : W0.cell? ⟨w.heap.size + 1, 1, none⟩ = some (.int .i64 n) := (by simp [World.cell?, xaW0])
  have faW0 : ∀ o, W0.frozen? ⟨w.heap.size + 1, o, none⟩ = false := fun o => (by simp [World.frozen?, xaW0])
  have cr0W0 : W0.cell? ⟨w.heap.size + 1 + 1, 0, none⟩ = some (.int .i64 0) := (by simp [World.cell?, xrW0])
  have cr1W0 : W0.cell? ⟨w.heap.size + 1 + 1, 1, none⟩ = some (.int .i64 0) := (by simp [World.cell?, xrW0])
  have cr2W0 : W0.cell? ⟨w.heap.size + 1 + 1, 2, none⟩ = some (.slice none 0 0) := (by simp [World.cell?, xrW0])
  have cr3W0 : W0.cell? ⟨w.heap.size + 1 + 1, 3, none⟩ = some (.slice none 0 0) := (by simp [World.cell?, xrW0])
  have cr4W0 : W0.cell? ⟨w.heap.size + 1 + 1, 4, none⟩ = some (.slice none 0 0) := (by simp [World.cell?, xrW0])
  have frW0 : ∀ o, W0.frozen? ⟨w.heap.size + 1 + 1, o, none⟩ = false := fun o => (by simp [World.frozen?, xrW0])
  have cq0W0 : W0.cell? ⟨w.heap.size + 1 + 1 + 1, 0, none⟩ = some (.int .i64 0) := (by simp [World.cell?, xqW0])
  have cq1W0 : W0.cell? ⟨w.heap.size + 1 + 1 + 1, 1, none⟩ = some (.slice none 0 0) := (by simp [World.cell?, xqW0])
  have fqW0 : ∀ o, W0.frozen? ⟨w.heap.size + 1 + 1 + 1, o, none⟩ = false := fun o => (by simp [World.frozen?, xqW0])
  have cp0W0 : W0.cell? ⟨w.heap.size + 1 + 1 + 1 + 1 + 1, 0, none⟩ = some (.int .i64 0) := (by simp [World.cell?, xpW0])
  have cp1W0 : W0.cell? ⟨w.heap.size + 1 + 1 + 1 + 1 + 1, 1, none⟩ = some (.slice (some ⟨w.heap.size + 1 + 1 + 1 + 1, 0, none⟩) 0 0) := (by simp [World.cell?, xpW0])
  have fpW0 : ∀ o, W0.frozen? ⟨w.heap.size + 1 + 1 + 1 + 1 + 1, o, none⟩ = false := fun o => (by simp [World.frozen?, xpW0])
  have XB : Hid (W0.heap[w.heap.size]? = some (.cells #[.int .i64 t, .int .i64 e, .slice a1 x c1, .slice a2 z c2, .slice a3 y c3] 29 (0, 0))) := xbW0
  have XA : Hid (W0.heap[w.heap.size + 1]? = some (.cells #[.int .i64 1, .int .i64 n] 39 (0, 0))) := xaW0
  have XR : Hid (W0.heap[w.heap.size + 1 + 1]? = some (.cells #[.int .i64 0, .int .i64 0, .slice none 0 0, .slice none 0 0, .slice none 0 0] 29 (0, 0))) := xrW0
  have XQ : Hid (W0.heap[w.heap.size + 1 + 1 + 1]? = some (.cells #[.int .i64 0, .slice none 0 0] 37 (0, 0))) := xqW0
  have XE : Hid (W0.heap[w.heap.size + 1 + 1 + 1 + 1]? = some (.cells #[] 3 (0, 0))) := xeW0
  have XP : Hid (W0.heap[w.heap.size + 1 + 1 + 1 + 1 + 1]? = some (.cells #[.int .i64 0, .slice (some ⟨w.heap.size + 1 + 1 + 1 + 1, 0, none⟩) 0 0] 37 (0, 0))) := xpW0
  clear xbW0 xaW0 xrW0 xqW0 xeW0 xpW0
  go_enter Try.func45, Try.ntmps45
  go_wp2_with fail
  refine (commitS_any t e n _ _ _ ss ps qs W0 OK.out (HR1.out.below B0) (HR2.out.below B0) (HR3.out.below B0)).mono ?_
  rintro r w1 ⟨u1, u2, u3, u4, rfl, j1, j2, j3, j4, b1⟩
  have sh1 : ∃ a k c, u1 = .slice a k c := by
    rcases j1 with ⟨e, _⟩ | o
    · exact ⟨_, _, _, e⟩
    · exact own_shr o
  have sh2 : ∃ a k c, u2 = .slice a k c := by
    rcases j2 with ⟨e, _⟩ | o
    · exact ⟨_, _, _, e⟩
    · exact own_shr o
  have sh3 : ∃ a k c, u3 = .slice a k c := by
    rcases j3 with ⟨e, _⟩ | o
    · exact ⟨_, _, _, e⟩
    · exact own_shr o
  obtain ⟨b1', k1, d1, rfl⟩ := sh1
  obtain ⟨b2, k2, d2, rfl⟩ := sh2
  obtain ⟨b3, k3, d3, rfl⟩ := sh3
  obtain ⟨b4, k4, d4, rfl⟩ := own_shr j4
  have s1 : W0.heap.size ≤ w1.heap.size := b1.size
  have xrw1 := keepBlk XR.out b1 (by omega)
  have xqw1 := keepBlk XQ.out b1 (by omega)
  have HA : Hid (((.slice b1' k1 d1 : Value) = .slice a1 x c1 ∧ (stp t e ss ps qs 1 n).ss = ss ∨ OwnI w1 W0.heap.size (.slice b1' k1 d1) (stp t e ss ps qs 1 n).ss) ∧ ((.slice b2 k2 d2 : Value) = .slice a2 z c2 ∧ (stp t e ss ps qs 1 n).ps = ps ∨ OwnP w1 W0.heap.size (.slice b2 k2 d2) (stp t e ss ps qs 1 n).ps) ∧ ((.slice b3 k3 d3 : Value) = .slice a3 y c3 ∧ (stp t e ss ps qs 1 n).qs = qs ∨ OwnI w1 W0.heap.size (.slice b3 k3 d3) (stp t e ss ps qs 1 n).qs) ∧ OwnI w1 W0.heap.size (.slice b4 k4 d4) (stp t e ss ps qs 1 n).pg) := ⟨j1, j2, j3, j4⟩
  have B1 : Hid (Below w.heap.size w w1) := B0.trans (b1.mono B0.size)
  clear j1 j2 j3 j4 b1 cb0W0 cb1W0 cb2W0 cb3W0 cb4W0 fbW0 ca0W0 ca1W0 faW0 cr0W0 cr1W0 cr2W0 cr3W0 cr4W0 frW0 cq0W0 cq1W0 fqW0 cp0W0 cp1W0 fpW0
  have cr0w1 : w1.cell? ⟨w.heap.size + 1 + 1, 0, none⟩ = some (.int .i64 0) := (by simp [World.cell?, xrw1])
  have cr1w1 : w1.cell? ⟨w.heap.size + 1 + 1, 1, none⟩ = some (.int .i64 0) := (by simp [World.cell?, xrw1])
  have cr2w1 : w1.cell? ⟨w.heap.size + 1 + 1, 2, none⟩ = some (.slice none 0 0) := (by simp [World.cell?, xrw1])
  have cr3w1 : w1.cell? ⟨w.heap.size + 1 + 1, 3, none⟩ = some (.slice none 0 0) := (by simp [World.cell?, xrw1])
  have cr4w1 : w1.cell? ⟨w.heap.size + 1 + 1, 4, none⟩ = some (.slice none 0 0) := (by simp [World.cell?, xrw1])
  have frw1 : ∀ o, w1.frozen? ⟨w.heap.size + 1 + 1, o, none⟩ = false := fun o => (by simp [World.frozen?, xrw1])
  have cq0w1 : w1.cell? ⟨w.heap.size + 1 + 1 + 1, 0, none⟩ = some (.int .i64 0) := (by simp [World.cell?, xqw1])
  have cq1w1 : w1.cell? ⟨w.heap.size + 1 + 1 + 1, 1, none⟩ = some (.slice none 0 0) := (by simp [World.cell?, xqw1])
  have fqw1 : ∀ o, w1.frozen? ⟨w.heap.size + 1 + 1 + 1, o, none⟩ = false := fun o => (by simp [World.frozen?, xqw1])
  clear xrw1 xqw1
  generalize hRe : (stp t e ss ps qs 1 n).e = Re at *
  generalize hRc : (stp t e ss ps qs 1 n).c = Rc at *
  go_wp2
  refine bodyPost_ret (v := .tuple #[SV t Re (.slice b1' k1 d1) (.slice b2 k2 d2) (.slice b3 k3 d3), .agg #[.int .i64 Rc, .slice b4 k4 d4]]) (by go_simp; simp [results, Try.results45, go_sem, cr0w1, cr1w1, cr2w1, cr3w1, cr4w1, cq0w1, cq1w1]) rfl ⟨_, _, _, _, by rw [hRe, hRc], HA.out.1.imp id (fun o => res_own o (by omega) (by omega) _ _ _ _ _ _ _), HA.out.2.1.imp id (fun o => res_own o (by omega) (by omega) _ _ _ _ _ _ _), HA.out.2.2.1.imp id (fun o => res_own o (by omega) (by omega) _ _ _ _ _ _ _), res_own HA.out.2.2.2 (by omega) (by omega) _ _ _ _ _ _ _, res_below B1.out (by omega) _ _ _ _ _ _ _⟩

theorem l04Step_any (t : Nat) (e kk n : Int) (v1 v2 v3 : Value) (ss : List Int) (ps : List P2) (qs : List Int) (w : World) (ok : OkSp t e ss ps qs) (h1 : ReadI w v1 ss) (h2 : ReadP w v2 ps) (h3 : ReadI w v3 qs) :
    Calls Try.prog 45 #[SV t e v1 v2 v3, .agg #[.int .i64 kk, .int .i64 n]] w (QS w v1 v2 v3 ss ps qs t (stp t e ss ps qs kk n)) := by
  have t0 := ok.1
  have e0 := ok.2.1
  have q0 := ok.2.2.2.2.2.1
  have m0 := ok_many ok
  rcases (show kk = 1 ∨ kk = 2 ∨ kk = 3 ∨ (¬ kk = 1 ∧ ¬ kk = 2 ∧ ¬ kk = 3) by omega) with rfl | rfl | rfl | ⟨k1, k2, k3⟩
  · exact stepS_commit t e n v1 v2 v3 ss ps qs w h1 h2 h3 (by omega) (by omega) (by omega) ok
  · by_cases hq : 4 ≤ qs.length
    · have E : stp t e ss ps qs 2 n = ⟨e, ss, ps, qs, 7, []⟩ := by unfold stp; rw [if_neg (by omega), if_pos rfl, if_pos hq]
      rw [E]
      exact stepS_pinfull t e n v1 v2 v3 ss ps qs w h1 h2 h3 (by omega) (by omega) (by omega) (by omega)
    · have E : stp t e ss ps qs 2 n = ⟨e, ss, ps, qs ++ [e], 0, ss⟩ := by unfold stp; rw [if_neg (by omega), if_pos rfl, if_neg hq]
      rw [E]
      exact stepS_pin t e n v1 v2 v3 ss ps qs w h1 h2 h3 (by omega) (by omega) (by omega) (by omega) (by omega)
  · by_cases hn : 0 ≤ n ∧ n < qs.length
    · obtain ⟨k, rfl⟩ := Int.eq_ofNat_of_zero_le hn.1
      have E : stp t e ss ps qs 3 (k : Int) = ⟨e, ss, relP e (qs.eraseIdx k) ps, qs.eraseIdx k, 0, []⟩ := by
        unfold stp
        rw [if_neg (by omega), if_neg (by omega), if_pos rfl, if_pos hn]
        simp
      rw [E]
      exact stepS_unpin t e k v1 v2 v3 ss ps qs w h1 h2 h3 (by omega) (by omega) (by omega) (by omega) (by omega) (by omega) (by omega)
    · have E : stp t e ss ps qs 3 n = ⟨e, ss, ps, qs, 5, []⟩ := by unfold stp; rw [if_neg (by omega), if_neg (by omega), if_pos rfl, if_neg hn]
      rw [E]
      exact stepS_unpinnone t e n v1 v2 v3 ss ps qs w h1 h2 h3 (by omega) (by omega) (by omega) hn
  · have E : stp t e ss ps qs kk n = ⟨e, ss, ps, qs, 3, []⟩ := by unfold stp; rw [if_neg k1, if_neg k2, if_neg k3]
    rw [E]
    exact stepS_form t e kk n v1 v2 v3 ss ps qs w h1 h2 h3 (by omega) (by omega) (by omega) k1 k2 k3
end Go.Proofs.Ytaklphoplfofbaa
