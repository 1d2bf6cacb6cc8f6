/- spaceAct (stage 4). -/
import Derived.Test.YtaklphoplfofbaaStK
namespace Go.Proofs.Ytaklphoplfofbaa
open Go.RowKit Go.Maps Go.WideShapes Go.ChangeMaps Go.MapKept

abbrev W4 (w : World) (t e : Int) (v1 v2 v3 : Value) (kk n : Int) : World := (((w.alloc (SC t e v1 v2 v3 29)).alloc (.cells #[.int .i64 kk, .int .i64 n] 39)).alloc (.cells #[.int .i64 0, .int .i64 0, .slice none 0 0, .slice none 0 0, .slice none 0 0] 29)).alloc (.cells #[.int .i64 0, .slice none 0 0] 37)
theorem below_W4 (w : World) (t e : Int) (v1 v2 v3 : Value) (kk n : Int) : Below w.heap.size w (W4 w t e v1 v2 v3 kk n) := ((((Below.refl _ _).alloc (Nat.le_refl _) _).alloc (by simp) _).alloc (by simp; omega) _).alloc (by simp; omega) _
theorem W4_size (w : World) (t e : Int) (v1 v2 v3 : Value) (kk n : Int) : (W4 w t e v1 v2 v3 kk n).heap.size = w.heap.size + 4 := by simp
theorem W4_b (w : World) (t e : Int) (v1 v2 v3 : Value) (kk n : Int) : (W4 w t e v1 v2 v3 kk n).heap[w.heap.size]? = some (.cells #[.int .i64 t, .int .i64 e, v1, v2, v3] 29 (0, 0)) :=
  (heap_old _ _ _ (by simp <;> omega)).trans ((heap_old _ _ _ (by simp <;> omega)).trans ((heap_old _ _ _ (by simp)).trans (heap_new' _ _ _ rfl)))
theorem W4_a (w : World) (t e : Int) (v1 v2 v3 : Value) (kk n : Int) : (W4 w t e v1 v2 v3 kk n).heap[w.heap.size + 1]? = some (.cells #[.int .i64 kk, .int .i64 n] 39 (0, 0)) :=
  (heap_old _ _ _ (by simp <;> omega)).trans ((heap_old _ _ _ (by simp)).trans (heap_new' _ _ _ (by simp)))
theorem W4_r (w : World) (t e : Int) (v1 v2 v3 : Value) (kk n : Int) : (W4 w t e v1 v2 v3 kk n).heap[w.heap.size + 1 + 1]? = some (.cells #[.int .i64 0, .int .i64 0, .slice none 0 0, .slice none 0 0, .slice none 0 0] 29 (0, 0)) :=
  (heap_old _ _ _ (by simp)).trans (heap_new' _ _ _ (by simp))
theorem W4_q (w : World) (t e : Int) (v1 v2 v3 : Value) (kk n : Int) : (W4 w t e v1 v2 v3 kk n).heap[w.heap.size + 1 + 1 + 1]? = some (.cells #[.int .i64 0, .slice none 0 0] 37 (0, 0)) := heap_new' _ _ _ (by simp)
theorem res_kept {S : Nat → Prop} {w w2 : World} {r : Nat} (h : Kept S w w2) (hr : w.heap.size ≤ r) (a b c d f i k : Value) : Kept S w (Res w2 r a b c d f i k) :=
  have x := res_below (Below.refl r w2) (Nat.le_refl r) a b c d f i k
  ⟨x.os.trans h.os, x.tape.trans h.tape, x.output.trans h.output, Nat.le_trans h.size x.size, fun g hg hS => (x.block g (by omega)).trans (h.block g hg hS)⟩
theorem res_map {w2 : World} {r m n : Nat} {D : DU} (h : MapOf w2 m n D) (h1 : m ≠ r) (h2 : m ≠ r + 1) (a b c d f i k : Value) : MapOf (Res w2 r a b c d f i k) m n D := by
  obtain ⟨es, clock, hb, rest⟩ := h
  exact ⟨es, clock, (res_other w2 r a b c d f i k m h1 h2).trans hb, rest⟩

set_option maxRecDepth 100000 in
set_option maxHeartbeats 16000000 in
theorem spaceAct_any (t : Nat) (e kk n : Int) (m c : Nat) (D : DU) (v1 v2 v3 : Value) (ss : List Int) (ps : List P2) (qs : List Int) (w : World) (ok : OkSp t e ss ps qs) (h1 : ReadI w v1 ss) (h2 : ReadP w v2 ps) (h3 : ReadI w v3 qs) (hm : MapOf w m c D) (l1 : ss.length ≤ 1048576) (l2 : ps.length ≤ 1048576) :
    Calls Try.prog 44 #[SV t e v1 v2 v3, .agg #[.int .i64 kk, .int .i64 n], .map (some m)] w fun r w' => SQR w v1 v2 v3 ss ps qs t (stp t e ss ps qs kk n) r w' ∧ Kept (fun j => j = m) w w' ∧ ∃ c' D', MapOf w' m c' D' := by
  have OK : Hid (OkSp t e ss ps qs) := ok
  have HM : Hid (MapOf w m c D) := hm
  have L1 : Hid (ss.length ≤ 1048576) := l1
  have L2 : Hid (ps.length ≤ 1048576) := l2
  have hml := hm.lt
  clear hm ok l1 l2
  have HR1 : Hid (ReadI w v1 ss) := h1
  have HR2 : Hid (ReadP w v2 ps) := h2
  have HR3 : Hid (ReadI w v3 qs) := h3
  obtain ⟨a1, c1, rfl, _⟩ := h1.row
  obtain ⟨a2, c2, rfl, _⟩ := h2.row
  obtain ⟨a3, c3, rfl, _⟩ := h3.row
  clear h1 h2 h3
  obtain ⟨x, hx⟩ : ∃ x, ss.length = x := ⟨_, rfl⟩
  obtain ⟨z, hz⟩ : ∃ z, ps.length = z := ⟨_, rfl⟩
  obtain ⟨y, hy⟩ : ∃ y, qs.length = y := ⟨_, rfl⟩
  have HX : Hid (ss.length = x) := hx
  have HZ : Hid (ps.length = z) := hz
  have HY : Hid (qs.length = y) := hy
  rw [hx] at HR1 ⊢
  rw [hz] at HR2 ⊢
  rw [hy] at HR3 ⊢
  try rw [hx] at l1
  try rw [hz] at l2
  try rw [hy] at l3
  clear hx hy hz
  obtain ⟨W0, hW0⟩ : ∃ W0, W4 w t e (.slice a1 x c1) (.slice a2 z c2) (.slice a3 y c3) kk n = W0 := ⟨_, rfl⟩
  have B0 : Below w.heap.size w W0 := hW0 ▸ below_W4 w t e _ _ _ _ _
  have z0 : W0.heap.size = w.heap.size + 4 := hW0 ▸ W4_size w t e _ _ _ _ _
  have xbW0 : W0.heap[w.heap.size]? = some (.cells #[.int .i64 t, .int .i64 e, .slice a1 x c1, .slice a2 z c2, .slice a3 y c3] 29 (0, 0)) := hW0 ▸ W4_b w t e _ _ _ _ _
  have xaW0 : W0.heap[w.heap.size + 1]? = some (.cells #[.int .i64 kk, .int .i64 n] 39 (0, 0)) := hW0 ▸ W4_a w t e _ _ _ _ _
  have xrW0 : W0.heap[w.heap.size + 1 + 1]? = some (.cells #[.int .i64 0, .int .i64 0, .slice none 0 0, .slice none 0 0, .slice none 0 0] 29 (0, 0)) := hW0 ▸ W4_r w t e _ _ _ _ _
  have xqW0 : W0.heap[w.heap.size + 1 + 1 + 1]? = some (.cells #[.int .i64 0, .slice none 0 0] 37 (0, 0)) := hW0 ▸ W4_q w t e _ _ _ _ _
  have cb0W0 : W0.cell? ⟨w.heap.size, 0, none⟩ = some (.int .i64 t) := (by simp [World.cell?, xbW0])
  have cb1W0 : W0.cell? ⟨w.heap.size, 1, none⟩ = some (.int .i64 e) := (by simp [World.cell?, xbW0])
  have cb2W0 : W0.cell? ⟨w.heap.size, 2, none⟩ = some (.slice a1 x c1) := (by simp [World.cell?, xbW0])
  have cb3W0 : W0.cell? ⟨w.heap.size, 3, none⟩ = some (.slice a2 z c2) := (by simp [World.cell?, xbW0])
  have cb4W0 : W0.cell? ⟨w.heap.size, 4, none⟩ = some (.slice a3 y c3) := (by simp [World.cell?, xbW0])
  have fbW0 : ∀ o, W0.frozen? ⟨w.heap.size, o, none⟩ = false := fun o => (by simp [World.frozen?, xbW0])
  have ca0W0 : W0.cell? ⟨w.heap.size + 1, 0, none⟩ = some (.int .i64 kk) := (by simp [World.cell?, xaW0])
  have ca1W0 : W0.cell? ⟨w.heap.size + 1, 1, none⟩ = some (.int .i64 n) := (by simp [World.cell?, xaW0])
  have faW0 : ∀ o, W0.frozen? ⟨w.heap.size + 1, o, none⟩ = false := fun o => (by simp [World.frozen?, xaW0])
  have cr0W0 : W0.cell? ⟨w.heap.size + 1 + 1, 0, none⟩ = some (.int .i64 0) := (by simp [World.cell?, xrW0])
  have cr1W0 : W0.cell? ⟨w.heap.size + 1 + 1, 1, none⟩ = some (.int .i64 0) := (by simp [World.cell?, xrW0])
  have cr2W0 : W0.cell? ⟨w.heap.size + 1 + 1, 2, none⟩ = some (.slice none 0 0) := (by simp [World.cell?, xrW0])
  have cr3W0 : W0.cell? ⟨w.heap.size + 1 + 1, 3, none⟩ = some (.slice none 0 0) := (by simp [World.cell?, xrW0])
  have cr4W0 : W0.cell? ⟨w.heap.size + 1 + 1, 4, none⟩ = some (.slice none 0 0) := (by simp [World.cell?, xrW0])
  have frW0 : ∀ o, W0.frozen? ⟨w.heap.size + 1 + 1, o, none⟩ = false := fun o => (by simp [World.frozen?, xrW0])
  have cq0W0 : W0.cell? ⟨w.heap.size + 1 + 1 + 1, 0, none⟩ = some (.int .i64 0) := (by simp [World.cell?, xqW0])
  have cq1W0 : W0.cell? ⟨w.heap.size + 1 + 1 + 1, 1, none⟩ = some (.slice none 0 0) := (by simp [World.cell?, xqW0])
  have fqW0 : ∀ o, W0.frozen? ⟨w.heap.size + 1 + 1 + 1, o, none⟩ = false := fun o => (by simp [World.frozen?, xqW0])
  have HM0 : Hid (MapOf W0 m c D) := HM.out.kept (row := none) ⟨B0.os, B0.tape, B0.output, B0.size, fun i hi _ => B0.block i hi⟩ (by simp)
  have FILL : Hid (Calls Try.prog 49 #[.map (some m), SV t e (.slice a1 x c1) (.slice a2 z c2) (.slice a3 y c3)] W0 fun r w' => r = .returned (.tuple #[]) ∧ MapOf w' m (ss.length + ps.length) (dOf (kvOf e ss ps)) ∧ W0.grownBy w' (some m)) := by
    obtain ⟨a, cc, e1, r1⟩ := (HR1.out.below B0).row
    obtain ⟨a', cc', e2, r2⟩ := (HR2.out.below B0).row
    have hh := fill_any m c D t e a a' cc cc' (.slice a3 y c3) ss ps W0 HM0.out r1 r2 L1.out L2.out (by have := OK.out.2.1; unfold InR; omega)
      (fun i hi => by have := OK.out.2.2.1.1 i hi; have := OK.out.1; unfold InR; omega) (fun i hi => by have := OK.out.2.2.2.1.1 i hi; have := OK.out.2.1; have := OK.out.1; unfold InR; omega)
    rw [← e1, ← e2] at hh
    exact hh
  have XB0 : Hid (W0.heap[w.heap.size]? = some (.cells #[.int .i64 t, .int .i64 e, .slice a1 x c1, .slice a2 z c2, .slice a3 y c3] 29 (0, 0))) := xbW0
  have XA0 : Hid (W0.heap[w.heap.size + 1]? = some (.cells #[.int .i64 kk, .int .i64 n] 39 (0, 0))) := xaW0
  have XR0 : Hid (W0.heap[w.heap.size + 1 + 1]? = some (.cells #[.int .i64 0, .int .i64 0, .slice none 0 0, .slice none 0 0, .slice none 0 0] 29 (0, 0))) := xrW0
  have XQ0 : Hid (W0.heap[w.heap.size + 1 + 1 + 1]? = some (.cells #[.int .i64 0, .slice none 0 0] 37 (0, 0))) := xqW0
  clear xbW0 xaW0 xrW0 xqW0
  go_enter Try.func44, Try.ntmps44
  go_wp2_with fail
  refine FILL.out.mono ?_
  rintro r w1 ⟨rfl, hm1, g1⟩
  have HM1 : Hid (MapOf w1 m (ss.length + ps.length) (dOf (kvOf e ss ps))) := hm1
  have n1 : W0.heap.size ≤ w1.heap.size := g1.size
  have xbw1 := (g1.block _ (by omega) (by simp; omega)).trans XB0.out
  have xaw1 := (g1.block _ (by omega) (by simp; omega)).trans XA0.out
  have xrw1 := (g1.block _ (by omega) (by simp; omega)).trans XR0.out
  have xqw1 := (g1.block _ (by omega) (by simp; omega)).trans XQ0.out
  have XR : Hid (w1.heap[w.heap.size + 1 + 1]? = some (.cells #[.int .i64 0, .int .i64 0, .slice none 0 0, .slice none 0 0, .slice none 0 0] 29 (0, 0))) := xrw1
  have XQ : Hid (w1.heap[w.heap.size + 1 + 1 + 1]? = some (.cells #[.int .i64 0, .slice none 0 0] 37 (0, 0))) := xqw1
  have R1 : Hid (ReadI w1 (.slice a1 x c1) ss) := (HR1.out.below B0).grown HM0.out g1
  have R2 : Hid (ReadP w1 (.slice a2 z c2) ps) := (HR2.out.below B0).grown HM0.out g1
  have R3 : Hid (ReadI w1 (.slice a3 y c3) qs) := (HR3.out.below B0).grown HM0.out g1
  have K1 : Hid (Kept (fun j => j = m) w w1) := (Kept.of_below B0).trans ⟨g1.os, g1.tape, g1.output, g1.size, fun k hk hS => g1.block k hk (by simpa using hS)⟩
  clear cb0W0 cb1W0 cb2W0 cb3W0 cb4W0 fbW0 ca0W0 ca1W0 faW0 cr0W0 cr1W0 cr2W0 cr3W0 cr4W0 frW0 cq0W0 cq1W0 fqW0
  have cb0w1 : w1.cell? ⟨w.heap.size, 0, none⟩ = some (.int .i64 t) := (by simp [World.cell?, xbw1])
  have cb1w1 : w1.cell? ⟨w.heap.size, 1, none⟩ = some (.int .i64 e) := (by simp [World.cell?, xbw1])
  have cb2w1 : w1.cell? ⟨w.heap.size, 2, none⟩ = some (.slice a1 x c1) := (by simp [World.cell?, xbw1])
  have cb3w1 : w1.cell? ⟨w.heap.size, 3, none⟩ = some (.slice a2 z c2) := (by simp [World.cell?, xbw1])
  have cb4w1 : w1.cell? ⟨w.heap.size, 4, none⟩ = some (.slice a3 y c3) := (by simp [World.cell?, xbw1])
  have fbw1 : ∀ o, w1.frozen? ⟨w.heap.size, o, none⟩ = false := fun o => (by simp [World.frozen?, xbw1])
  have ca0w1 : w1.cell? ⟨w.heap.size + 1, 0, none⟩ = some (.int .i64 kk) := (by simp [World.cell?, xaw1])
  have ca1w1 : w1.cell? ⟨w.heap.size + 1, 1, none⟩ = some (.int .i64 n) := (by simp [World.cell?, xaw1])
  have faw1 : ∀ o, w1.frozen? ⟨w.heap.size + 1, o, none⟩ = false := fun o => (by simp [World.frozen?, xaw1])
  have cr0w1 : w1.cell? ⟨w.heap.size + 1 + 1, 0, none⟩ = some (.int .i64 0) := (by simp [World.cell?, xrw1])
  have cr1w1 : w1.cell? ⟨w.heap.size + 1 + 1, 1, none⟩ = some (.int .i64 0) := (by simp [World.cell?, xrw1])
  have cr2w1 : w1.cell? ⟨w.heap.size + 1 + 1, 2, none⟩ = some (.slice none 0 0) := (by simp [World.cell?, xrw1])
  have cr3w1 : w1.cell? ⟨w.heap.size + 1 + 1, 3, none⟩ = some (.slice none 0 0) := (by simp [World.cell?, xrw1])
  have cr4w1 : w1.cell? ⟨w.heap.size + 1 + 1, 4, none⟩ = some (.slice none 0 0) := (by simp [World.cell?, xrw1])
  have frw1 : ∀ o, w1.frozen? ⟨w.heap.size + 1 + 1, o, none⟩ = false := fun o => (by simp [World.frozen?, xrw1])
  have cq0w1 : w1.cell? ⟨w.heap.size + 1 + 1 + 1, 0, none⟩ = some (.int .i64 0) := (by simp [World.cell?, xqw1])
  have cq1w1 : w1.cell? ⟨w.heap.size + 1 + 1 + 1, 1, none⟩ = some (.slice none 0 0) := (by simp [World.cell?, xqw1])
  have fqw1 : ∀ o, w1.frozen? ⟨w.heap.size + 1 + 1 + 1, o, none⟩ = false := fun o => (by simp [World.frozen?, xqw1])
  clear xbw1 xaw1 xrw1 xqw1 g1 hm1 XB0 XA0 XR0 XQ0 HM HM0 FILL
  rcases (show kk = 1 ∨ kk = 2 ∨ kk = 3 ∨ (¬ kk = 1 ∧ ¬ kk = 2 ∧ ¬ kk = 3) by omega) with rfl | rfl | rfl | ⟨h1, h2, h3⟩
  · go_wp2_with fail
    refine (commit_any t e n m _ _ _ _ ss ps qs w1 OK.out R1.out R2.out R3.out HM1.out).mono ?_
    rintro r w2 ⟨⟨u1, u2, u3, u4, rfl, hsq⟩, hb2⟩
    obtain ⟨⟨b1, k1, d1, rfl⟩, ⟨b2, k2, d2, rfl⟩, ⟨b3, k3, d3, rfl⟩, ⟨b4, k4, d4, rfl⟩⟩ := SV4.shp hsq HR1.out HR2.out HR3.out
    have HSQ : Hid (SV4 w1.heap.size (.slice a1 x c1) (.slice a2 z c2) (.slice a3 y c3) ss ps qs (stp t e ss ps qs 1 n).ss (stp t e ss ps qs 1 n).ps (stp t e ss ps qs 1 n).qs (stp t e ss ps qs 1 n).pg (.slice b1 k1 d1) (.slice b2 k2 d2) (.slice b3 k3 d3) (.slice b4 k4 d4) w2) := hsq
    have xrw2 := keepBlk XR.out hb2 (by omega)
    have xqw2 := keepBlk XQ.out hb2 (by omega)
    have hnc := hb2.size
    have HMP2 : Hid (MapOf w2 m (ss.length + ps.length) (dOf (kvOf e ss ps))) := HM1.out.kept (row := none) ⟨hb2.os, hb2.tape, hb2.output, hb2.size, fun i hi _ => hb2.block i hi⟩ (by simp)
    have K2 : Hid (Kept (fun j => j = m) w w2) := K1.out.trans (Kept.of_below hb2)
    clear hsq hb2 cb0w1 cb1w1 cb2w1 cb3w1 cb4w1 fbw1 ca0w1 ca1w1 faw1 cr0w1 cr1w1 cr2w1 cr3w1 cr4w1 frw1 cq0w1 cq1w1 fqw1
    have cr0w2 : w2.cell? ⟨w.heap.size + 1 + 1, 0, none⟩ = some (.int .i64 0) := (by simp [World.cell?, xrw2])
    have cr1w2 : w2.cell? ⟨w.heap.size + 1 + 1, 1, none⟩ = some (.int .i64 0) := (by simp [World.cell?, xrw2])
    have cr2w2 : w2.cell? ⟨w.heap.size + 1 + 1, 2, none⟩ = some (.slice none 0 0) := (by simp [World.cell?, xrw2])
    have cr3w2 : w2.cell? ⟨w.heap.size + 1 + 1, 3, none⟩ = some (.slice none 0 0) := (by simp [World.cell?, xrw2])
    have cr4w2 : w2.cell? ⟨w.heap.size + 1 + 1, 4, none⟩ = some (.slice none 0 0) := (by simp [World.cell?, xrw2])
    have frw2 : ∀ o, w2.frozen? ⟨w.heap.size + 1 + 1, o, none⟩ = false := fun o => (by simp [World.frozen?, xrw2])
    have cq0w2 : w2.cell? ⟨w.heap.size + 1 + 1 + 1, 0, none⟩ = some (.int .i64 0) := (by simp [World.cell?, xqw2])
    have cq1w2 : w2.cell? ⟨w.heap.size + 1 + 1 + 1, 1, none⟩ = some (.slice none 0 0) := (by simp [World.cell?, xqw2])
    have fqw2 : ∀ o, w2.frozen? ⟨w.heap.size + 1 + 1 + 1, o, none⟩ = false := fun o => (by simp [World.frozen?, xqw2])
    clear xrw2 xqw2
    go_wp2
    refine bodyPost_ret (v := .tuple #[SV t (stp t e ss ps qs 1 n).e (.slice b1 k1 d1) (.slice b2 k2 d2) (.slice b3 k3 d3), .agg #[.int .i64 (stp t e ss ps qs 1 n).c, .slice b4 k4 d4]]) (by go_simp; simp [results, Try.results44, go_sem, cr0w2, cr1w2, cr2w2, cr3w2, cr4w2, cq0w2, cq1w2]) rfl ⟨⟨_, _, _, _, rfl, ?_⟩, ?_, ?_⟩
    · exact HSQ.out.up (by omega) (fun g hg _ => res_other w2 (w.heap.size + 1 + 1) _ _ _ _ _ _ _ g (by omega) (by omega))
    · exact res_kept K2.out (by omega) _ _ _ _ _ _ _
    · exact ⟨_, _, res_map HMP2.out (by omega) (by omega) _ _ _ _ _ _ _⟩
  · go_wp2_with fail
    refine (pin_any t e n _ _ _ ss ps qs w1 L1.out R1.out R2.out R3.out).mono ?_
    rintro r w2 ⟨⟨u1, u2, u3, u4, rfl, hsq⟩, hb2⟩
    obtain ⟨⟨b1, k1, d1, rfl⟩, ⟨b2, k2, d2, rfl⟩, ⟨b3, k3, d3, rfl⟩, ⟨b4, k4, d4, rfl⟩⟩ := SV4.shp hsq HR1.out HR2.out HR3.out
    have HSQ : Hid (SV4 w1.heap.size (.slice a1 x c1) (.slice a2 z c2) (.slice a3 y c3) ss ps qs (stp t e ss ps qs 2 n).ss (stp t e ss ps qs 2 n).ps (stp t e ss ps qs 2 n).qs (stp t e ss ps qs 2 n).pg (.slice b1 k1 d1) (.slice b2 k2 d2) (.slice b3 k3 d3) (.slice b4 k4 d4) w2) := hsq
    have xrw2 := keepBlk XR.out hb2 (by omega)
    have xqw2 := keepBlk XQ.out hb2 (by omega)
    have hnc := hb2.size
    have HMP2 : Hid (MapOf w2 m (ss.length + ps.length) (dOf (kvOf e ss ps))) := HM1.out.kept (row := none) ⟨hb2.os, hb2.tape, hb2.output, hb2.size, fun i hi _ => hb2.block i hi⟩ (by simp)
    have K2 : Hid (Kept (fun j => j = m) w w2) := K1.out.trans (Kept.of_below hb2)
    clear hsq hb2 cb0w1 cb1w1 cb2w1 cb3w1 cb4w1 fbw1 ca0w1 ca1w1 faw1 cr0w1 cr1w1 cr2w1 cr3w1 cr4w1 frw1 cq0w1 cq1w1 fqw1
    have cr0w2 : w2.cell? ⟨w.heap.size + 1 + 1, 0, none⟩ = some (.int .i64 0) := (by simp [World.cell?, xrw2])
    have cr1w2 : w2.cell? ⟨w.heap.size + 1 + 1, 1, none⟩ = some (.int .i64 0) := (by simp [World.cell?, xrw2])
    have cr2w2 : w2.cell? ⟨w.heap.size + 1 + 1, 2, none⟩ = some (.slice none 0 0) := (by simp [World.cell?, xrw2])
    have cr3w2 : w2.cell? ⟨w.heap.size + 1 + 1, 3, none⟩ = some (.slice none 0 0) := (by simp [World.cell?, xrw2])
    have cr4w2 : w2.cell? ⟨w.heap.size + 1 + 1, 4, none⟩ = some (.slice none 0 0) := (by simp [World.cell?, xrw2])
    have frw2 : ∀ o, w2.frozen? ⟨w.heap.size + 1 + 1, o, none⟩ = false := fun o => (by simp [World.frozen?, xrw2])
    have cq0w2 : w2.cell? ⟨w.heap.size + 1 + 1 + 1, 0, none⟩ = some (.int .i64 0) := (by simp [World.cell?, xqw2])
    have cq1w2 : w2.cell? ⟨w.heap.size + 1 + 1 + 1, 1, none⟩ = some (.slice none 0 0) := (by simp [World.cell?, xqw2])
    have fqw2 : ∀ o, w2.frozen? ⟨w.heap.size + 1 + 1 + 1, o, none⟩ = false := fun o => (by simp [World.frozen?, xqw2])
    clear xrw2 xqw2
    go_wp2
    refine bodyPost_ret (v := .tuple #[SV t (stp t e ss ps qs 2 n).e (.slice b1 k1 d1) (.slice b2 k2 d2) (.slice b3 k3 d3), .agg #[.int .i64 (stp t e ss ps qs 2 n).c, .slice b4 k4 d4]]) (by go_simp; simp [results, Try.results44, go_sem, cr0w2, cr1w2, cr2w2, cr3w2, cr4w2, cq0w2, cq1w2]) rfl ⟨⟨_, _, _, _, rfl, ?_⟩, ?_, ?_⟩
    · exact HSQ.out.up (by omega) (fun g hg _ => res_other w2 (w.heap.size + 1 + 1) _ _ _ _ _ _ _ g (by omega) (by omega))
    · exact res_kept K2.out (by omega) _ _ _ _ _ _ _
    · exact ⟨_, _, res_map HMP2.out (by omega) (by omega) _ _ _ _ _ _ _⟩
  · go_wp2_with fail
    refine (unpin_any t e n m _ _ _ _ ss ps qs w1 OK.out R1.out R2.out R3.out HM1.out).mono ?_
    rintro r w2 ⟨⟨u1, u2, u3, u4, rfl, hsq⟩, hb2⟩
    obtain ⟨⟨b1, k1, d1, rfl⟩, ⟨b2, k2, d2, rfl⟩, ⟨b3, k3, d3, rfl⟩, ⟨b4, k4, d4, rfl⟩⟩ := SV4.shp hsq HR1.out HR2.out HR3.out
    have HSQ : Hid (SV4 w1.heap.size (.slice a1 x c1) (.slice a2 z c2) (.slice a3 y c3) ss ps qs (stp t e ss ps qs 3 n).ss (stp t e ss ps qs 3 n).ps (stp t e ss ps qs 3 n).qs (stp t e ss ps qs 3 n).pg (.slice b1 k1 d1) (.slice b2 k2 d2) (.slice b3 k3 d3) (.slice b4 k4 d4) w2) := hsq
    have xrw2 := keepBlk XR.out hb2 (by omega)
    have xqw2 := keepBlk XQ.out hb2 (by omega)
    have hnc := hb2.size
    have HMP2 : Hid (MapOf w2 m (ss.length + ps.length) (dOf (kvOf e ss ps))) := HM1.out.kept (row := none) ⟨hb2.os, hb2.tape, hb2.output, hb2.size, fun i hi _ => hb2.block i hi⟩ (by simp)
    have K2 : Hid (Kept (fun j => j = m) w w2) := K1.out.trans (Kept.of_below hb2)
    clear hsq hb2 cb0w1 cb1w1 cb2w1 cb3w1 cb4w1 fbw1 ca0w1 ca1w1 faw1 cr0w1 cr1w1 cr2w1 cr3w1 cr4w1 frw1 cq0w1 cq1w1 fqw1
    have cr0w2 : w2.cell? ⟨w.heap.size + 1 + 1, 0, none⟩ = some (.int .i64 0) := (by simp [World.cell?, xrw2])
    have cr1w2 : w2.cell? ⟨w.heap.size + 1 + 1, 1, none⟩ = some (.int .i64 0) := (by simp [World.cell?, xrw2])
    have cr2w2 : w2.cell? ⟨w.heap.size + 1 + 1, 2, none⟩ = some (.slice none 0 0) := (by simp [World.cell?, xrw2])
    have cr3w2 : w2.cell? ⟨w.heap.size + 1 + 1, 3, none⟩ = some (.slice none 0 0) := (by simp [World.cell?, xrw2])
    have cr4w2 : w2.cell? ⟨w.heap.size + 1 + 1, 4, none⟩ = some (.slice none 0 0) := (by simp [World.cell?, xrw2])
    have frw2 : ∀ o, w2.frozen? ⟨w.heap.size + 1 + 1, o, none⟩ = false := fun o => (by simp [World.frozen?, xrw2])
    have cq0w2 : w2.cell? ⟨w.heap.size + 1 + 1 + 1, 0, none⟩ = some (.int .i64 0) := (by simp [World.cell?, xqw2])
    have cq1w2 : w2.cell? ⟨w.heap.size + 1 + 1 + 1, 1, none⟩ = some (.slice none 0 0) := (by simp [World.cell?, xqw2])
    have fqw2 : ∀ o, w2.frozen? ⟨w.heap.size + 1 + 1 + 1, o, none⟩ = false := fun o => (by simp [World.frozen?, xqw2])
    clear xrw2 xqw2
    go_wp2
    refine bodyPost_ret (v := .tuple #[SV t (stp t e ss ps qs 3 n).e (.slice b1 k1 d1) (.slice b2 k2 d2) (.slice b3 k3 d3), .agg #[.int .i64 (stp t e ss ps qs 3 n).c, .slice b4 k4 d4]]) (by go_simp; simp [results, Try.results44, go_sem, cr0w2, cr1w2, cr2w2, cr3w2, cr4w2, cq0w2, cq1w2]) rfl ⟨⟨_, _, _, _, rfl, ?_⟩, ?_, ?_⟩
    · exact HSQ.out.up (by omega) (fun g hg _ => res_other w2 (w.heap.size + 1 + 1) _ _ _ _ _ _ _ g (by omega) (by omega))
    · exact res_kept K2.out (by omega) _ _ _ _ _ _ _
    · exact ⟨_, _, res_map HMP2.out (by omega) (by omega) _ _ _ _ _ _ _⟩
  · have E : stp t e ss ps qs kk n = ⟨e, ss, ps, qs, 3, []⟩ := by unfold stp; rw [if_neg h1, if_neg h2, if_neg h3]
    have HE : Hid (stp t e ss ps qs kk n = ⟨e, ss, ps, qs, 3, []⟩) := E
    clear E
    go_wp2
    refine bodyPost_ret (v := .tuple #[SV t e (.slice a1 x c1) (.slice a2 z c2) (.slice a3 y c3), .agg #[.int .i64 3, .slice none 0 0]]) (by go_simp; simp [results, Try.results44, go_sem, cr0w1, cr1w1, cr2w1, cr3w1, cr4w1, cq0w1, cq1w1]) rfl ⟨?_, ?_, ?_⟩
    · rw [HE.out]
      exact ⟨_, _, _, _, rfl, .inl ⟨rfl, rfl⟩, .inl ⟨rfl, rfl⟩, .inl ⟨rfl, rfl⟩, OwnI.nil _ _, .inl rfl, .inl rfl, .inl rfl⟩
    · exact res_kept K1.out (by omega) _ _ _ _ _ _ _
    · exact ⟨_, _, res_map HM1.out (by omega) (by omega) _ _ _ _ _ _ _⟩
end Go.Proofs.Ytaklphoplfofbaa
