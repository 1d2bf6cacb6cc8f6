/- l04Commit (stage 4). -/
import Derived.Test.YtaklphoplfofbaaStK
import Derived.Test.YtaklphoplfofbaaStQ
namespace Go.Proofs.Ytaklphoplfofbaa
open Go.RowKit

/-- What the specification's act answers. -/
def QS (w : World) (v1 v2 v3 : Value) (ss : List Int) (ps : List P2) (qs : List Int) (t : Int) (R : SR) (r : Ending) (w' : World) : Prop :=
  ∃ u1 u2 u3 u4, r = .returned (.tuple #[SV t R.e u1 u2 u3, .agg #[.int .i64 R.c, u4]]) ∧ (u1 = v1 ∧ R.ss = ss ∨ OwnI w' w.heap.size u1 R.ss) ∧ (u2 = v2 ∧ R.ps = ps ∨ OwnP w' w.heap.size u2 R.ps) ∧ (u3 = v3 ∧ R.qs = qs ∨ OwnI w' w.heap.size u3 R.qs) ∧ OwnI w' w.heap.size u4 R.pg ∧ Below w.heap.size w w'
theorem res_size (w : World) (r : Nat) (a b c d f h k : Value) : (Res w r a b c d f h k).heap.size = w.heap.size := by simp [World.setCell]
theorem made_res {w : World} {B r : Nat} (hB : B ≤ w.heap.size) (a b c d f h k : Value) : OwnI ((Res w r a b c d f h k).alloc (.cells #[] 3)) B (.slice (some ⟨w.heap.size, 0, none⟩) 0 0) [] := by
  have := OwnI.made (Res w r a b c d f h k) B (by rw [res_size]; exact hB)
  rw [res_size] at this
  exact this
theorem below_res {u w : World} {r : Nat} (hb : Below u.heap.size u w) (hr : u.heap.size ≤ r) (a b c d f h k : Value) (o : Obj) : Below u.heap.size u ((Res w r a b c d f h k).alloc o) :=
  (res_below hb hr a b c d f h k).alloc (by rw [res_size]; exact hb.size) o

set_option maxRecDepth 100000 in
set_option maxHeartbeats 8000000 in
theorem commitS_range (t : Nat) (e n : Int) (v1 v2 v3 : Value) (ss : List Int) (ps : List P2) (qs : List Int) (w : World) (h1 : ReadI w v1 ss) (h2 : ReadP w v2 ps) (h3 : ReadI w v3 qs) (l1 : ss.length ≤ 1048576) (l2 : ps.length ≤ 1048576) (l3 : qs.length ≤ 1048576) (ht : t ≤ 64) (hn : ¬ (0 ≤ n ∧ n ≤ 64)) :
    Calls Try.prog 67 #[SV t e v1 v2 v3, .int .i64 n] w (QS w v1 v2 v3 ss ps qs t ⟨e, ss, ps, qs, 4, []⟩) := by
  have HL1 : Hid (ss.length ≤ 1048576) := l1
  have HL2 : Hid (ps.length ≤ 1048576) := l2
  have HL3 : Hid (qs.length ≤ 1048576) := l3
  have HR1 : Hid (ReadI w v1 ss) := h1
  have HR2 : Hid (ReadP w v2 ps) := h2
  have HR3 : Hid (ReadI w v3 qs) := h3
  obtain ⟨a1, c1, rfl, _⟩ := h1.row
  obtain ⟨a2, c2, rfl, _⟩ := h2.row
  obtain ⟨a3, c3, rfl, _⟩ := h3.row
  clear h1 h2 h3
  obtain ⟨x, hx⟩ : ∃ x, ss.length = x := ⟨_, rfl⟩
  obtain ⟨z, hz⟩ : ∃ z, ps.length = z := ⟨_, rfl⟩
  obtain ⟨y, hy⟩ : ∃ y, qs.length = y := ⟨_, rfl⟩
  have HX : Hid (ss.length = x) := hx
  have HZ : Hid (ps.length = z) := hz
  have HY : Hid (qs.length = y) := hy
  rw [hx] at HR1 ⊢
  rw [hz] at HR2 ⊢
  rw [hy] at HR3 ⊢
  try rw [hx] at l1
  try rw [hz] at l2
  try rw [hy] at l3
  clear hx hy hz
  obtain ⟨W0, hW0⟩ : ∃ W0, W3 w t e (.slice a1 x c1) (.slice a2 z c2) (.slice a3 y c3) = W0 := ⟨_, rfl⟩
  have B0 : Below w.heap.size w W0 := hW0 ▸ below_W3 w t e _ _ _
  have z0 : W0.heap.size = w.heap.size + 3 := hW0 ▸ W3_size w t e _ _ _
  have xb : W0.heap[w.heap.size]? = some (.cells #[.int .i64 t, .int .i64 e, .slice a1 x c1, .slice a2 z c2, .slice a3 y c3] 29 (0, 0)) := hW0 ▸ W3_b w t e _ _ _
  have xr : W0.heap[w.heap.size + 1]? = some (.cells #[.int .i64 0, .int .i64 0, .slice none 0 0, .slice none 0 0, .slice none 0 0] 29 (0, 0)) := hW0 ▸ W3_r w t e _ _ _
  have xq : W0.heap[w.heap.size + 1 + 1]? = some (.cells #[.int .i64 0, .slice none 0 0] 37 (0, 0)) := hW0 ▸ W3_q w t e _ _ _
  have cb0W0 : W0.cell? ⟨w.heap.size, 0, none⟩ = some (.int .i64 t) := (by simp [World.cell?, xb])
  have cb1W0 : W0.cell? ⟨w.heap.size, 1, none⟩ = some (.int .i64 e) := (by simp [World.cell?, xb])
  have cb2W0 : W0.cell? ⟨w.heap.size, 2, none⟩ = some (.slice a1 x c1) := (by simp [World.cell?, xb])
  have cb3W0 : W0.cell? ⟨w.heap.size, 3, none⟩ = some (.slice a2 z c2) := (by simp [World.cell?, xb])
  have cb4W0 : W0.cell? ⟨w.heap.size, 4, none⟩ = some (.slice a3 y c3) := (by simp [World.cell?, xb])
  have fbW0 : ∀ o, W0.frozen? ⟨w.heap.size, o, none⟩ = false := fun o => (by simp [World.frozen?, xb])
  have cr0W0 : W0.cell? ⟨w.heap.size + 1, 0, none⟩ = some (.int .i64 0) := (by simp [World.cell?, xr])
  have cr1W0 : W0.cell? ⟨w.heap.size + 1, 1, none⟩ = some (.int .i64 0) := (by simp [World.cell?, xr])
  have cr2W0 : W0.cell? ⟨w.heap.size + 1, 2, none⟩ = some (.slice none 0 0) := (by simp [World.cell?, xr])
  have cr3W0 : W0.cell? ⟨w.heap.size + 1, 3, none⟩ = some (.slice none 0 0) := (by simp [World.cell?, xr])
  have cr4W0 : W0.cell? ⟨w.heap.size + 1, 4, none⟩ = some (.slice none 0 0) := (by simp [World.cell?, xr])
  have frW0 : ∀ o, W0.frozen? ⟨w.heap.size + 1, o, none⟩ = false := fun o => (by simp [World.frozen?, xr])
  have cq0W0 : W0.cell? ⟨w.heap.size + 1 + 1, 0, none⟩ = some (.int .i64 0) := (by simp [World.cell?, xq])
  have cq1W0 : W0.cell? ⟨w.heap.size + 1 + 1, 1, none⟩ = some (.slice none 0 0) := (by simp [World.cell?, xq])
  have fqW0 : ∀ o, W0.frozen? ⟨w.heap.size + 1 + 1, o, none⟩ = false := fun o => (by simp [World.frozen?, xq])
  have XB : Hid (W0.heap[w.heap.size]? = some (.cells #[.int .i64 t, .int .i64 e, .slice a1 x c1, .slice a2 z c2, .slice a3 y c3] 29 (0, 0))) := xb
  have XR : Hid (W0.heap[w.heap.size + 1]? = some (.cells #[.int .i64 0, .int .i64 0, .slice none 0 0, .slice none 0 0, .slice none 0 0] 29 (0, 0))) := xr
  have XQ : Hid (W0.heap[w.heap.size + 1 + 1]? = some (.cells #[.int .i64 0, .slice none 0 0] 37 (0, 0))) := xq
  clear xb xr xq
  have FREE : Hid (Calls Try.prog 59 #[SV t e (.slice a1 x c1) (.slice a2 z c2) (.slice a3 y c3)] W0 fun r w' => ∃ v, r = .returned v ∧ OwnI w' W0.heap.size v (freeK (usedB ss ps) t) ∧ Below W0.heap.size W0 w') := by
    obtain ⟨a, cc, e1, r1⟩ := (HR1.out.below B0).row
    obtain ⟨a', cc', e2, r2⟩ := (HR2.out.below B0).row
    have hh := l04Free_any t e a a' cc cc' (.slice a3 y c3) ss ps W0 r1 r2 HL1.out HL2.out ht
    rw [← e1, ← e2] at hh
    exact hh
  have HI : Hid (inB n 0 64 = false) := decide_eq_false hn
  go_enter Try.func67, Try.ntmps67
  go_wp2_with fail
  refine FREE.out.mono ?_
  rintro r w1 ⟨vf, rfl, ho1, hb1⟩
  obtain ⟨af, nf', cf, rfl⟩ := own_shr ho1
  have n1 : W0.heap.size ≤ w1.heap.size := hb1.size
  have sz0 : w.heap.size < w1.heap.size := by omega
  have sz1 : w.heap.size + 1 < w1.heap.size := by omega
  have sz2 : w.heap.size + 1 + 1 < w1.heap.size := by omega
  have B1 : Below w.heap.size w w1 := B0.trans (hb1.mono B0.size)
  have xb1 := keepBlk XB.out hb1 (by omega)
  have xr1 := keepBlk XR.out hb1 (by omega)
  have xq1 := keepBlk XQ.out hb1 (by omega)
  clear cb0W0 cb1W0 cb2W0 cb3W0 cb4W0 fbW0 cr0W0 cr1W0 cr2W0 cr3W0 cr4W0 frW0 cq0W0 cq1W0 fqW0
  have cb0w1 : w1.cell? ⟨w.heap.size, 0, none⟩ = some (.int .i64 t) := (by simp [World.cell?, xb1])
  have cb1w1 : w1.cell? ⟨w.heap.size, 1, none⟩ = some (.int .i64 e) := (by simp [World.cell?, xb1])
  have cb2w1 : w1.cell? ⟨w.heap.size, 2, none⟩ = some (.slice a1 x c1) := (by simp [World.cell?, xb1])
  have cb3w1 : w1.cell? ⟨w.heap.size, 3, none⟩ = some (.slice a2 z c2) := (by simp [World.cell?, xb1])
  have cb4w1 : w1.cell? ⟨w.heap.size, 4, none⟩ = some (.slice a3 y c3) := (by simp [World.cell?, xb1])
  have fbw1 : ∀ o, w1.frozen? ⟨w.heap.size, o, none⟩ = false := fun o => (by simp [World.frozen?, xb1])
  have cr0w1 : w1.cell? ⟨w.heap.size + 1, 0, none⟩ = some (.int .i64 0) := (by simp [World.cell?, xr1])
  have cr1w1 : w1.cell? ⟨w.heap.size + 1, 1, none⟩ = some (.int .i64 0) := (by simp [World.cell?, xr1])
  have cr2w1 : w1.cell? ⟨w.heap.size + 1, 2, none⟩ = some (.slice none 0 0) := (by simp [World.cell?, xr1])
  have cr3w1 : w1.cell? ⟨w.heap.size + 1, 3, none⟩ = some (.slice none 0 0) := (by simp [World.cell?, xr1])
  have cr4w1 : w1.cell? ⟨w.heap.size + 1, 4, none⟩ = some (.slice none 0 0) := (by simp [World.cell?, xr1])
  have frw1 : ∀ o, w1.frozen? ⟨w.heap.size + 1, o, none⟩ = false := fun o => (by simp [World.frozen?, xr1])
  have cq0w1 : w1.cell? ⟨w.heap.size + 1 + 1, 0, none⟩ = some (.int .i64 0) := (by simp [World.cell?, xq1])
  have cq1w1 : w1.cell? ⟨w.heap.size + 1 + 1, 1, none⟩ = some (.slice none 0 0) := (by simp [World.cell?, xq1])
  have fqw1 : ∀ o, w1.frozen? ⟨w.heap.size + 1 + 1, o, none⟩ = false := fun o => (by simp [World.frozen?, xq1])
  have XB1 : Hid (w1.heap[w.heap.size]? = some (.cells #[.int .i64 t, .int .i64 e, .slice a1 x c1, .slice a2 z c2, .slice a3 y c3] 29 (0, 0))) := xb1
  have XR1 : Hid (w1.heap[w.heap.size + 1]? = some (.cells #[.int .i64 0, .int .i64 0, .slice none 0 0, .slice none 0 0, .slice none 0 0] 29 (0, 0))) := xr1
  have XQ1 : Hid (w1.heap[w.heap.size + 1 + 1]? = some (.cells #[.int .i64 0, .slice none 0 0] 37 (0, 0))) := xq1
  clear xb1 xr1 xq1 XB XR XQ FREE
  go_wp2_with fail
  refine (l01In_any n 0 64 w1).mono ?_
  rintro r w1' ⟨rfl, hq⟩
  obtain rfl := hq.symm
  rw [HI.out]
  clear ho1
  go_wp2
  refine bodyPost_ret (v := .tuple #[SV t e (.slice a1 x c1) (.slice a2 z c2) (.slice a3 y c3), .agg #[.int .i64 4, .slice (some ⟨w1.heap.size, 0, none⟩) 0 0]]) (by go_simp; simp [results, Try.results67, go_sem, cr0w1, cr1w1, cr2w1, cr3w1, cr4w1, cq0w1, cq1w1, sz1, sz2]) rfl ⟨_, _, _, _, rfl, .inl ⟨rfl, rfl⟩, .inl ⟨rfl, rfl⟩, .inl ⟨rfl, rfl⟩, made_res B1.size _ _ _ _ _ _ _, below_res B1 (by omega) _ _ _ _ _ _ _ _⟩

set_option maxRecDepth 100000 in
set_option maxHeartbeats 8000000 in
theorem commitS_full (t : Nat) (e : Int) (k : Nat) (v1 v2 v3 : Value) (ss : List Int) (ps : List P2) (qs : List Int) (w : World) (h1 : ReadI w v1 ss) (h2 : ReadP w v2 ps) (h3 : ReadI w v3 qs) (l1 : ss.length ≤ 1048576) (l2 : ps.length ≤ 1048576) (l3 : qs.length ≤ 1048576) (ht : t ≤ 64) (hk : k ≤ 64) (hf : (freeK (usedB ss ps) t).length < k ∨ e = 1000000) :
    Calls Try.prog 67 #[SV t e v1 v2 v3, .int .i64 k] w (QS w v1 v2 v3 ss ps qs t ⟨e, ss, ps, qs, 7, []⟩) := by
  have HL1 : Hid (ss.length ≤ 1048576) := l1
  have HL2 : Hid (ps.length ≤ 1048576) := l2
  have HL3 : Hid (qs.length ≤ 1048576) := l3
  have HR1 : Hid (ReadI w v1 ss) := h1
  have HR2 : Hid (ReadP w v2 ps) := h2
  have HR3 : Hid (ReadI w v3 qs) := h3
  obtain ⟨a1, c1, rfl, _⟩ := h1.row
  obtain ⟨a2, c2, rfl, _⟩ := h2.row
  obtain ⟨a3, c3, rfl, _⟩ := h3.row
  clear h1 h2 h3
  obtain ⟨x, hx⟩ : ∃ x, ss.length = x := ⟨_, rfl⟩
  obtain ⟨z, hz⟩ : ∃ z, ps.length = z := ⟨_, rfl⟩
  obtain ⟨y, hy⟩ : ∃ y, qs.length = y := ⟨_, rfl⟩
  have HX : Hid (ss.length = x) := hx
  have HZ : Hid (ps.length = z) := hz
  have HY : Hid (qs.length = y) := hy
  rw [hx] at HR1 ⊢
  rw [hz] at HR2 ⊢
  rw [hy] at HR3 ⊢
  try rw [hx] at l1
  try rw [hz] at l2
  try rw [hy] at l3
  clear hx hy hz
  obtain ⟨W0, hW0⟩ : ∃ W0, W3 w t e (.slice a1 x c1) (.slice a2 z c2) (.slice a3 y c3) = W0 := ⟨_, rfl⟩
  have B0 : Below w.heap.size w W0 := hW0 ▸ below_W3 w t e _ _ _
  have z0 : W0.heap.size = w.heap.size + 3 := hW0 ▸ W3_size w t e _ _ _
  have xb : W0.heap[w.heap.size]? = some (.cells #[.int .i64 t, .int .i64 e, .slice a1 x c1, .slice a2 z c2, .slice a3 y c3] 29 (0, 0)) := hW0 ▸ W3_b w t e _ _ _
  have xr : W0.heap[w.heap.size + 1]? = some (.cells #[.int .i64 0, .int .i64 0, .slice none 0 0, .slice none 0 0, .slice none 0 0] 29 (0, 0)) := hW0 ▸ W3_r w t e _ _ _
  have xq : W0.heap[w.heap.size + 1 + 1]? = some (.cells #[.int .i64 0, .slice none 0 0] 37 (0, 0)) := hW0 ▸ W3_q w t e _ _ _
  have cb0W0 : W0.cell? ⟨w.heap.size, 0, none⟩ = some (.int .i64 t) := (by simp [World.cell?, xb])
  have cb1W0 : W0.cell? ⟨w.heap.size, 1, none⟩ = some (.int .i64 e) := (by simp [World.cell?, xb])
  have cb2W0 : W0.cell? ⟨w.heap.size, 2, none⟩ = some (.slice a1 x c1) := (by simp [World.cell?, xb])
  have cb3W0 : W0.cell? ⟨w.heap.size, 3, none⟩ = some (.slice a2 z c2) := (by simp [World.cell?, xb])
  have cb4W0 : W0.cell? ⟨w.heap.size, 4, none⟩ = some (.slice a3 y c3) := (by simp [World.cell?, xb])
  have fbW0 : ∀ o, W0.frozen? ⟨w.heap.size, o, none⟩ = false := fun o => (by simp [World.frozen?, xb])
  have cr0W0 : W0.cell? ⟨w.heap.size + 1, 0, none⟩ = some (.int .i64 0) := (by simp [World.cell?, xr])
  have cr1W0 : W0.cell? ⟨w.heap.size + 1, 1, none⟩ = some (.int .i64 0) := (by simp [World.cell?, xr])
  have cr2W0 : W0.cell? ⟨w.heap.size + 1, 2, none⟩ = some (.slice none 0 0) := (by simp [World.cell?, xr])
  have cr3W0 : W0.cell? ⟨w.heap.size + 1, 3, none⟩ = some (.slice none 0 0) := (by simp [World.cell?, xr])
  have cr4W0 : W0.cell? ⟨w.heap.size + 1, 4, none⟩ = some (.slice none 0 0) := (by simp [World.cell?, xr])
  have frW0 : ∀ o, W0.frozen? ⟨w.heap.size + 1, o, none⟩ = false := fun o => (by simp [World.frozen?, xr])
  have cq0W0 : W0.cell? ⟨w.heap.size + 1 + 1, 0, none⟩ = some (.int .i64 0) := (by simp [World.cell?, xq])
  have cq1W0 : W0.cell? ⟨w.heap.size + 1 + 1, 1, none⟩ = some (.slice none 0 0) := (by simp [World.cell?, xq])
  have fqW0 : ∀ o, W0.frozen? ⟨w.heap.size + 1 + 1, o, none⟩ = false := fun o => (by simp [World.frozen?, xq])
  have XB : Hid (W0.heap[w.heap.size]? = some (.cells #[.int .i64 t, .int .i64 e, .slice a1 x c1, .slice a2 z c2, .slice a3 y c3] 29 (0, 0))) := xb
  have XR : Hid (W0.heap[w.heap.size + 1]? = some (.cells #[.int .i64 0, .int .i64 0, .slice none 0 0, .slice none 0 0, .slice none 0 0] 29 (0, 0))) := xr
  have XQ : Hid (W0.heap[w.heap.size + 1 + 1]? = some (.cells #[.int .i64 0, .slice none 0 0] 37 (0, 0))) := xq
  clear xb xr xq
  have FREE : Hid (Calls Try.prog 59 #[SV t e (.slice a1 x c1) (.slice a2 z c2) (.slice a3 y c3)] W0 fun r w' => ∃ v, r = .returned v ∧ OwnI w' W0.heap.size v (freeK (usedB ss ps) t) ∧ Below W0.heap.size W0 w') := by
    obtain ⟨a, cc, e1, r1⟩ := (HR1.out.below B0).row
    obtain ⟨a', cc', e2, r2⟩ := (HR2.out.below B0).row
    have hh := l04Free_any t e a a' cc cc' (.slice a3 y c3) ss ps W0 r1 r2 HL1.out HL2.out ht
    rw [← e1, ← e2] at hh
    exact hh
  have HI : Hid (inB (k : Int) 0 64 = true) := decide_eq_true (by omega)
  go_enter Try.func67, Try.ntmps67
  go_wp2_with fail
  refine FREE.out.mono ?_
  rintro r w1 ⟨vf, rfl, ho1, hb1⟩
  obtain ⟨af, cf, rfl⟩ := own_shp ho1
  have n1 : W0.heap.size ≤ w1.heap.size := hb1.size
  have sz0 : w.heap.size < w1.heap.size := by omega
  have sz1 : w.heap.size + 1 < w1.heap.size := by omega
  have sz2 : w.heap.size + 1 + 1 < w1.heap.size := by omega
  have B1 : Below w.heap.size w w1 := B0.trans (hb1.mono B0.size)
  have xb1 := keepBlk XB.out hb1 (by omega)
  have xr1 := keepBlk XR.out hb1 (by omega)
  have xq1 := keepBlk XQ.out hb1 (by omega)
  clear cb0W0 cb1W0 cb2W0 cb3W0 cb4W0 fbW0 cr0W0 cr1W0 cr2W0 cr3W0 cr4W0 frW0 cq0W0 cq1W0 fqW0
  have cb0w1 : w1.cell? ⟨w.heap.size, 0, none⟩ = some (.int .i64 t) := (by simp [World.cell?, xb1])
  have cb1w1 : w1.cell? ⟨w.heap.size, 1, none⟩ = some (.int .i64 e) := (by simp [World.cell?, xb1])
  have cb2w1 : w1.cell? ⟨w.heap.size, 2, none⟩ = some (.slice a1 x c1) := (by simp [World.cell?, xb1])
  have cb3w1 : w1.cell? ⟨w.heap.size, 3, none⟩ = some (.slice a2 z c2) := (by simp [World.cell?, xb1])
  have cb4w1 : w1.cell? ⟨w.heap.size, 4, none⟩ = some (.slice a3 y c3) := (by simp [World.cell?, xb1])
  have fbw1 : ∀ o, w1.frozen? ⟨w.heap.size, o, none⟩ = false := fun o => (by simp [World.frozen?, xb1])
  have cr0w1 : w1.cell? ⟨w.heap.size + 1, 0, none⟩ = some (.int .i64 0) := (by simp [World.cell?, xr1])
  have cr1w1 : w1.cell? ⟨w.heap.size + 1, 1, none⟩ = some (.int .i64 0) := (by simp [World.cell?, xr1])
  have cr2w1 : w1.cell? ⟨w.heap.size + 1, 2, none⟩ = some (.slice none 0 0) := (by simp [World.cell?, xr1])
  have cr3w1 : w1.cell? ⟨w.heap.size + 1, 3, none⟩ = some (.slice none 0 0) := (by simp [World.cell?, xr1])
  have cr4w1 : w1.cell? ⟨w.heap.size + 1, 4, none⟩ = some (.slice none 0 0) := (by simp [World.cell?, xr1])
  have frw1 : ∀ o, w1.frozen? ⟨w.heap.size + 1, o, none⟩ = false := fun o => (by simp [World.frozen?, xr1])
  have cq0w1 : w1.cell? ⟨w.heap.size + 1 + 1, 0, none⟩ = some (.int .i64 0) := (by simp [World.cell?, xq1])
  have cq1w1 : w1.cell? ⟨w.heap.size + 1 + 1, 1, none⟩ = some (.slice none 0 0) := (by simp [World.cell?, xq1])
  have fqw1 : ∀ o, w1.frozen? ⟨w.heap.size + 1 + 1, o, none⟩ = false := fun o => (by simp [World.frozen?, xq1])
  have XB1 : Hid (w1.heap[w.heap.size]? = some (.cells #[.int .i64 t, .int .i64 e, .slice a1 x c1, .slice a2 z c2, .slice a3 y c3] 29 (0, 0))) := xb1
  have XR1 : Hid (w1.heap[w.heap.size + 1]? = some (.cells #[.int .i64 0, .int .i64 0, .slice none 0 0, .slice none 0 0, .slice none 0 0] 29 (0, 0))) := xr1
  have XQ1 : Hid (w1.heap[w.heap.size + 1 + 1]? = some (.cells #[.int .i64 0, .slice none 0 0] 37 (0, 0))) := xq1
  clear xb1 xr1 xq1 XB XR XQ FREE
  go_wp2_with fail
  refine (l01In_any k 0 64 w1).mono ?_
  rintro r w1' ⟨rfl, hq⟩
  obtain rfl := hq.symm
  rw [HI.out]
  clear ho1
  generalize (freeK (usedB ss ps) t).length = nf at *
  rcases (show (nf : Int) < (k : Int) ∨ (¬ (nf : Int) < (k : Int) ∧ e = 1000000) by omega) with hn | ⟨hn, hn2⟩
  all_goals
    go_wp2
    refine bodyPost_ret (v := .tuple #[SV t e (.slice a1 x c1) (.slice a2 z c2) (.slice a3 y c3), .agg #[.int .i64 7, .slice (some ⟨w1.heap.size, 0, none⟩) 0 0]]) (by go_simp; simp [results, Try.results67, go_sem, cr0w1, cr1w1, cr2w1, cr3w1, cr4w1, cq0w1, cq1w1, sz1, sz2]) rfl ⟨_, _, _, _, rfl, .inl ⟨rfl, rfl⟩, .inl ⟨rfl, rfl⟩, .inl ⟨rfl, rfl⟩, made_res B1.size _ _ _ _ _ _ _, below_res B1 (by omega) _ _ _ _ _ _ _ _⟩
end Go.Proofs.Ytaklphoplfofbaa
