/- The specification's SpaceStep (stage 4). -/
import Derived.Test.YtaklphoplfofbaaStY
namespace Go.Proofs.Ytaklphoplfofbaa
open Go.RowKit

theorem stp_len (t : Nat) (e : Int) (ss : List Int) (ps : List P2) (qs : List Int) (k n : Int) (ok : OkSp t e ss ps qs) : (stp t e ss ps qs k n).ss.length ≤ 1048576 ∧ (stp t e ss ps qs k n).ps.length ≤ 1048576 ∧ (stp t e ss ps qs k n).qs.length ≤ 1048576 := by
  have t0 := ok.1
  have q0 := ok.2.2.2.2.2.1
  have m0 := ok_many ok
  have f0 := freeK_len (usedB ss ps) t
  have r1 := relP_len (e + 1) qs (mer e ss ps)
  rw [mer_len] at r1
  have r2 := relP_len e (qs.eraseIdx n.toNat) ps
  have r3 := List.length_eraseIdx_le qs n.toNat
  unfold stp
  split
  · split
    · split
      · exact ⟨by show ss.length ≤ _; omega, by show ps.length ≤ _; omega, by show qs.length ≤ _; omega⟩
      · exact ⟨by show (List.take _ _).length ≤ _; rw [List.length_take]; omega, by show (relP _ _ _).length ≤ _; omega, by show qs.length ≤ _; omega⟩
    · exact ⟨by show ss.length ≤ _; omega, by show ps.length ≤ _; omega, by show qs.length ≤ _; omega⟩
  · split
    · split
      · exact ⟨by show ss.length ≤ _; omega, by show ps.length ≤ _; omega, by show qs.length ≤ _; omega⟩
      · exact ⟨by show ss.length ≤ _; omega, by show ps.length ≤ _; omega, by show (qs ++ [e]).length ≤ _; rw [List.length_append]; simp only [List.length_cons, List.length_nil]; omega⟩
    · split
      · split
        · exact ⟨by show ss.length ≤ _; omega, by show (relP _ _ _).length ≤ _; omega, by show (List.eraseIdx _ _).length ≤ _; omega⟩
        · exact ⟨by show ss.length ≤ _; omega, by show ps.length ≤ _; omega, by show qs.length ≤ _; omega⟩
      · exact ⟨by show ss.length ≤ _; omega, by show ps.length ≤ _; omega, by show qs.length ≤ _; omega⟩

set_option maxRecDepth 100000 in
set_option maxHeartbeats 4000000 in
theorem specStep_bad (t e kk n : Int) (p1 p2 p3 : Addr) (c1 c2 c3 : Nat) (ss : List Int) (ps : List P2) (qs : List Int) (w : World) (h1 : RowI w (some p1) ss) (h2 : RowP w (some p2) ps) (h3 : RowI w (some p3) qs) (l1 : ss.length ≤ 1048576) (l2 : ps.length ≤ 1048576) (l3 : qs.length ≤ 1048576) (bad : asB (OkSp t e ss ps qs) = false) :
    Calls Try.prog 29 #[SV t e (.slice (some p1) ss.length c1) (.slice (some p2) ps.length c2) (.slice (some p3) qs.length c3), .agg #[.int .i64 kk, .int .i64 n]] w (RetS false w 0 zR 1) := by
  have H1 : Hid (RowI w (some p1) ss) := h1
  have H2 : Hid (RowP w (some p2) ps) := h2
  have H3 : Hid (RowI w (some p3) qs) := h3
  have L1 : Hid (ss.length ≤ 1048576) := l1
  have L2 : Hid (ps.length ≤ 1048576) := l2
  have L3 : Hid (qs.length ≤ 1048576) := l3
  clear h1 h2 h3 l1 l2 l3
  obtain ⟨W0, hW0⟩ : ∃ W0, W4 w t e (.slice (some p1) ss.length c1) (.slice (some p2) ps.length c2) (.slice (some p3) qs.length c3) kk n = W0 := ⟨_, rfl⟩
  have B0 : Below w.heap.size w W0 := hW0 ▸ below_W4 w t e _ _ _ _ _
  have z0 : W0.heap.size = w.heap.size + 4 := hW0 ▸ W4_size w t e _ _ _ _ _
  have xbW0 : W0.heap[w.heap.size]? = some (.cells #[.int .i64 t, .int .i64 e, .slice (some p1) ss.length c1, .slice (some p2) ps.length c2, .slice (some p3) qs.length c3] 29 (0, 0)) := hW0 ▸ W4_b w t e _ _ _ _ _
  have xaW0 : W0.heap[w.heap.size + 1]? = some (.cells #[.int .i64 kk, .int .i64 n] 39 (0, 0)) := hW0 ▸ W4_a w t e _ _ _ _ _
  have xrW0 : W0.heap[w.heap.size + 1 + 1]? = some (.cells #[.int .i64 0, .int .i64 0, .slice none 0 0, .slice none 0 0, .slice none 0 0] 29 (0, 0)) := hW0 ▸ W4_r w t e _ _ _ _ _
  have xqW0 : W0.heap[w.heap.size + 1 + 1 + 1]? = some (.cells #[.int .i64 0, .slice none 0 0] 37 (0, 0)) := hW0 ▸ W4_q w t e _ _ _ _ _
  have cb0W0 : W0.cell? ⟨w.heap.size, 0, none⟩ = some (.int .i64 t) := (by simp [World.cell?, xbW0])
  have cb1W0 : W0.cell? ⟨w.heap.size, 1, none⟩ = some (.int .i64 e) := (by simp [World.cell?, xbW0])
  have cb2W0 : W0.cell? ⟨w.heap.size, 2, none⟩ = some (.slice (some p1) ss.length c1) := (by simp [World.cell?, xbW0])
  have cb3W0 : W0.cell? ⟨w.heap.size, 3, none⟩ = some (.slice (some p2) ps.length c2) := (by simp [World.cell?, xbW0])
  have cb4W0 : W0.cell? ⟨w.heap.size, 4, none⟩ = some (.slice (some p3) qs.length c3) := (by simp [World.cell?, xbW0])
  have fbW0 : ∀ o, W0.frozen? ⟨w.heap.size, o, none⟩ = false := fun o => (by simp [World.frozen?, xbW0])
  have ca0W0 : W0.cell? ⟨w.heap.size + 1, 0, none⟩ = some (.int .i64 kk) := (by simp [World.cell?, xaW0])
  have ca1W0 : W0.cell? ⟨w.heap.size + 1, 1, none⟩ = some (.int .i64 n) := (by simp [World.cell?, xaW0])
  have faW0 : ∀ o, W0.frozen? ⟨w.heap.size + 1, o, none⟩ = false := fun o => (by simp [World.frozen?, xaW0])
  have cr0W0 : W0.cell? ⟨w.heap.size + 1 + 1, 0, none⟩ = some (.int .i64 0) := (by simp [World.cell?, xrW0])
  have cr1W0 : W0.cell? ⟨w.heap.size + 1 + 1, 1, none⟩ = some (.int .i64 0) := (by simp [World.cell?, xrW0])
  have cr2W0 : W0.cell? ⟨w.heap.size + 1 + 1, 2, none⟩ = some (.slice none 0 0) := (by simp [World.cell?, xrW0])
  have cr3W0 : W0.cell? ⟨w.heap.size + 1 + 1, 3, none⟩ = some (.slice none 0 0) := (by simp [World.cell?, xrW0])
  have cr4W0 : W0.cell? ⟨w.heap.size + 1 + 1, 4, none⟩ = some (.slice none 0 0) := (by simp [World.cell?, xrW0])
  have frW0 : ∀ o, W0.frozen? ⟨w.heap.size + 1 + 1, o, none⟩ = false := fun o => (by simp [World.frozen?, xrW0])
  have cq0W0 : W0.cell? ⟨w.heap.size + 1 + 1 + 1, 0, none⟩ = some (.int .i64 0) := (by simp [World.cell?, xqW0])
  have cq1W0 : W0.cell? ⟨w.heap.size + 1 + 1 + 1, 1, none⟩ = some (.slice none 0 0) := (by simp [World.cell?, xqW0])
  have fqW0 : ∀ o, W0.frozen? ⟨w.heap.size + 1 + 1 + 1, o, none⟩ = false := fun o => (by simp [World.frozen?, xqW0])
  have XB0 : Hid (W0.heap[w.heap.size]? = some (.cells #[.int .i64 t, .int .i64 e, .slice (some p1) ss.length c1, .slice (some p2) ps.length c2, .slice (some p3) qs.length c3] 29 (0, 0))) := xbW0
  have XA0 : Hid (W0.heap[w.heap.size + 1]? = some (.cells #[.int .i64 kk, .int .i64 n] 39 (0, 0))) := xaW0
  have XR0 : Hid (W0.heap[w.heap.size + 1 + 1]? = some (.cells #[.int .i64 0, .int .i64 0, .slice none 0 0, .slice none 0 0, .slice none 0 0] 29 (0, 0))) := xrW0
  have XQ0 : Hid (W0.heap[w.heap.size + 1 + 1 + 1]? = some (.cells #[.int .i64 0, .slice none 0 0] 37 (0, 0))) := xqW0
  clear xbW0 xaW0 xrW0 xqW0
  go_enter Try.func29, Try.ntmps29
  go_wp2_with fail
  refine (specSpaceOK_any t e (some p1) (some p2) (some p3) c1 c2 c3 ss ps qs W0 (H1.out.below B0) (H2.out.below B0) (H3.out.below B0) L1.out L2.out L3.out).mono ?_
  rintro r w1 ⟨rfl, b1⟩
  have B1 : Below w.heap.size w w1 := B0.trans (b1.mono B0.size)
  have n1 : W0.heap.size ≤ w1.heap.size := b1.size
  have xbw1 := keepBlk XB0.out b1 (by omega)
  have xaw1 := keepBlk XA0.out b1 (by omega)
  have xrw1 := keepBlk XR0.out b1 (by omega)
  have xqw1 := keepBlk XQ0.out b1 (by omega)
  clear cb0W0 cb1W0 cb2W0 cb3W0 cb4W0 fbW0 ca0W0 ca1W0 faW0 cr0W0 cr1W0 cr2W0 cr3W0 cr4W0 frW0 cq0W0 cq1W0 fqW0
  have cb0w1 : w1.cell? ⟨w.heap.size, 0, none⟩ = some (.int .i64 t) := (by simp [World.cell?, xbw1])
  have cb1w1 : w1.cell? ⟨w.heap.size, 1, none⟩ = some (.int .i64 e) := (by simp [World.cell?, xbw1])
  have cb2w1 : w1.cell? ⟨w.heap.size, 2, none⟩ = some (.slice (some p1) ss.length c1) := (by simp [World.cell?, xbw1])
  have cb3w1 : w1.cell? ⟨w.heap.size, 3, none⟩ = some (.slice (some p2) ps.length c2) := (by simp [World.cell?, xbw1])
  have cb4w1 : w1.cell? ⟨w.heap.size, 4, none⟩ = some (.slice (some p3) qs.length c3) := (by simp [World.cell?, xbw1])
  have fbw1 : ∀ o, w1.frozen? ⟨w.heap.size, o, none⟩ = false := fun o => (by simp [World.frozen?, xbw1])
  have ca0w1 : w1.cell? ⟨w.heap.size + 1, 0, none⟩ = some (.int .i64 kk) := (by simp [World.cell?, xaw1])
  have ca1w1 : w1.cell? ⟨w.heap.size + 1, 1, none⟩ = some (.int .i64 n) := (by simp [World.cell?, xaw1])
  have faw1 : ∀ o, w1.frozen? ⟨w.heap.size + 1, o, none⟩ = false := fun o => (by simp [World.frozen?, xaw1])
  have cr0w1 : w1.cell? ⟨w.heap.size + 1 + 1, 0, none⟩ = some (.int .i64 0) := (by simp [World.cell?, xrw1])
  have cr1w1 : w1.cell? ⟨w.heap.size + 1 + 1, 1, none⟩ = some (.int .i64 0) := (by simp [World.cell?, xrw1])
  have cr2w1 : w1.cell? ⟨w.heap.size + 1 + 1, 2, none⟩ = some (.slice none 0 0) := (by simp [World.cell?, xrw1])
  have cr3w1 : w1.cell? ⟨w.heap.size + 1 + 1, 3, none⟩ = some (.slice none 0 0) := (by simp [World.cell?, xrw1])
  have cr4w1 : w1.cell? ⟨w.heap.size + 1 + 1, 4, none⟩ = some (.slice none 0 0) := (by simp [World.cell?, xrw1])
  have frw1 : ∀ o, w1.frozen? ⟨w.heap.size + 1 + 1, o, none⟩ = false := fun o => (by simp [World.frozen?, xrw1])
  have cq0w1 : w1.cell? ⟨w.heap.size + 1 + 1 + 1, 0, none⟩ = some (.int .i64 0) := (by simp [World.cell?, xqw1])
  have cq1w1 : w1.cell? ⟨w.heap.size + 1 + 1 + 1, 1, none⟩ = some (.slice none 0 0) := (by simp [World.cell?, xqw1])
  have fqw1 : ∀ o, w1.frozen? ⟨w.heap.size + 1 + 1 + 1, o, none⟩ = false := fun o => (by simp [World.frozen?, xqw1])
  have XB1 : Hid (w1.heap[w.heap.size]? = some (.cells #[.int .i64 t, .int .i64 e, .slice (some p1) ss.length c1, .slice (some p2) ps.length c2, .slice (some p3) qs.length c3] 29 (0, 0))) := xbw1
  have XA1 : Hid (w1.heap[w.heap.size + 1]? = some (.cells #[.int .i64 kk, .int .i64 n] 39 (0, 0))) := xaw1
  have XR1 : Hid (w1.heap[w.heap.size + 1 + 1]? = some (.cells #[.int .i64 0, .int .i64 0, .slice none 0 0, .slice none 0 0, .slice none 0 0] 29 (0, 0))) := xrw1
  have XQ1 : Hid (w1.heap[w.heap.size + 1 + 1 + 1]? = some (.cells #[.int .i64 0, .slice none 0 0] 37 (0, 0))) := xqw1
  clear xbw1 xaw1 xrw1 xqw1 b1 XB0 XA0 XR0 XQ0
  rw [bad]
  go_wp2
  refine bodyPost_ret (v := .tuple #[SV 0 0 (.slice none 0 0) (.slice none 0 0) (.slice none 0 0), .agg #[.int .i64 0, .slice none 0 0], .int .i64 1]) (by go_simp; simp [results, Try.results29, go_sem, cr0w1, cr1w1, cr2w1, cr3w1, cr4w1, cq0w1, cq1w1]) rfl ⟨_, _, _, _, rfl, OwnI.nil _ _, ⟨rfl, .inl ⟨rfl, rfl⟩⟩, OwnI.nil _ _, OwnI.nil _ _, fun h => (by cases h), res_below B1 (by omega) _ _ _ _ _ _ _⟩

set_option maxRecDepth 100000 in
set_option maxHeartbeats 16000000 in
theorem specStep_ok (T : Nat) (e kk n : Int) (p1 p2 p3 : Addr) (c1 c2 c3 : Nat) (ss : List Int) (ps : List P2) (qs : List Int) (w : World) (h1 : RowI w (some p1) ss) (h2 : RowP w (some p2) ps) (h3 : RowI w (some p3) qs) (l1 : ss.length ≤ 1048576) (l2 : ps.length ≤ 1048576) (l3 : qs.length ≤ 1048576) (c1' : ss.length ≤ c1) (c2' : ps.length ≤ c2) (c3' : qs.length ≤ c3) (ok : OkSp T e ss ps qs) :
    Calls Try.prog 29 #[SV T e (.slice (some p1) ss.length c1) (.slice (some p2) ps.length c2) (.slice (some p3) qs.length c3), .agg #[.int .i64 kk, .int .i64 n]] w (RetS false w T (stp T e ss ps qs kk n) 0) := by
  have OK : Hid (OkSp T e ss ps qs) := ok
  have okb := (asB_true ok).symm
  have LEN : Hid ((stp T e ss ps qs kk n).ss.length ≤ 1048576 ∧ (stp T e ss ps qs kk n).ps.length ≤ 1048576 ∧ (stp T e ss ps qs kk n).qs.length ≤ 1048576) := stp_len T e ss ps qs kk n ok
  have hcs : Hid (ReadI w (.slice (some p1) ss.length c1) ss ∧ ReadP w (.slice (some p2) ps.length c2) ps ∧ ReadI w (.slice (some p3) qs.length c3) qs) := ⟨.inr ⟨p1, c1, rfl, c1', h1⟩, .inr ⟨p2, c2, rfl, c2', h2⟩, .inr ⟨p3, c3, rfl, c3', h3⟩⟩
  clear ok c1' c2' c3'
  have H1 : Hid (RowI w (some p1) ss) := h1
  have H2 : Hid (RowP w (some p2) ps) := h2
  have H3 : Hid (RowI w (some p3) qs) := h3
  have L1 : Hid (ss.length ≤ 1048576) := l1
  have L2 : Hid (ps.length ≤ 1048576) := l2
  have L3 : Hid (qs.length ≤ 1048576) := l3
  clear h1 h2 h3 l1 l2 l3
  obtain ⟨W0, hW0⟩ : ∃ W0, W4 w (T : Int) e (.slice (some p1) ss.length c1) (.slice (some p2) ps.length c2) (.slice (some p3) qs.length c3) kk n = W0 := ⟨_, rfl⟩
  have B0 : Below w.heap.size w W0 := hW0 ▸ below_W4 w (T : Int) e _ _ _ _ _
  have z0 : W0.heap.size = w.heap.size + 4 := hW0 ▸ W4_size w (T : Int) e _ _ _ _ _
  have xbW0 : W0.heap[w.heap.size]? = some (.cells #[.int .i64 (T : Int), .int .i64 e, .slice (some p1) ss.length c1, .slice (some p2) ps.length c2, .slice (some p3) qs.length c3] 29 (0, 0)) := hW0 ▸ W4_b w (T : Int) e _ _ _ _ _
  have xaW0 : W0.heap[w.heap.size + 1]? = some (.cells #[.int .i64 kk, .int .i64 n] 39 (0, 0)) := hW0 ▸ W4_a w (T : Int) e _ _ _ _ _
  have xrW0 : W0.heap[w.heap.size + 1 + 1]? = some (.cells #[.int .i64 0, .int .i64 0, .slice none 0 0, .slice none 0 0, .slice none 0 0] 29 (0, 0)) := hW0 ▸ W4_r w (T : Int) e _ _ _ _ _
  have xqW0 : W0.heap[w.heap.size + 1 + 1 + 1]? = some (.cells #[.int .i64 0, .slice none 0 0] 37 (0, 0)) := hW0 ▸ W4_q w (T : Int) e _ _ _ _ _
  have cb0W0 : W0.cell? ⟨w.heap.size, 0, none⟩ = some (.int .i64 (T : Int)) := (by simp [World.cell?, xbW0])
  have cb1W0 : W0.cell? ⟨w.heap.size, 1, none⟩ = some (.int .i64 e) := (by simp [World.cell?, xbW0])
  have cb2W0 : W0.cell? ⟨w.heap.size, 2, none⟩ = some (.slice (some p1) ss.length c1) := (by simp [World.cell?, xbW0])
  have cb3W0 : W0.cell? ⟨w.heap.size, 3, none⟩ = some (.slice (some p2) ps.length c2) := (by simp [World.cell?, xbW0])
  have cb4W0 : W0.cell? ⟨w.heap.size, 4, none⟩ = some (.slice (some p3) qs.length c3) := (by simp [World.cell?, xbW0])
  have fbW0 : ∀ o, W0.frozen? ⟨w.heap.size, o, none⟩ = false := fun o => (by simp [World.frozen?, xbW0])
  have ca0W0 : W0.cell? ⟨w.heap.size + 1, 0, none⟩ = some (.int .i64 kk) := (by simp [World.cell?, xaW0])
  have ca1W0 : W0.cell? ⟨w.heap.size + 1, 1, none⟩ = some (.int .i64 n) := (by simp [World.cell?, xaW0])
  have faW0 : ∀ o, W0.frozen? ⟨w.heap.size + 1, o, none⟩ = false := fun o => (by simp [World.frozen?, xaW0])
  have cr0W0 : W0.cell? ⟨w.heap.size + 1 + 1, 0, none⟩ = some (.int .i64 0) := (by simp [World.cell?, xrW0])
  have cr1W0 : W0.cell? ⟨w.heap.size + 1 + 1, 1, none⟩ = some (.int .i64 0) := (by simp [World.cell?, xrW0])
  have cr2W0 : W0.cell? ⟨w.heap.size + 1 + 1, 2, none⟩ = some (.slice none 0 0) := (by simp [World.cell?, xrW0])
  have cr3W0 : W0.cell? ⟨w.heap.size + 1 + 1, 3, none⟩ = some (.slice none 0 0) := (by simp [World.cell?, xrW0])
  have cr4W0 : W0.cell? ⟨w.heap.size + 1 + 1, 4, none⟩ = some (.slice none 0 0) := (by simp [World.cell?, xrW0])
  have frW0 : ∀ o, W0.frozen? ⟨w.heap.size + 1 + 1, o, none⟩ = false := fun o => (by simp [World.frozen?, xrW0])
  have cq0W0 : W0.cell? ⟨w.heap.size + 1 + 1 + 1, 0, none⟩ = some (.int .i64 0) := (by simp [World.cell?, xqW0])
  have cq1W0 : W0.cell? ⟨w.heap.size + 1 + 1 + 1, 1, none⟩ = some (.slice none 0 0) := (by simp [World.cell?, xqW0])
  have fqW0 : ∀ o, W0.frozen? ⟨w.heap.size + 1 + 1 + 1, o, none⟩ = false := fun o => (by simp [World.frozen?, xqW0])
  have XB0 : Hid (W0.heap[w.heap.size]? = some (.cells #[.int .i64 (T : Int), .int .i64 e, .slice (some p1) ss.length c1, .slice (some p2) ps.length c2, .slice (some p3) qs.length c3] 29 (0, 0))) := xbW0
  have XA0 : Hid (W0.heap[w.heap.size + 1]? = some (.cells #[.int .i64 kk, .int .i64 n] 39 (0, 0))) := xaW0
  have XR0 : Hid (W0.heap[w.heap.size + 1 + 1]? = some (.cells #[.int .i64 0, .int .i64 0, .slice none 0 0, .slice none 0 0, .slice none 0 0] 29 (0, 0))) := xrW0
  have XQ0 : Hid (W0.heap[w.heap.size + 1 + 1 + 1]? = some (.cells #[.int .i64 0, .slice none 0 0] 37 (0, 0))) := xqW0
  clear xbW0 xaW0 xrW0 xqW0
  go_enter Try.func29, Try.ntmps29
  go_wp2_with fail
  refine (specSpaceOK_any (T : Int) e (some p1) (some p2) (some p3) c1 c2 c3 ss ps qs W0 (H1.out.below B0) (H2.out.below B0) (H3.out.below B0) L1.out L2.out L3.out).mono ?_
  rintro r w1 ⟨rfl, b1⟩
  have B1 : Below w.heap.size w w1 := B0.trans (b1.mono B0.size)
  have n1 : W0.heap.size ≤ w1.heap.size := b1.size
  have xbw1 := keepBlk XB0.out b1 (by omega)
  have xaw1 := keepBlk XA0.out b1 (by omega)
  have xrw1 := keepBlk XR0.out b1 (by omega)
  have xqw1 := keepBlk XQ0.out b1 (by omega)
  clear cb0W0 cb1W0 cb2W0 cb3W0 cb4W0 fbW0 ca0W0 ca1W0 faW0 cr0W0 cr1W0 cr2W0 cr3W0 cr4W0 frW0 cq0W0 cq1W0 fqW0
  have cb0w1 : w1.cell? ⟨w.heap.size, 0, none⟩ = some (.int .i64 (T : Int)) := (by simp [World.cell?, xbw1])
  have cb1w1 : w1.cell? ⟨w.heap.size, 1, none⟩ = some (.int .i64 e) := (by simp [World.cell?, xbw1])
  have cb2w1 : w1.cell? ⟨w.heap.size, 2, none⟩ = some (.slice (some p1) ss.length c1) := (by simp [World.cell?, xbw1])
  have cb3w1 : w1.cell? ⟨w.heap.size, 3, none⟩ = some (.slice (some p2) ps.length c2) := (by simp [World.cell?, xbw1])
  have cb4w1 : w1.cell? ⟨w.heap.size, 4, none⟩ = some (.slice (some p3) qs.length c3) := (by simp [World.cell?, xbw1])
  have fbw1 : ∀ o, w1.frozen? ⟨w.heap.size, o, none⟩ = false := fun o => (by simp [World.frozen?, xbw1])
  have ca0w1 : w1.cell? ⟨w.heap.size + 1, 0, none⟩ = some (.int .i64 kk) := (by simp [World.cell?, xaw1])
  have ca1w1 : w1.cell? ⟨w.heap.size + 1, 1, none⟩ = some (.int .i64 n) := (by simp [World.cell?, xaw1])
  have faw1 : ∀ o, w1.frozen? ⟨w.heap.size + 1, o, none⟩ = false := fun o => (by simp [World.frozen?, xaw1])
  have cr0w1 : w1.cell? ⟨w.heap.size + 1 + 1, 0, none⟩ = some (.int .i64 0) := (by simp [World.cell?, xrw1])
  have cr1w1 : w1.cell? ⟨w.heap.size + 1 + 1, 1, none⟩ = some (.int .i64 0) := (by simp [World.cell?, xrw1])
  have cr2w1 : w1.cell? ⟨w.heap.size + 1 + 1, 2, none⟩ = some (.slice none 0 0) := (by simp [World.cell?, xrw1])
  have cr3w1 : w1.cell? ⟨w.heap.size + 1 + 1, 3, none⟩ = some (.slice none 0 0) := (by simp [World.cell?, xrw1])
  have cr4w1 : w1.cell? ⟨w.heap.size + 1 + 1, 4, none⟩ = some (.slice none 0 0) := (by simp [World.cell?, xrw1])
  have frw1 : ∀ o, w1.frozen? ⟨w.heap.size + 1 + 1, o, none⟩ = false := fun o => (by simp [World.frozen?, xrw1])
  have cq0w1 : w1.cell? ⟨w.heap.size + 1 + 1 + 1, 0, none⟩ = some (.int .i64 0) := (by simp [World.cell?, xqw1])
  have cq1w1 : w1.cell? ⟨w.heap.size + 1 + 1 + 1, 1, none⟩ = some (.slice none 0 0) := (by simp [World.cell?, xqw1])
  have fqw1 : ∀ o, w1.frozen? ⟨w.heap.size + 1 + 1 + 1, o, none⟩ = false := fun o => (by simp [World.frozen?, xqw1])
  have XB1 : Hid (w1.heap[w.heap.size]? = some (.cells #[.int .i64 (T : Int), .int .i64 e, .slice (some p1) ss.length c1, .slice (some p2) ps.length c2, .slice (some p3) qs.length c3] 29 (0, 0))) := xbw1
  have XA1 : Hid (w1.heap[w.heap.size + 1]? = some (.cells #[.int .i64 kk, .int .i64 n] 39 (0, 0))) := xaw1
  have XR1 : Hid (w1.heap[w.heap.size + 1 + 1]? = some (.cells #[.int .i64 0, .int .i64 0, .slice none 0 0, .slice none 0 0, .slice none 0 0] 29 (0, 0))) := xrw1
  have XQ1 : Hid (w1.heap[w.heap.size + 1 + 1 + 1]? = some (.cells #[.int .i64 0, .slice none 0 0] 37 (0, 0))) := xqw1
  clear xbw1 xaw1 xrw1 xqw1 b1 XB0 XA0 XR0 XQ0
  rw [okb]
  go_wp2_with fail
  refine (l04Step_any T e kk n _ _ _ ss ps qs w1 OK.out (hcs.out.1.below B1) (hcs.out.2.1.below B1) (hcs.out.2.2.below B1)).mono ?_
  rintro r w2 ⟨u1, u2, u3, u4, rfl, a1, a2, a3, a4, b2⟩
  have sh : (∃ a k c, u1 = .slice a k c) ∧ (∃ a k c, u2 = .slice a k c) ∧ (∃ a k c, u3 = .slice a k c) := by
    refine ⟨?_, ?_, ?_⟩
    · rcases a1 with ⟨e, _⟩ | o
      · exact ⟨_, _, _, e⟩
      · exact own_shr o
    · rcases a2 with ⟨e, _⟩ | o
      · exact ⟨_, _, _, e⟩
      · exact own_shr o
    · rcases a3 with ⟨e, _⟩ | o
      · exact ⟨_, _, _, e⟩
      · exact own_shr o
  obtain ⟨⟨b1, k1, d1, rfl⟩, ⟨b2', k2, d2, rfl⟩, ⟨b3, k3, d3, rfl⟩⟩ := sh
  obtain ⟨b4, k4, d4, rfl⟩ := own_shr a4
  have s2 : w1.heap.size ≤ w2.heap.size := b2.size
  have B2 : Below w.heap.size w w2 := B1.trans (b2.mono B1.size)
  have rd1 : ReadI w2 (.slice b1 k1 d1) (stp T e ss ps qs kk n).ss := by
    rcases a1 with ⟨e, e'⟩ | o
    · rw [e, e']; exact hcs.out.1.below B2
    · exact o.read
  have rd2 : ReadP w2 (.slice b2' k2 d2) (stp T e ss ps qs kk n).ps := by
    rcases a2 with ⟨e, e'⟩ | o
    · rw [e, e']; exact hcs.out.2.1.below B2
    · exact OwnP.read o
  have rd3 : ReadI w2 (.slice b3 k3 d3) (stp T e ss ps qs kk n).qs := by
    rcases a3 with ⟨e, e'⟩ | o
    · rw [e, e']; exact hcs.out.2.2.below B2
    · exact o.read
  have RD : Hid (ReadI w2 (.slice b1 k1 d1) (stp T e ss ps qs kk n).ss ∧ ReadP w2 (.slice b2' k2 d2) (stp T e ss ps qs kk n).ps ∧ ReadI w2 (.slice b3 k3 d3) (stp T e ss ps qs kk n).qs ∧ OwnI w2 w1.heap.size (.slice b4 k4 d4) (stp T e ss ps qs kk n).pg) := ⟨rd1, rd2, rd3, a4⟩
  have XR2 : Hid (w2.heap[w.heap.size + 1 + 1]? = some (.cells #[.int .i64 0, .int .i64 0, .slice none 0 0, .slice none 0 0, .slice none 0 0] 29 (0, 0))) := keepBlk XR1.out b2 (by omega)
  have XQ2 : Hid (w2.heap[w.heap.size + 1 + 1 + 1]? = some (.cells #[.int .i64 0, .slice none 0 0] 37 (0, 0))) := keepBlk XQ1.out b2 (by omega)
  have N2 : Hid (w.heap.size + 1 + 1 + 1 < w1.heap.size) := by show _ < _; omega
  clear a1 a2 a3 a4 rd1 rd2 rd3 b2 XR1 XQ1 XB1 XA1 cb0w1 cb1w1 cb2w1 cb3w1 cb4w1 fbw1 ca0w1 ca1w1 faw1 cr0w1 cr1w1 cr2w1 cr3w1 cr4w1 frw1 cq0w1 cq1w1 fqw1
  generalize hRe : (stp T e ss ps qs kk n).e = Re at *
  generalize hRc : (stp T e ss ps qs kk n).c = Rc at *
  obtain ⟨W3, hW3⟩ : ∃ W3, ((w2.alloc (.cells #[.int .i64 T, .int .i64 Re, .slice b1 k1 d1, .slice b2' k2 d2, .slice b3 k3 d3] 29)).alloc (.cells #[.int .i64 Rc, .slice b4 k4 d4] 37)) = W3 := ⟨_, rfl⟩
  have z3 : W3.heap.size = w2.heap.size + 2 := by rw [← hW3]; simp
  have b3' : Below w2.heap.size w2 W3 := hW3 ▸ ((Below.refl _ _).alloc (Nat.le_refl _) _).alloc (by simp) _
  have x7 : W3.heap[w2.heap.size]? = some (.cells #[.int .i64 T, .int .i64 Re, .slice b1 k1 d1, .slice b2' k2 d2, .slice b3 k3 d3] 29 (0, 0)) := hW3 ▸ (heap_old _ _ _ (by simp)).trans (heap_new' _ _ _ rfl)
  have x8 : W3.heap[w2.heap.size + 1]? = some (.cells #[.int .i64 Rc, .slice b4 k4 d4] 37 (0, 0)) := hW3 ▸ heap_new' _ _ _ (by simp)
  have X78 : Hid (W3.heap[w2.heap.size]? = some (.cells #[.int .i64 T, .int .i64 Re, .slice b1 k1 d1, .slice b2' k2 d2, .slice b3 k3 d3] 29 (0, 0)) ∧ W3.heap[w2.heap.size + 1]? = some (.cells #[.int .i64 Rc, .slice b4 k4 d4] 37 (0, 0))) := ⟨x7, x8⟩
  have bd : Below w2.heap.size w2 W3.drew := b3'.trans (below_draw.mono b3'.size)
  have T0 : Hid (Box72 (w2.heap.size) (w2.heap.size + 1) T Re (.slice b1 k1 d1) (.slice b2' k2 d2) (.slice b3 k3 d3) Rc (.slice b4 k4 d4) W3.drew) := box72_of x7 x8
  clear x7 x8
  go_wp2_with fail
  go_region_held3 (Box72 (w2.heap.size) (w2.heap.size + 1) T Re (.slice b1 k1 d1) (.slice b2' k2 d2) (.slice b3 k3 d3) Rc (.slice b4 k4 d4)) (with_reducible (first | exact T0.out | (repeat (first | exact T4.out | refine box72_set ?_ (by omega) (by omega))))) (first
    | (go_at_call 46; (with_reducible refine (l04Own_any T Re (.slice b1 k1 d1) (.slice b2' k2 d2) (.slice b3 k3 d3) (stp T e ss ps qs kk n).ss (stp T e ss ps qs kk n).ps (stp T e ss ps qs kk n).qs W3.drew (RD.out.1.below bd) (RD.out.2.1.below bd) (RD.out.2.2.1.below bd) LEN.out.1 LEN.out.2.1 LEN.out.2.2).mono ?_); rintro r w4 ⟨y1, y2, y3, rfl, p1, p2, p3, _, b4'⟩; have c4 : Below w2.heap.size w2 w4 := bd.trans (b4'.mono (by show w2.heap.size ≤ W3.heap.size; omega)); have d4' : Below W3.heap.size W3 w4 := below_draw.trans b4'; (obtain ⟨e1, m1, g1, rfl⟩ := own_shr p1); (obtain ⟨e2, m2, g2, rfl⟩ := own_shr p2); (obtain ⟨e3, m3, g3, rfl⟩ := own_shr p3); have T4 : Hid (Box72 (w2.heap.size) (w2.heap.size + 1) T Re (.slice b1 k1 d1) (.slice b2' k2 d2) (.slice b3 k3 d3) Rc (.slice b4 k4 d4) w4) := box72_of (keepBlk X78.out.1 d4' (by omega)) (keepBlk X78.out.2 d4' (by omega)); have HP4 : Hid (OwnI w4 w2.heap.size (.slice e1 m1 g1) (stp T e ss ps qs kk n).ss ∧ OwnP w4 w2.heap.size (.slice e2 m2 g2) (stp T e ss ps qs kk n).ps ∧ OwnI w4 w2.heap.size (.slice e3 m3 g3) (stp T e ss ps qs kk n).qs ∧ OwnI w4 w1.heap.size (.slice b4 k4 d4) (stp T e ss ps qs kk n).pg ∧ Below w2.heap.size w2 w4) := ⟨own_mono p1 (by show w2.heap.size ≤ W3.heap.size; omega), own_mono p2 (by show w2.heap.size ≤ W3.heap.size; omega), own_mono p3 (by show w2.heap.size ≤ W3.heap.size; omega), own_keep RD.out.2.2.2 (fun g _ hl => c4.block g hl), c4⟩; have xrw4 := keepBlk XR2.out c4 (by omega); have xqw4 := keepBlk XQ2.out c4 (by omega); have cr0w4 : w4.cell? ⟨w.heap.size + 1 + 1, 0, none⟩ = some (.int .i64 0) := (by simp [World.cell?, xrw4]); have cr1w4 : w4.cell? ⟨w.heap.size + 1 + 1, 1, none⟩ = some (.int .i64 0) := (by simp [World.cell?, xrw4]); have cr2w4 : w4.cell? ⟨w.heap.size + 1 + 1, 2, none⟩ = some (.slice none 0 0) := (by simp [World.cell?, xrw4]); have cr3w4 : w4.cell? ⟨w.heap.size + 1 + 1, 3, none⟩ = some (.slice none 0 0) := (by simp [World.cell?, xrw4]); have cr4w4 : w4.cell? ⟨w.heap.size + 1 + 1, 4, none⟩ = some (.slice none 0 0) := (by simp [World.cell?, xrw4]); have frw4 : ∀ o, w4.frozen? ⟨w.heap.size + 1 + 1, o, none⟩ = false := fun o => (by simp [World.frozen?, xrw4]); have cq0w4 : w4.cell? ⟨w.heap.size + 1 + 1 + 1, 0, none⟩ = some (.int .i64 0) := (by simp [World.cell?, xqw4]); have cq1w4 : w4.cell? ⟨w.heap.size + 1 + 1 + 1, 1, none⟩ = some (.slice none 0 0) := (by simp [World.cell?, xqw4]); have fqw4 : ∀ o, w4.frozen? ⟨w.heap.size + 1 + 1 + 1, o, none⟩ = false := fun o => (by simp [World.frozen?, xqw4]); clear p1 p2 p3 b4' c4 d4' xrw4 xqw4)
    | fail)
  clear T4
  go_wp2
  refine bodyPost_ret (v := .tuple #[SV T Re (.slice e1 m1 g1) (.slice e2 m2 g2) (.slice e3 m3 g3), .agg #[.int .i64 Rc, .slice b4 k4 d4], .int .i64 0]) (by go_simp; simp [results, Try.results29, go_sem, cr0w4, cr1w4, cr2w4, cr3w4, cr4w4, cq0w4, cq1w4]) rfl ⟨_, _, _, _, by rw [hRe, hRc], ?_, ?_, ?_, ?_, fun h => (by cases h), ?_⟩
  · exact res_own HP4.out.1 (by omega) (by omega) _ _ _ _ _ _ _
  · exact res_own HP4.out.2.1 (by omega) (by omega) _ _ _ _ _ _ _
  · exact res_own HP4.out.2.2.1 (by omega) (by omega) _ _ _ _ _ _ _
  · exact res_own HP4.out.2.2.2.1 N2.out (by omega) _ _ _ _ _ _ _
  · exact res_below (B2.trans (HP4.out.2.2.2.2.mono B2.size)) (by omega) _ _ _ _ _ _ _
end Go.Proofs.Ytaklphoplfofbaa
