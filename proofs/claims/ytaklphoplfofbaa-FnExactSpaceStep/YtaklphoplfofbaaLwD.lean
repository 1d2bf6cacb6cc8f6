/- Marks are looked for in a space and a reply; two of each are the same (stage 4). -/
import Derived.Test.YtaklphoplfofbaaLwC
namespace Go.Proofs.Ytaklphoplfofbaa
open Go.RowKit

set_option maxRecDepth 100000 in
set_option maxHeartbeats 4000000 in
theorem heldSp_own (t e k : Int) (u1 u2 u3 : Value) (x y z : Nat) (B : Nat) (w : World) (h : MS w B k x y z u1 u2 u3) (l1 : x ≤ 1048576) (l2 : y ≤ 1048576) (l3 : z ≤ 1048576) (k0 : 0 ≤ k) (k1 : k ≤ 1000) :
    Calls Try.prog 21 #[SV t e u1 u2 u3, .int .i64 k] w fun r w' => r = .returned (.int .i64 (k + x + 2 * y + z)) ∧ Below w.heap.size w w' := by
  obtain ⟨h1, h2, h3⟩ := h
  obtain ⟨a1, n1, c1, rfl⟩ := own_shr h1
  obtain ⟨a2, n2, c2, rfl⟩ := own_shr h2
  obtain ⟨a3, n3, c3, rfl⟩ := own_shr h3
  obtain ⟨W0, hW0⟩ : ∃ W0, w.alloc (SC t e (.slice a1 n1 c1) (.slice a2 n2 c2) (.slice a3 n3 c3) 29) = W0 := ⟨_, rfl⟩
  have B0 : Below w.heap.size w W0 := hW0 ▸ (Below.refl _ _).alloc (Nat.le_refl _) _
  have xb : W0.heap[w.heap.size]? = some (.cells #[.int .i64 t, .int .i64 e, .slice a1 n1 c1, .slice a2 n2 c2, .slice a3 n3 c3] 29 (0, 0)) := hW0 ▸ heap_new' _ _ _ rfl
  have J1 : Hid (OwnI W0 B (.slice a1 n1 c1) (marksL k x)) := own_keep h1 (fun g _ hl => B0.block g hl)
  have J2 : Hid (OwnP W0 B (.slice a2 n2 c2) (marksP (k + x) y)) := own_keep h2 (fun g _ hl => B0.block g hl)
  have J3 : Hid (OwnI W0 B (.slice a3 n3 c3) (marksL (k + x + 2 * y) z)) := own_keep h3 (fun g _ hl => B0.block g hl)
  have c02 : W0.cell? ⟨w.heap.size, 2, none⟩ = some (.slice a1 n1 c1) := (by simp [World.cell?, xb])
  have c03 : W0.cell? ⟨w.heap.size, 3, none⟩ = some (.slice a2 n2 c2) := (by simp [World.cell?, xb])
  have c04 : W0.cell? ⟨w.heap.size, 4, none⟩ = some (.slice a3 n3 c3) := (by simp [World.cell?, xb])
  have p1 : ¬ (k + (x : Int)) < 0 := by omega
  have p2 : ¬ (k + (x : Int) + 2 * (y : Int)) < 0 := by omega
  have p3 : ¬ (k + (x : Int) + 2 * (y : Int) + (z : Int)) < 0 := by omega
  clear xb h1 h2 h3
  go_enter Try.func21, Try.ntmps21
  go_wp2_with fail
  refine (heldI_ownK J1.out k0 (by omega) l1).mono ?_
  rintro r w1 ⟨rfl, hq⟩
  obtain rfl := hq.symm
  go_wp2_with fail
  refine (heldH_own J2.out (by omega) (by omega) l2).mono ?_
  rintro r w1 ⟨rfl, hq⟩
  obtain rfl := hq.symm
  go_wp2_with fail
  refine (heldI_ownK J3.out (by omega) (by omega) l3).mono ?_
  rintro r w1 ⟨rfl, hq⟩
  obtain rfl := hq.symm
  clear J1 J2 J3
  go_wp2
  go_ret
  exact ⟨rfl, B0⟩

set_option maxRecDepth 100000 in
theorem markReply_own (c k : Int) (u4 : Value) (l : List Int) (B : Nat) (w : World) (h : OwnI w B u4 l) (hl : l.length ≤ 1048576) (k0 : 0 ≤ k) (k1 : k ≤ 1000000000) :
    Calls Try.prog 33 #[.agg #[.int .i64 c, u4], .int .i64 k] w fun r w' => r = .returned (.int .i64 (k + l.length)) ∧ OwnI w' B u4 (marksL k l.length) ∧ Kept (fun j => u4.ownBlock = some j) w w' := by
  obtain ⟨a1, n1, c1, rfl⟩ := own_shr h
  obtain ⟨W0, hW0⟩ : ∃ W0, w.alloc (.cells #[.int .i64 c, .slice a1 n1 c1] 37) = W0 := ⟨_, rfl⟩
  have B0 : Below w.heap.size w W0 := hW0 ▸ (Below.refl _ _).alloc (Nat.le_refl _) _
  have xb : W0.heap[w.heap.size]? = some (.cells #[.int .i64 c, .slice a1 n1 c1] 37 (0, 0)) := hW0 ▸ heap_new' _ _ _ rfl
  have J1 : Hid (OwnI W0 B (.slice a1 n1 c1) l) := own_keep h (fun g _ hl => B0.block g hl)
  have c01 : W0.cell? ⟨w.heap.size, 1, none⟩ = some (.slice a1 n1 c1) := (by simp [World.cell?, xb])
  clear xb h
  go_enter Try.func33, Try.ntmps33
  go_wp2_with fail
  refine (markI_ownK J1.out hl k k0 k1).mono ?_
  rintro r w1 ⟨rfl, m1, q1⟩
  have K1 : Hid (Kept (fun j => Value.ownBlock (.slice a1 n1 c1) = some j) w w1) := (Kept.of_below B0).trans q1
  have M1 : Hid (OwnI w1 B (.slice a1 n1 c1) (marksL k l.length)) := m1
  clear m1 q1 J1
  go_wp2
  go_ret
  exact ⟨rfl, M1.out, K1.out⟩

set_option maxRecDepth 100000 in
theorem heldReply_own (c k : Int) (u4 : Value) (n : Nat) (B : Nat) (w : World) (h : OwnI w B u4 (marksL k n)) (hn : n ≤ 1048576) (k0 : 0 ≤ k) (k1 : k ≤ 1000000000) :
    Calls Try.prog 34 #[.agg #[.int .i64 c, u4], .int .i64 k] w fun r w' => r = .returned (.int .i64 (k + n)) ∧ Below w.heap.size w w' := by
  obtain ⟨a1, n1, c1, rfl⟩ := own_shr h
  obtain ⟨W0, hW0⟩ : ∃ W0, w.alloc (.cells #[.int .i64 c, .slice a1 n1 c1] 37) = W0 := ⟨_, rfl⟩
  have B0 : Below w.heap.size w W0 := hW0 ▸ (Below.refl _ _).alloc (Nat.le_refl _) _
  have xb : W0.heap[w.heap.size]? = some (.cells #[.int .i64 c, .slice a1 n1 c1] 37 (0, 0)) := hW0 ▸ heap_new' _ _ _ rfl
  have J1 : Hid (OwnI W0 B (.slice a1 n1 c1) (marksL k n)) := own_keep h (fun g _ hl => B0.block g hl)
  have c01 : W0.cell? ⟨w.heap.size, 1, none⟩ = some (.slice a1 n1 c1) := (by simp [World.cell?, xb])
  have p1 : ¬ (k + (n : Int)) < 0 := by omega
  clear xb h
  go_enter Try.func34, Try.ntmps34
  go_wp2_with fail
  refine (heldI_ownK J1.out k0 k1 hn).mono ?_
  rintro r w1 ⟨rfl, hq⟩
  obtain rfl := hq.symm
  clear J1
  go_wp2
  go_ret
  exact ⟨rfl, B0⟩

theorem eqSp_own (t e : Int) (u1 u2 u3 v1 v2 v3 : Value) (ss : List Int) (ps : List P2) (qs : List Int) (B B' : Nat) (w : World) (h1 : OwnI w B u1 ss) (h2 : OwnP w B u2 ps) (h3 : OwnI w B u3 qs) (k1 : OwnI w B' v1 ss) (k2 : OwnP w B' v2 ps) (k3 : OwnI w B' v3 qs) (l1 : ss.length ≤ 1048576) (l2 : ps.length ≤ 1048576) (l3 : qs.length ≤ 1048576) :
    Calls Try.prog 19 #[SV t e u1 u2 u3, SV t e v1 v2 v3] w fun x w' => x = .returned (.bool true) ∧ Below w.heap.size w w' := by
  obtain ⟨a1, c1, rfl, r1, _⟩ := h1.row
  obtain ⟨a2, c2, rfl, r2⟩ := OwnP.row h2
  obtain ⟨a3, c3, rfl, r3, _⟩ := h3.row
  obtain ⟨b1, d1, rfl, s1, _⟩ := k1.row
  obtain ⟨b2, d2, rfl, s2⟩ := OwnP.row k2
  obtain ⟨b3, d3, rfl, s3, _⟩ := k3.row
  exact eqSpace_same t e a1 a2 a3 b1 b2 b3 c1 c2 c3 d1 d2 d3 ss ps qs w r1 r2 r3 s1 s2 s3 l1 l2 l3
end Go.Proofs.Ytaklphoplfofbaa
