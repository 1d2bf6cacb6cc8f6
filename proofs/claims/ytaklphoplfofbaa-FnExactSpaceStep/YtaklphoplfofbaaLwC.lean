/- Marks on a space and a reply that a call answered (stage 4). -/
import Derived.Test.YtaklphoplfofbaaLwB
import Derived.Test.YtaklphoplfofbaaStZ
namespace Go.Proofs.Ytaklphoplfofbaa
open Go.RowKit

/-- The marks of a space. -/
def MS (w : World) (B : Nat) (k : Int) (x y z : Nat) (u1 u2 u3 : Value) : Prop := OwnI w B u1 (marksL k x) ∧ OwnP w B u2 (marksP (k + x) y) ∧ OwnI w B u3 (marksL (k + x + 2 * y) z)
/-- A block of one of three lists. -/
def In3 (u1 u2 u3 : Value) (j : Nat) : Prop := u1.ownBlock = some j ∨ u2.ownBlock = some j ∨ u3.ownBlock = some j
theorem Kept.below' {S : Nat → Prop} {w w1 : World} (h : Kept S w w1) {w2 : World} (hb : Below w1.heap.size w1 w2) : Kept S w w2 := h.trans (Kept.of_below hb)

set_option maxRecDepth 100000 in
set_option maxHeartbeats 4000000 in
theorem markSp_own (t e k : Int) (u1 u2 u3 : Value) (ss : List Int) (ps : List P2) (qs : List Int) (B : Nat) (w : World) (h1 : OwnI w B u1 ss) (h2 : OwnP w B u2 ps) (h3 : OwnI w B u3 qs) (sp : SepN 0 u1 u3) (l1 : ss.length ≤ 1048576) (l2 : ps.length ≤ 1048576) (l3 : qs.length ≤ 1048576) (k0 : 0 ≤ k) (k1 : k ≤ 1000) :
    Calls Try.prog 20 #[SV t e u1 u2 u3, .int .i64 k] w fun r w' => r = .returned (.int .i64 (k + ss.length + 2 * ps.length + qs.length)) ∧ MS w' B k ss.length ps.length qs.length u1 u2 u3 ∧ Kept (In3 u1 u2 u3) w w' := by
  obtain ⟨a1, n1, c1, rfl⟩ := own_shr h1
  obtain ⟨a2, n2, c2, rfl⟩ := own_shr h2
  obtain ⟨a3, n3, c3, rfl⟩ := own_shr h3
  have H1 : Hid (OwnI w B (.slice a1 n1 c1) ss ∧ OwnP w B (.slice a2 n2 c2) ps ∧ OwnI w B (.slice a3 n3 c3) qs) := ⟨h1, h2, h3⟩
  have SP : Hid (SepN 0 (.slice a1 n1 c1) (.slice a3 n3 c3)) := sp
  clear h1 h2 h3 sp
  obtain ⟨W0, hW0⟩ : ∃ W0, w.alloc (SC t e (.slice a1 n1 c1) (.slice a2 n2 c2) (.slice a3 n3 c3) 29) = W0 := ⟨_, rfl⟩
  have K0 : Kept (In3 (.slice a1 n1 c1) (.slice a2 n2 c2) (.slice a3 n3 c3)) w W0 := hW0 ▸ (Kept.refl _ _).alloc _
  have z0 : W0.heap.size = w.heap.size + 1 := by rw [← hW0]; simp
  have xb : W0.heap[w.heap.size]? = some (.cells #[.int .i64 t, .int .i64 e, .slice a1 n1 c1, .slice a2 n2 c2, .slice a3 n3 c3] 29 (0, 0)) := hW0 ▸ heap_new' _ _ _ rfl
  have o0 : ∀ g, g < w.heap.size → W0.heap[g]? = w.heap[g]? := fun g hg => hW0 ▸ heap_old _ _ _ hg
  have J1 : Hid (OwnI W0 B (.slice a1 n1 c1) ss) := own_keep H1.out.1 (fun g _ hl => o0 g hl)
  have J2 : Hid (OwnP W0 B (.slice a2 n2 c2) ps) := own_keep H1.out.2.1 (fun g _ hl => o0 g hl)
  have J3 : Hid (OwnI W0 B (.slice a3 n3 c3) qs) := own_keep H1.out.2.2 (fun g _ hl => o0 g hl)
  have nb : Hid (∀ j, In3 (.slice a1 n1 c1) (.slice a2 n2 c2) (.slice a3 n3 c3) j → j ≠ w.heap.size) := fun j hj => by
    rcases hj with h | h | h
    · have := (own_lt H1.out.1 h).2; omega
    · have := (own_lt H1.out.2.1 h).2; omega
    · have := (own_lt H1.out.2.2 h).2; omega
  have XB : Hid (W0.heap[w.heap.size]? = some (.cells #[.int .i64 t, .int .i64 e, .slice a1 n1 c1, .slice a2 n2 c2, .slice a3 n3 c3] 29 (0, 0))) := xb
  have c02 : W0.cell? ⟨w.heap.size, 2, none⟩ = some (.slice a1 n1 c1) := (by simp [World.cell?, xb])
  clear xb o0 H1
  go_enter Try.func20, Try.ntmps20
  go_wp2_with fail
  refine (markI_ownK J1.out l1 k k0 (by omega)).mono ?_
  rintro r w1 ⟨rfl, m1, q1⟩
  have K1 : Kept (In3 (.slice a1 n1 c1) (.slice a2 n2 c2) (.slice a3 n3 c3)) w w1 := K0.trans (q1.mono fun j hj => .inl hj)
  have xb1 : w1.heap[w.heap.size]? = _ := (q1.block _ (by omega) (fun hj => nb.out _ (.inl hj) rfl)).trans XB.out
  have M1 : Hid (OwnI w1 B (.slice a1 n1 c1) (marksL k ss.length)) := m1
  have L2 : Hid (OwnP w1 B (.slice a2 n2 c2) ps) := own_at J2.out (fun j hj => q1.block j (own_lt J2.out hj).2 (fun h => diffT J1.out J2.out h hj))
  have L3 : Hid (OwnI w1 B (.slice a3 n3 c3) qs) := own_at J3.out (fun j hj => q1.block j (own_lt J3.out hj).2 (fun h => SP.out j (Nat.zero_le _) h hj))
  have XB1 : Hid (w1.heap[w.heap.size]? = some (.cells #[.int .i64 t, .int .i64 e, .slice a1 n1 c1, .slice a2 n2 c2, .slice a3 n3 c3] 29 (0, 0))) := xb1
  have c13 : w1.cell? ⟨w.heap.size, 3, none⟩ = some (.slice a2 n2 c2) := (by simp [World.cell?, xb1])
  have s1 : W0.heap.size ≤ w1.heap.size := q1.size
  clear m1 q1 xb1 K0 J1 J2 J3 XB c02
  go_wp2_with fail
  refine (markH_own L2.out l2 (k + ss.length) (by omega) (by omega)).mono ?_
  rintro r w2 ⟨rfl, m2, q2⟩
  have K2 : Kept (In3 (.slice a1 n1 c1) (.slice a2 n2 c2) (.slice a3 n3 c3)) w w2 := K1.trans (q2.mono fun j hj => .inr (.inl hj))
  have xb2 := (q2.block _ (by omega) (fun hj => nb.out _ (.inr (.inl hj)) rfl)).trans XB1.out
  have M2 : Hid (OwnP w2 B (.slice a2 n2 c2) (marksP (k + ss.length) ps.length)) := m2
  have N1 : Hid (OwnI w2 B (.slice a1 n1 c1) (marksL k ss.length)) := own_at M1.out (fun j hj => q2.block j (own_lt M1.out hj).2 (fun h => diffT M1.out L2.out hj h))
  have N3 : Hid (OwnI w2 B (.slice a3 n3 c3) qs) := own_at L3.out (fun j hj => q2.block j (own_lt L3.out hj).2 (fun h => diffT L3.out L2.out hj h))
  have c24 : w2.cell? ⟨w.heap.size, 4, none⟩ = some (.slice a3 n3 c3) := (by simp [World.cell?, xb2])
  clear m2 q2 xb2 K1 M1 L2 L3 XB1 c13
  go_wp2_with fail
  refine (markI_ownK N3.out l3 (k + ss.length + 2 * ps.length) (by omega) (by omega)).mono ?_
  rintro r w3 ⟨rfl, m3, q3⟩
  have K3 : Kept (In3 (.slice a1 n1 c1) (.slice a2 n2 c2) (.slice a3 n3 c3)) w w3 := K2.trans (q3.mono fun j hj => .inr (.inr hj))
  have R1 : Hid (OwnI w3 B (.slice a1 n1 c1) (marksL k ss.length)) := own_at N1.out (fun j hj => q3.block j (own_lt N1.out hj).2 (fun h => SP.out j (Nat.zero_le _) hj h))
  have R2 : Hid (OwnP w3 B (.slice a2 n2 c2) (marksP (k + ss.length) ps.length)) := own_at M2.out (fun j hj => q3.block j (own_lt M2.out hj).2 (fun h => diffT N3.out M2.out h hj))
  have R3 : Hid (OwnI w3 B (.slice a3 n3 c3) (marksL (k + ss.length + 2 * ps.length) qs.length)) := m3
  clear m3 q3 K2 N1 N3 M2 c24
  go_wp2
  go_ret
  exact ⟨rfl, ⟨R1.out, R2.out, R3.out⟩, K3⟩
end Go.Proofs.Ytaklphoplfofbaa
