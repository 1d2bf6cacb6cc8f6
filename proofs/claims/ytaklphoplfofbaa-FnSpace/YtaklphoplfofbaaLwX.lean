/- Marks on a space and a reply; what SpaceStep answers (stage 4). -/
import Derived.Test.YtaklphoplfofbaaLwB
import Derived.Test.YtaklphoplfofbaaStZ
namespace Go.Proofs.Ytaklphoplfofbaa
open Go.RowKit

/-- The marks of a space. -/
def MS (w : World) (B : Nat) (k : Int) (x y z : Nat) (u1 u2 u3 : Value) : Prop := OwnI w B u1 (marksL k x) ∧ OwnP w B u2 (marksP (k + x) y) ∧ OwnI w B u3 (marksL (k + x + 2 * y) z)
/-- A block of one of three lists. -/
def In3 (u1 u2 u3 : Value) (j : Nat) : Prop := u1.ownBlock = some j ∨ u2.ownBlock = some j ∨ u3.ownBlock = some j
theorem Kept.below' {S : Nat → Prop} {w w1 : World} (h : Kept S w w1) {w2 : World} (hb : Below w1.heap.size w1 w2) : Kept S w w2 := h.trans (Kept.of_below hb)

set_option maxRecDepth 100000 in
set_option maxHeartbeats 4000000 in
theorem markSp_own (t e k : Int) (u1 u2 u3 : Value) (ss : List Int) (ps : List P2) (qs : List Int) (B : Nat) (w : World) (h1 : OwnI w B u1 ss) (h2 : OwnP w B u2 ps) (h3 : OwnI w B u3 qs) (sp : SepN 0 u1 u3) (l1 : ss.length ≤ 1048576) (l2 : ps.length ≤ 1048576) (l3 : qs.length ≤ 1048576) (k0 : 0 ≤ k) (k1 : k ≤ 1000) :
    Calls Try.prog 20 #[SV t e u1 u2 u3, .int .i64 k] w fun r w' => r = .returned (.int .i64 (k + ss.length + 2 * ps.length + qs.length)) ∧ MS w' B k ss.length ps.length qs.length u1 u2 u3 ∧ Kept (In3 u1 u2 u3) w w' := by
  obtain ⟨a1, n1, c1, rfl⟩ := own_shr h1
  obtain ⟨a2, n2, c2, rfl⟩ := own_shr h2
  obtain ⟨a3, n3, c3, rfl⟩ := own_shr h3
  have H1 : Hid (OwnI w B (.slice a1 n1 c1) ss ∧ OwnP w B (.slice a2 n2 c2) ps ∧ OwnI w B (.slice a3 n3 c3) qs) := ⟨h1, h2, h3⟩
  have SP : Hid (SepN 0 (.slice a1 n1 c1) (.slice a3 n3 c3)) := sp
  clear h1 h2 h3 sp
  obtain ⟨W0, hW0⟩ : ∃ W0, w.alloc (SC t e (.slice a1 n1 c1) (.slice a2 n2 c2) (.slice a3 n3 c3) 29) = W0 := ⟨_, rfl⟩
  have K0 : Kept (In3 (.slice a1 n1 c1) (.slice a2 n2 c2) (.slice a3 n3 c3)) w W0 := hW0 ▸ (Kept.refl _ _).alloc _
  have z0 : W0.heap.size = w.heap.size + 1 := by rw [← hW0]; simp
  have xb : W0.heap[w.heap.size]? = some (.cells #[.int .i64 t, .int .i64 e, .slice a1 n1 c1, .slice a2 n2 c2, .slice a3 n3 c3] 29 (0, 0)) := hW0 ▸ heap_new' _ _ _ rfl
  have o0 : ∀ g, g < w.heap.size → W0.heap[g]? = w.heap[g]? := fun g hg => hW0 ▸ heap_old _ _ _ hg
  have J1 : Hid (OwnI W0 B (.slice a1 n1 c1) ss) := own_keep H1.out.1 (fun g _ hl => o0 g hl)
  have J2 : Hid (OwnP W0 B (.slice a2 n2 c2) ps) := own_keep H1.out.2.1 (fun g _ hl => o0 g hl)
  have J3 : Hid (OwnI W0 B (.slice a3 n3 c3) qs) := own_keep H1.out.2.2 (fun g _ hl => o0 g hl)
  have nb : Hid (∀ j, In3 (.slice a1 n1 c1) (.slice a2 n2 c2) (.slice a3 n3 c3) j → j ≠ w.heap.size) := fun j hj => by
    rcases hj with h | h | h
    · have := (own_lt H1.out.1 h).2; omega
    · have := (own_lt H1.out.2.1 h).2; omega
    · have := (own_lt H1.out.2.2 h).2; omega
  have XB : Hid (W0.heap[w.heap.size]? = some (.cells #[.int .i64 t, .int .i64 e, .slice a1 n1 c1, .slice a2 n2 c2, .slice a3 n3 c3] 29 (0, 0))) := xb
  have c02 : W0.cell? ⟨w.heap.size, 2, none⟩ = some (.slice a1 n1 c1) := (by simp [World.cell?, xb])
  clear xb o0 H1
  go_enter Try.func20, Try.ntmps20
  go_wp2_with fail
  refine (markI_ownK J1.out l1 k k0 (by omega)).mono ?_
  rintro r w1 ⟨rfl, m1, q1⟩
  have K1 : Kept (In3 (.slice a1 n1 c1) (.slice a2 n2 c2) (.slice a3 n3 c3)) w w1 := K0.trans (q1.mono fun j hj => .inl hj)
  have xb1 : w1.heap[w.heap.size]? = _ := (q1.block _ (by omega) (fun hj => nb.out _ (.inl hj) rfl)).trans XB.out
  have M1 : Hid (OwnI w1 B (.slice a1 n1 c1) (marksL k ss.length)) := m1
  have L2 : Hid (OwnP w1 B (.slice a2 n2 c2) ps) := own_at J2.out (fun j hj => q1.block j (own_lt J2.out hj).2 (fun h => diffT J1.out J2.out h hj))
  have L3 : Hid (OwnI w1 B (.slice a3 n3 c3) qs) := own_at J3.out (fun j hj => q1.block j (own_lt J3.out hj).2 (fun h => SP.out j (Nat.zero_le _) h hj))
  have XB1 : Hid (w1.heap[w.heap.size]? = some (.cells #[.int .i64 t, .int .i64 e, .slice a1 n1 c1, .slice a2 n2 c2, .slice a3 n3 c3] 29 (0, 0))) := xb1
  have c13 : w1.cell? ⟨w.heap.size, 3, none⟩ = some (.slice a2 n2 c2) := (by simp [World.cell?, xb1])
  have s1 : W0.heap.size ≤ w1.heap.size := q1.size
  clear m1 q1 xb1 K0 J1 J2 J3 XB c02
  go_wp2_with fail
  refine (markH_own L2.out l2 (k + ss.length) (by omega) (by omega)).mono ?_
  rintro r w2 ⟨rfl, m2, q2⟩
  have K2 : Kept (In3 (.slice a1 n1 c1) (.slice a2 n2 c2) (.slice a3 n3 c3)) w w2 := K1.trans (q2.mono fun j hj => .inr (.inl hj))
  have xb2 := (q2.block _ (by omega) (fun hj => nb.out _ (.inr (.inl hj)) rfl)).trans XB1.out
  have M2 : Hid (OwnP w2 B (.slice a2 n2 c2) (marksP (k + ss.length) ps.length)) := m2
  have N1 : Hid (OwnI w2 B (.slice a1 n1 c1) (marksL k ss.length)) := own_at M1.out (fun j hj => q2.block j (own_lt M1.out hj).2 (fun h => diffT M1.out L2.out hj h))
  have N3 : Hid (OwnI w2 B (.slice a3 n3 c3) qs) := own_at L3.out (fun j hj => q2.block j (own_lt L3.out hj).2 (fun h => diffT L3.out L2.out hj h))
  have c24 : w2.cell? ⟨w.heap.size, 4, none⟩ = some (.slice a3 n3 c3) := (by simp [World.cell?, xb2])
  clear m2 q2 xb2 K1 M1 L2 L3 XB1 c13
  go_wp2_with fail
  refine (markI_ownK N3.out l3 (k + ss.length + 2 * ps.length) (by omega) (by omega)).mono ?_
  rintro r w3 ⟨rfl, m3, q3⟩
  have K3 : Kept (In3 (.slice a1 n1 c1) (.slice a2 n2 c2) (.slice a3 n3 c3)) w w3 := K2.trans (q3.mono fun j hj => .inr (.inr hj))
  have R1 : Hid (OwnI w3 B (.slice a1 n1 c1) (marksL k ss.length)) := own_at N1.out (fun j hj => q3.block j (own_lt N1.out hj).2 (fun h => SP.out j (Nat.zero_le _) hj h))
  have R2 : Hid (OwnP w3 B (.slice a2 n2 c2) (marksP (k + ss.length) ps.length)) := own_at M2.out (fun j hj => q3.block j (own_lt M2.out hj).2 (fun h => diffT N3.out M2.out h hj))
  have R3 : Hid (OwnI w3 B (.slice a3 n3 c3) (marksL (k + ss.length + 2 * ps.length) qs.length)) := m3
  clear m3 q3 K2 N1 N3 M2 c24
  go_wp2
  go_ret
  exact ⟨rfl, ⟨R1.out, R2.out, R3.out⟩, K3⟩
end Go.Proofs.Ytaklphoplfofbaa
namespace Go.Proofs.Ytaklphoplfofbaa
open Go.RowKit

set_option maxRecDepth 100000 in
set_option maxHeartbeats 4000000 in
theorem heldSp_own (t e k : Int) (u1 u2 u3 : Value) (x y z : Nat) (B : Nat) (w : World) (h : MS w B k x y z u1 u2 u3) (l1 : x ≤ 1048576) (l2 : y ≤ 1048576) (l3 : z ≤ 1048576) (k0 : 0 ≤ k) (k1 : k ≤ 1000) :
    Calls Try.prog 21 #[SV t e u1 u2 u3, .int .i64 k] w fun r w' => r = .returned (.int .i64 (k + x + 2 * y + z)) ∧ Below w.heap.size w w' := by
  obtain ⟨h1, h2, h3⟩ := h
  obtain ⟨a1, n1, c1, rfl⟩ := own_shr h1
  obtain ⟨a2, n2, c2, rfl⟩ := own_shr h2
  obtain ⟨a3, n3, c3, rfl⟩ := own_shr h3
  obtain ⟨W0, hW0⟩ : ∃ W0, w.alloc (SC t e (.slice a1 n1 c1) (.slice a2 n2 c2) (.slice a3 n3 c3) 29) = W0 := ⟨_, rfl⟩
  have B0 : Below w.heap.size w W0 := hW0 ▸ (Below.refl _ _).alloc (Nat.le_refl _) _
  have xb : W0.heap[w.heap.size]? = some (.cells #[.int .i64 t, .int .i64 e, .slice a1 n1 c1, .slice a2 n2 c2, .slice a3 n3 c3] 29 (0, 0)) := hW0 ▸ heap_new' _ _ _ rfl
  have J1 : Hid (OwnI W0 B (.slice a1 n1 c1) (marksL k x)) := own_keep h1 (fun g _ hl => B0.block g hl)
  have J2 : Hid (OwnP W0 B (.slice a2 n2 c2) (marksP (k + x) y)) := own_keep h2 (fun g _ hl => B0.block g hl)
  have J3 : Hid (OwnI W0 B (.slice a3 n3 c3) (marksL (k + x + 2 * y) z)) := own_keep h3 (fun g _ hl => B0.block g hl)
  have c02 : W0.cell? ⟨w.heap.size, 2, none⟩ = some (.slice a1 n1 c1) := (by simp [World.cell?, xb])
  have c03 : W0.cell? ⟨w.heap.size, 3, none⟩ = some (.slice a2 n2 c2) := (by simp [World.cell?, xb])
  have c04 : W0.cell? ⟨w.heap.size, 4, none⟩ = some (.slice a3 n3 c3) := (by simp [World.cell?, xb])
  have p1 : ¬ (k + (x : Int)) < 0 := by omega
  have p2 : ¬ (k + (x : Int) + 2 * (y : Int)) < 0 := by omega
  have p3 : ¬ (k + (x : Int) + 2 * (y : Int) + (z : Int)) < 0 := by omega
  clear xb h1 h2 h3
  go_enter Try.func21, Try.ntmps21
  go_wp2_with fail
  refine (heldI_ownK J1.out k0 (by omega) l1).mono ?_
  rintro r w1 ⟨rfl, hq⟩
  obtain rfl := hq.symm
  go_wp2_with fail
  refine (heldH_own J2.out (by omega) (by omega) l2).mono ?_
  rintro r w1 ⟨rfl, hq⟩
  obtain rfl := hq.symm
  go_wp2_with fail
  refine (heldI_ownK J3.out (by omega) (by omega) l3).mono ?_
  rintro r w1 ⟨rfl, hq⟩
  obtain rfl := hq.symm
  clear J1 J2 J3
  go_wp2
  go_ret
  exact ⟨rfl, B0⟩

set_option maxRecDepth 100000 in
theorem markReply_own (c k : Int) (u4 : Value) (l : List Int) (B : Nat) (w : World) (h : OwnI w B u4 l) (hl : l.length ≤ 1048576) (k0 : 0 ≤ k) (k1 : k ≤ 1000000000) :
    Calls Try.prog 33 #[.agg #[.int .i64 c, u4], .int .i64 k] w fun r w' => r = .returned (.int .i64 (k + l.length)) ∧ OwnI w' B u4 (marksL k l.length) ∧ Kept (fun j => u4.ownBlock = some j) w w' := by
  obtain ⟨a1, n1, c1, rfl⟩ := own_shr h
  obtain ⟨W0, hW0⟩ : ∃ W0, w.alloc (.cells #[.int .i64 c, .slice a1 n1 c1] 37) = W0 := ⟨_, rfl⟩
  have B0 : Below w.heap.size w W0 := hW0 ▸ (Below.refl _ _).alloc (Nat.le_refl _) _
  have xb : W0.heap[w.heap.size]? = some (.cells #[.int .i64 c, .slice a1 n1 c1] 37 (0, 0)) := hW0 ▸ heap_new' _ _ _ rfl
  have J1 : Hid (OwnI W0 B (.slice a1 n1 c1) l) := own_keep h (fun g _ hl => B0.block g hl)
  have c01 : W0.cell? ⟨w.heap.size, 1, none⟩ = some (.slice a1 n1 c1) := (by simp [World.cell?, xb])
  clear xb h
  go_enter Try.func33, Try.ntmps33
  go_wp2_with fail
  refine (markI_ownK J1.out hl k k0 k1).mono ?_
  rintro r w1 ⟨rfl, m1, q1⟩
  have K1 : Hid (Kept (fun j => Value.ownBlock (.slice a1 n1 c1) = some j) w w1) := (Kept.of_below B0).trans q1
  have M1 : Hid (OwnI w1 B (.slice a1 n1 c1) (marksL k l.length)) := m1
  clear m1 q1 J1
  go_wp2
  go_ret
  exact ⟨rfl, M1.out, K1.out⟩

set_option maxRecDepth 100000 in
theorem heldReply_own (c k : Int) (u4 : Value) (n : Nat) (B : Nat) (w : World) (h : OwnI w B u4 (marksL k n)) (hn : n ≤ 1048576) (k0 : 0 ≤ k) (k1 : k ≤ 1000000000) :
    Calls Try.prog 34 #[.agg #[.int .i64 c, u4], .int .i64 k] w fun r w' => r = .returned (.int .i64 (k + n)) ∧ Below w.heap.size w w' := by
  obtain ⟨a1, n1, c1, rfl⟩ := own_shr h
  obtain ⟨W0, hW0⟩ : ∃ W0, w.alloc (.cells #[.int .i64 c, .slice a1 n1 c1] 37) = W0 := ⟨_, rfl⟩
  have B0 : Below w.heap.size w W0 := hW0 ▸ (Below.refl _ _).alloc (Nat.le_refl _) _
  have xb : W0.heap[w.heap.size]? = some (.cells #[.int .i64 c, .slice a1 n1 c1] 37 (0, 0)) := hW0 ▸ heap_new' _ _ _ rfl
  have J1 : Hid (OwnI W0 B (.slice a1 n1 c1) (marksL k n)) := own_keep h (fun g _ hl => B0.block g hl)
  have c01 : W0.cell? ⟨w.heap.size, 1, none⟩ = some (.slice a1 n1 c1) := (by simp [World.cell?, xb])
  have p1 : ¬ (k + (n : Int)) < 0 := by omega
  clear xb h
  go_enter Try.func34, Try.ntmps34
  go_wp2_with fail
  refine (heldI_ownK J1.out k0 k1 hn).mono ?_
  rintro r w1 ⟨rfl, hq⟩
  obtain rfl := hq.symm
  clear J1
  go_wp2
  go_ret
  exact ⟨rfl, B0⟩

theorem eqSp_own (t e : Int) (u1 u2 u3 v1 v2 v3 : Value) (ss : List Int) (ps : List P2) (qs : List Int) (B B' : Nat) (w : World) (h1 : OwnI w B u1 ss) (h2 : OwnP w B u2 ps) (h3 : OwnI w B u3 qs) (k1 : OwnI w B' v1 ss) (k2 : OwnP w B' v2 ps) (k3 : OwnI w B' v3 qs) (l1 : ss.length ≤ 1048576) (l2 : ps.length ≤ 1048576) (l3 : qs.length ≤ 1048576) :
    Calls Try.prog 19 #[SV t e u1 u2 u3, SV t e v1 v2 v3] w fun x w' => x = .returned (.bool true) ∧ Below w.heap.size w w' := by
  obtain ⟨a1, c1, rfl, r1, _⟩ := h1.row
  obtain ⟨a2, c2, rfl, r2⟩ := OwnP.row h2
  obtain ⟨a3, c3, rfl, r3, _⟩ := h3.row
  obtain ⟨b1, d1, rfl, s1, _⟩ := k1.row
  obtain ⟨b2, d2, rfl, s2⟩ := OwnP.row k2
  obtain ⟨b3, d3, rfl, s3, _⟩ := k3.row
  exact eqSpace_same t e a1 a2 a3 b1 b2 b3 c1 c2 c3 d1 d2 d3 ss ps qs w r1 r2 r3 s1 s2 s3 l1 l2 l3
end Go.Proofs.Ytaklphoplfofbaa
namespace Go.Proofs.Ytaklphoplfofbaa
open Go.RowKit

noncomputable def tx (t e : Int) (ss : List Int) (ps : List P2) (qs : List Int) : Int := if asB (OkSp t e ss ps qs) = true then t else 0
noncomputable def rx (t e : Int) (ss : List Int) (ps : List P2) (qs : List Int) (kk n : Int) : SR := if asB (OkSp t e ss ps qs) = true then stp t.toNat e ss ps qs kk n else zR
noncomputable def dx (t e : Int) (ss : List Int) (ps : List P2) (qs : List Int) : Int := if asB (OkSp t e ss ps qs) = true then 0 else 1
theorem stp_pg (t : Nat) (e : Int) (ss : List Int) (ps : List P2) (qs : List Int) (k n : Int) (ok : OkSp t e ss ps qs) : (stp t e ss ps qs k n).pg.length ≤ 64 := by
  have t0 := ok.1
  have m0 := ok_many ok
  have f0 := freeK_len (usedB ss ps) t
  unfold stp
  split
  · split
    · split
      · exact Nat.zero_le _
      · show (List.take _ _).length ≤ _
        rw [List.length_take]
        omega
    · exact Nat.zero_le _
  · split
    · split
      · exact Nat.zero_le _
      · show ss.length ≤ _
        omega
    · split
      · split
        · exact Nat.zero_le _
        · exact Nat.zero_le _
      · exact Nat.zero_le _
theorem rx_len (t e : Int) (ss : List Int) (ps : List P2) (qs : List Int) (kk n : Int) : ((rx t e ss ps qs kk n).ss.length ≤ 1048576 ∧ (rx t e ss ps qs kk n).ps.length ≤ 1048576 ∧ (rx t e ss ps qs kk n).qs.length ≤ 1048576) ∧ (rx t e ss ps qs kk n).pg.length ≤ 64 := by
  unfold rx
  split
  · rename_i h
    have ok := asB_is h
    have t0 := ok.1
    obtain ⟨T, rfl⟩ := Int.eq_ofNat_of_zero_le (show 0 ≤ t by omega)
    exact ⟨stp_len T e ss ps qs kk n ok, stp_pg T e ss ps qs kk n ok⟩
  · exact ⟨⟨Nat.zero_le _, Nat.zero_le _, Nat.zero_le _⟩, Nat.zero_le _⟩
theorem implStep_any (t e kk n : Int) (p1 p2 p3 : Addr) (c1 c2 c3 : Nat) (ss : List Int) (ps : List P2) (qs : List Int) (w : World) (h1 : RowI w (some p1) ss) (h2 : RowP w (some p2) ps) (h3 : RowI w (some p3) qs) (l1 : ss.length ≤ 1048576) (l2 : ps.length ≤ 1048576) (l3 : qs.length ≤ 1048576) : Calls Try.prog 31 #[SV t e (.slice (some p1) ss.length c1) (.slice (some p2) ps.length c2) (.slice (some p3) qs.length c3), .agg #[.int .i64 kk, .int .i64 n]] w (RetS true w (tx t e ss ps qs) (rx t e ss ps qs kk n) (dx t e ss ps qs)) := by
  cases hp : asB (OkSp t e ss ps qs)
  · have e1 : tx t e ss ps qs = 0 := by unfold tx; rw [hp]; rfl
    have e2 : rx t e ss ps qs kk n = zR := by unfold rx; rw [hp]; rfl
    have e3 : dx t e ss ps qs = 1 := by unfold dx; rw [hp]; rfl
    rw [e1, e2, e3]
    exact implStep_bad t e kk n p1 p2 p3 c1 c2 c3 ss ps qs w h1 h2 h3 l1 l2 l3 hp
  · have ok := asB_is hp
    have t0 := ok.1
    obtain ⟨T, rfl⟩ := Int.eq_ofNat_of_zero_le (show 0 ≤ t by omega)
    have e1 : tx (T : Int) e ss ps qs = T := by unfold tx; rw [hp]; rfl
    have e2 : rx (T : Int) e ss ps qs kk n = stp T e ss ps qs kk n := by unfold rx; rw [hp]; rfl
    have e3 : dx (T : Int) e ss ps qs = 0 := by unfold dx; rw [hp]; rfl
    rw [e1, e2, e3]
    exact implStep_ok T e kk n p1 p2 p3 c1 c2 c3 ss ps qs w h1 h2 h3 l1 l2 l3 ok
theorem specStep_any (t e kk n : Int) (p1 p2 p3 : Addr) (c1 c2 c3 : Nat) (ss : List Int) (ps : List P2) (qs : List Int) (w : World) (h1 : RowI w (some p1) ss) (h2 : RowP w (some p2) ps) (h3 : RowI w (some p3) qs) (l1 : ss.length ≤ 1048576) (l2 : ps.length ≤ 1048576) (l3 : qs.length ≤ 1048576) (m1 : ss.length ≤ c1) (m2 : ps.length ≤ c2) (m3 : qs.length ≤ c3) : Calls Try.prog 29 #[SV t e (.slice (some p1) ss.length c1) (.slice (some p2) ps.length c2) (.slice (some p3) qs.length c3), .agg #[.int .i64 kk, .int .i64 n]] w (RetS false w (tx t e ss ps qs) (rx t e ss ps qs kk n) (dx t e ss ps qs)) := by
  cases hp : asB (OkSp t e ss ps qs)
  · have e1 : tx t e ss ps qs = 0 := by unfold tx; rw [hp]; rfl
    have e2 : rx t e ss ps qs kk n = zR := by unfold rx; rw [hp]; rfl
    have e3 : dx t e ss ps qs = 1 := by unfold dx; rw [hp]; rfl
    rw [e1, e2, e3]
    exact specStep_bad t e kk n p1 p2 p3 c1 c2 c3 ss ps qs w h1 h2 h3 l1 l2 l3 hp
  · have ok := asB_is hp
    have t0 := ok.1
    obtain ⟨T, rfl⟩ := Int.eq_ofNat_of_zero_le (show 0 ≤ t by omega)
    have e1 : tx (T : Int) e ss ps qs = T := by unfold tx; rw [hp]; rfl
    have e2 : rx (T : Int) e ss ps qs kk n = stp T e ss ps qs kk n := by unfold rx; rw [hp]; rfl
    have e3 : dx (T : Int) e ss ps qs = 0 := by unfold dx; rw [hp]; rfl
    rw [e1, e2, e3]
    exact specStep_ok T e kk n p1 p2 p3 c1 c2 c3 ss ps qs w h1 h2 h3 l1 l2 l3 m1 m2 m3 ok
end Go.Proofs.Ytaklphoplfofbaa
