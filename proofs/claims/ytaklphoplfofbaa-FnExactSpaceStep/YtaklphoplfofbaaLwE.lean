/- What SpaceStep of both sides answers, right or not (stage 4). -/
import Derived.Test.YtaklphoplfofbaaLwD
namespace Go.Proofs.Ytaklphoplfofbaa
open Go.RowKit

noncomputable def tx (t e : Int) (ss : List Int) (ps : List P2) (qs : List Int) : Int := if asB (OkSp t e ss ps qs) = true then t else 0
noncomputable def rx (t e : Int) (ss : List Int) (ps : List P2) (qs : List Int) (kk n : Int) : SR := if asB (OkSp t e ss ps qs) = true then stp t.toNat e ss ps qs kk n else zR
noncomputable def dx (t e : Int) (ss : List Int) (ps : List P2) (qs : List Int) : Int := if asB (OkSp t e ss ps qs) = true then 0 else 1
theorem stp_pg (t : Nat) (e : Int) (ss : List Int) (ps : List P2) (qs : List Int) (k n : Int) (ok : OkSp t e ss ps qs) : (stp t e ss ps qs k n).pg.length ≤ 64 := by
  have t0 := ok.1
  have m0 := ok_many ok
  have f0 := freeK_len (usedB ss ps) t
  unfold stp
  split
  · split
    · split
      · exact Nat.zero_le _
      · show (List.take _ _).length ≤ _
        rw [List.length_take]
        omega
    · exact Nat.zero_le _
  · split
    · split
      · exact Nat.zero_le _
      · show ss.length ≤ _
        omega
    · split
      · split
        · exact Nat.zero_le _
        · exact Nat.zero_le _
      · exact Nat.zero_le _
theorem rx_len (t e : Int) (ss : List Int) (ps : List P2) (qs : List Int) (kk n : Int) : ((rx t e ss ps qs kk n).ss.length ≤ 1048576 ∧ (rx t e ss ps qs kk n).ps.length ≤ 1048576 ∧ (rx t e ss ps qs kk n).qs.length ≤ 1048576) ∧ (rx t e ss ps qs kk n).pg.length ≤ 64 := by
  unfold rx
  split
  · rename_i h
    have ok := asB_is h
    have t0 := ok.1
    obtain ⟨T, rfl⟩ := Int.eq_ofNat_of_zero_le (show 0 ≤ t by omega)
    exact ⟨stp_len T e ss ps qs kk n ok, stp_pg T e ss ps qs kk n ok⟩
  · exact ⟨⟨Nat.zero_le _, Nat.zero_le _, Nat.zero_le _⟩, Nat.zero_le _⟩
theorem implStep_any (t e kk n : Int) (p1 p2 p3 : Addr) (c1 c2 c3 : Nat) (ss : List Int) (ps : List P2) (qs : List Int) (w : World) (h1 : RowI w (some p1) ss) (h2 : RowP w (some p2) ps) (h3 : RowI w (some p3) qs) (l1 : ss.length ≤ 1048576) (l2 : ps.length ≤ 1048576) (l3 : qs.length ≤ 1048576) : Calls Try.prog 31 #[SV t e (.slice (some p1) ss.length c1) (.slice (some p2) ps.length c2) (.slice (some p3) qs.length c3), .agg #[.int .i64 kk, .int .i64 n]] w (RetS true w (tx t e ss ps qs) (rx t e ss ps qs kk n) (dx t e ss ps qs)) := by
  cases hp : asB (OkSp t e ss ps qs)
  · have e1 : tx t e ss ps qs = 0 := by unfold tx; rw [hp]; rfl
    have e2 : rx t e ss ps qs kk n = zR := by unfold rx; rw [hp]; rfl
    have e3 : dx t e ss ps qs = 1 := by unfold dx; rw [hp]; rfl
    rw [e1, e2, e3]
    exact implStep_bad t e kk n p1 p2 p3 c1 c2 c3 ss ps qs w h1 h2 h3 l1 l2 l3 hp
  · have ok := asB_is hp
    have t0 := ok.1
    obtain ⟨T, rfl⟩ := Int.eq_ofNat_of_zero_le (show 0 ≤ t by omega)
    have e1 : tx (T : Int) e ss ps qs = T := by unfold tx; rw [hp]; rfl
    have e2 : rx (T : Int) e ss ps qs kk n = stp T e ss ps qs kk n := by unfold rx; rw [hp]; rfl
    have e3 : dx (T : Int) e ss ps qs = 0 := by unfold dx; rw [hp]; rfl
    rw [e1, e2, e3]
    exact implStep_ok T e kk n p1 p2 p3 c1 c2 c3 ss ps qs w h1 h2 h3 l1 l2 l3 ok
theorem specStep_any (t e kk n : Int) (p1 p2 p3 : Addr) (c1 c2 c3 : Nat) (ss : List Int) (ps : List P2) (qs : List Int) (w : World) (h1 : RowI w (some p1) ss) (h2 : RowP w (some p2) ps) (h3 : RowI w (some p3) qs) (l1 : ss.length ≤ 1048576) (l2 : ps.length ≤ 1048576) (l3 : qs.length ≤ 1048576) (m1 : ss.length ≤ c1) (m2 : ps.length ≤ c2) (m3 : qs.length ≤ c3) : Calls Try.prog 29 #[SV t e (.slice (some p1) ss.length c1) (.slice (some p2) ps.length c2) (.slice (some p3) qs.length c3), .agg #[.int .i64 kk, .int .i64 n]] w (RetS false w (tx t e ss ps qs) (rx t e ss ps qs kk n) (dx t e ss ps qs)) := by
  cases hp : asB (OkSp t e ss ps qs)
  · have e1 : tx t e ss ps qs = 0 := by unfold tx; rw [hp]; rfl
    have e2 : rx t e ss ps qs kk n = zR := by unfold rx; rw [hp]; rfl
    have e3 : dx t e ss ps qs = 1 := by unfold dx; rw [hp]; rfl
    rw [e1, e2, e3]
    exact specStep_bad t e kk n p1 p2 p3 c1 c2 c3 ss ps qs w h1 h2 h3 l1 l2 l3 hp
  · have ok := asB_is hp
    have t0 := ok.1
    obtain ⟨T, rfl⟩ := Int.eq_ofNat_of_zero_le (show 0 ≤ t by omega)
    have e1 : tx (T : Int) e ss ps qs = T := by unfold tx; rw [hp]; rfl
    have e2 : rx (T : Int) e ss ps qs kk n = stp T e ss ps qs kk n := by unfold rx; rw [hp]; rfl
    have e3 : dx (T : Int) e ss ps qs = 0 := by unfold dx; rw [hp]; rfl
    rw [e1, e2, e3]
    exact specStep_ok T e kk n p1 p2 p3 c1 c2 c3 ss ps qs w h1 h2 h3 l1 l2 l3 m1 m2 m3 ok
end Go.Proofs.Ytaklphoplfofbaa
