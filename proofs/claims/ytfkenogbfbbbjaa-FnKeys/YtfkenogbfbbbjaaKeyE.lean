/- What both KeyBytes answer. -/
import Derived.Test.YtfkenogbfbbbjaaKeyD
import Derived.Test.YtfkenogbfbbbjaaSide
namespace Go.Proofs.Ytfkenogbfbbbjaa
open Go.RowKit

/-- How many bytes a key has. -/
def keyN (vs : List V3) : Nat := if okRow vs then (encKey vs).length else 0
theorem keyN_le (vs : List V3) : keyN vs ≤ 4194304 := by
  unfold keyN
  split
  · rename_i h
    obtain ⟨h8, hall⟩ := okRow_all h
    have := keyFlat_len vs hall
    unfold encKey
    omega
  · omega

theorem implKeyBytes_any (a : Option Addr) (cap : Nat) (vs : List V3) (w : World) (hrow : RowV w a vs) (hlen : vs.length ≤ 1048576) :
    Calls Try.prog 19 #[.slice a vs.length cap] w fun e w' => ∃ a2 c, e = .returned (.tuple #[.slice a2 (keyN vs) c, .int .i64 (rowCode vs)]) ∧ NewB w.heap.size a2 (keyN vs) ∧ OwnB w' a2 (keyN vs) (byteVal (encKey vs)) ∧ Below w.heap.size w w' := by
  by_cases hok : okRow vs = true
  · have h8 := (okRow_all hok).1
    have hcode : rowCode vs = 0 := by unfold rowCode; rw [if_neg (by omega), hok]; rfl
    have hN : keyN vs = (encKey vs).length := by unfold keyN; rw [if_pos hok]
    rw [hcode, hN]
    refine (implKeyBytes_ok a cap vs w hrow hok).mono ?_
    rintro e w' ⟨g, c, rfl, hg, ho, hb⟩
    exact ⟨_, c, rfl, .inr ⟨g, rfl, hg⟩, ho, hb⟩
  · have hN : keyN vs = 0 := by unfold keyN; rw [if_neg hok]
    have hcode : rowCode vs ≠ 0 := by unfold rowCode; rw [if_neg hok]; split <;> decide
    rw [hN]
    have H1 : Hid (RowV w a vs) := hrow
    have HC : Hid (rowCode vs ≠ 0) := hcode
    clear hrow hok hN hcode
    go_enter Try.func19, Try.ntmps19
    go_wp2_with fail
    refine (rowCells_any a cap vs w H1.out hlen).mono ?_
    rintro e w1 ⟨v, rfl, _, hb1⟩
    obtain ⟨code, hcd⟩ : ∃ code, rowCode vs = code := ⟨_, rfl⟩
    have hcode : code ≠ 0 := by rw [← hcd]; exact HC.out
    have HD : Hid (rowCode vs = code) := hcd
    rw [hcd]
    clear hcd
    go_wp2
    go_ret2
    exact ⟨none, 0, by rw [HD.out]; rfl, .inl ⟨rfl, rfl⟩, .inl rfl, hb1⟩

theorem specKeyBytes_any (a : Option Addr) (cap : Nat) (vs : List V3) (w : World) (hrow : RowV w a vs) (hlen : vs.length ≤ 1048576) :
    Calls Try.prog 20 #[.slice a vs.length cap] w fun e w' => ∃ a2 c, e = .returned (.tuple #[.slice a2 (keyN vs) c, .int .i64 (rowCode vs)]) ∧ ReadB w' a2 (keyN vs) (byteVal (encKey vs)) ∧ Below w.heap.size w w' := by
  have H1 : Hid (RowV w a vs) := hrow
  clear hrow
  by_cases hlong : 4096 < vs.length
  · have hok : okRow vs = false := okRow_long (by omega)
    have HN : Hid (keyN vs = 0) := by show _ = _; unfold keyN; rw [hok]; rfl
    have HC : Hid (rowCode vs = 2) := by show _ = _; unfold rowCode; rw [if_pos hlong]
    clear hok
    go_enter Try.func20, Try.ntmps20
    go_wp2
    go_ret2
    exact ⟨some ⟨w.heap.size, 0, none⟩, 0, by rw [HN.out, HC.out]; rfl, by rw [HN.out]; exact fun i hi => by omega, (Below.refl _ _).alloc (Nat.le_refl _) _⟩
  · cases hok : okRow vs with
    | false =>
      have HN : Hid (keyN vs = 0) := by show _ = _; unfold keyN; rw [hok]; rfl
      have HC : Hid (rowCode vs = 1) := by show _ = _; unfold rowCode; rw [if_neg hlong, hok]; rfl
      go_enter Try.func20, Try.ntmps20
      go_wp2_with fail
      refine (l01Row_any a cap vs w H1.out hlen).mono ?_
      rintro e w1 ⟨rfl, hb1⟩
      rw [hok]
      clear hok
      go_wp2
      go_ret2
      exact ⟨some ⟨w1.heap.size, 0, none⟩, 0, by rw [HN.out, HC.out]; rfl, by rw [HN.out]; exact fun i hi => by omega, hb1.alloc hb1.size _⟩
    | true =>
      have HN : Hid (keyN vs = (encKey vs).length) := by show _ = _; unfold keyN; rw [hok]; rfl
      have HC : Hid (rowCode vs = 0) := by show _ = _; unfold rowCode; rw [if_neg hlong, hok]; rfl
      have HK : Hid (okRow vs = true) := hok
      go_enter Try.func20, Try.ntmps20
      go_wp2_with fail
      refine (l01Row_any a cap vs w H1.out hlen).mono ?_
      rintro e w1 ⟨rfl, hb1⟩
      rw [hok]
      clear hok
      go_wp2_with fail
      refine (l01Key_any a cap vs w1 (H1.out.below hb1) HK.out).mono ?_
      rintro e w2 ⟨v, rfl, hown, hb2⟩
      obtain ⟨a2, c2, rfl, hR⟩ := own_read hown (encKey_bytes HK.out)
      have B2 := below_step hb1 (Nat.le_refl _) hb2
      clear hown hb1 hb2
      go_wp2
      go_ret2
      exact ⟨a2, c2, by rw [HN.out, HC.out]; rfl, by rw [HN.out]; exact hR, B2⟩
end Go.Proofs.Ytfkenogbfbbbjaa
