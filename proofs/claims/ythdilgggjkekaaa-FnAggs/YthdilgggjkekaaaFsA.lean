/- A choice out of bytes (stage 13). -/
import Derived.Test.YthdilgggjkekaaaDrB
namespace Go.Proofs.Ythdilgggjkekaaa.R
open Go.RowKit

theorem Code.kept {w w' : World} {a : Option Addr} {len : Nat} (h : Code w a len) (hb : Below w.heap.size w w') : Code w' a len := h.below hb (fun x e hl => h.lt hl x e)
set_option maxRecDepth 100000 in
theorem at_any {w : World} {a : Option Addr} {cap len : Nat} (h : Code w a len) (hlen : len ≤ 1048576) (i : Nat) (n : Int) (hi : i ≤ 10) (hn : 1 < n) (hn2 : n ≤ 10000) :
    Calls Try.prog 7 #[.slice a len cap, .int .i64 i, .int .i64 n] w fun e w' => ∃ r : Int, e = .returned (.int .i64 r) ∧ 0 ≤ r ∧ r < n ∧ Below w.heap.size w w' := by
  have H : Hid (Code w a len) := h
  clear h
  by_cases h0 : len = 0
  · subst h0
    go_enter Try.func7, Try.ntmps7
    go_wp2
    go_ret
    exact ⟨(i : Int) * 7 % n, by go_num, Int.emod_nonneg _ (by omega), Int.emod_lt_of_pos _ (by omega), Below.refl _ _⟩
  · have hp : i % len < len := Nat.mod_lt _ (by omega)
    have hq : (i + 1) % len < len := Nat.mod_lt _ (by omega)
    obtain ⟨b, off, u, rfl, _, u1, u2, hc1⟩ := H.out (i % len) hp
    obtain ⟨b', off', v, e', _, v1, v2, hc2⟩ := H.out ((i + 1) % len) hq
    cases e'
    have e1 : (i : Int) % (len : Int) = ((i % len : Nat) : Int) := by omega
    have e2 : ((i : Int) + 1) % (len : Int) = (((i + 1) % len : Nat) : Int) := by rw [Int.natCast_emod]; rfl
    generalize i % len = p at *
    generalize (i + 1) % len = q at *
    obtain ⟨d, hd⟩ : ∃ d : Nat, (i : Int) / (len : Int) = (d : Int) := ⟨i / len, by omega⟩
    have hd2 : d ≤ 10 := by
      have h1 : i / len ≤ i := Nat.div_le_self _ _
      have h2 : ((i / len : Nat) : Int) = (d : Int) := by omega
      omega
    have h0I : ¬ ((len : Int) = 0) := by omega
    have hpI : (p : Int) < (len : Int) := by omega
    have hqI : (q : Int) < (len : Int) := by omega
    clear H
    go_enter Try.func7, Try.ntmps7
    go_wp2_with fail
    go_quiet (fail)
    go_wp2
    go_ret
    exact ⟨(u * 31 + v + (d : Int)) % n, by go_num, Int.emod_nonneg _ (by omega), Int.emod_lt_of_pos _ (by omega), below_drewN (Below.refl _ _) _⟩


set_option maxRecDepth 100000 in
theorem at_one {w : World} {a : Option Addr} {cap len : Nat} (i : Nat) : Calls Try.prog 7 #[.slice a len cap, .int .i64 i, .int .i64 1] w fun e w' => e = .returned (.int .i64 0) ∧ w' = w := by
  go_enter Try.func7, Try.ntmps7
  go_wp2
  go_ret
  exact ⟨rfl, rfl⟩
end Go.Proofs.Ythdilgggjkekaaa.R
