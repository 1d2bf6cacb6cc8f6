/- The law's own comparisons of texts and entries (stage 8). -/
import Derived.Test.YtlcgmifibekegaaEnA
import Derived.BigQuiet
import Derived.Laws.StructEq
import Derived.ChangeKeysEq
namespace Go.Proofs.Ytlcgmifibekegaa
open Go.RowKit

set_option maxHeartbeats 1000000 in
theorem sameT_same (a1 a2 : Option Addr) (c1 c2 : Nat) (l : List TS) (w : World) (h1 : RowS w a1 l) (h2 : RowS w a2 l) (hlen : l.length ≤ 1048576) :
    Calls Try.prog 25 #[.slice a1 l.length c1, .slice a2 l.length c2] w fun e w' => e = .returned (.bool true) ∧ Below w.heap.size w w' := by
  have H1 : Hid (RowS w a1 l) := h1
  have H2 : Hid (RowS w a2 l) := h2
  clear h1 h2
  generalize hL : l.length = len at *
  have HL : Hid (l.length = len) := hL
  clear hL
  go_enter Try.func25, Try.ntmps25
  go_wp2
  go_loopw [5] (fun i wr => ∃ k : Nat, k ≤ len ∧ i = .int .i64 k ∧ Below w.heap.size w wr) (fun i _ => len - (intOf i).toNat)
  case atStart => exact ⟨0, by omega, rfl, Below.refl _ _⟩
  case round =>
    obtain ⟨k, hk, rfl, hbl⟩ := hrel
    by_cases hlt : k < len
    · obtain ⟨b1, o1, rfl, hlb1, hc1⟩ := (H1.out.below hbl) k (by rw [HL.out]; exact hlt)
      obtain ⟨b2, o2, rfl, hlb2, hc2⟩ := (H2.out.below hbl) k (by rw [HL.out]; exact hlt)
      go_wp2_with fail
      go_quiet (fail)
      go_wp2
      go_roundw
      case rel => exact ⟨k + 1, by omega, by go_num, below_drewN hbl _⟩
      case measure => simp [intOf]; omega
    · go_wp2
      go_ret
      exact ⟨rfl, hbl⟩
theorem sameT_own {w : World} {B B' : Nat} {v v' : Value} {l : List TS} (h : OwnS w B v l) (h' : OwnS w B' v' l) (hl : l.length ≤ 1048576) : Calls Try.prog 25 #[v, v'] w fun r w' => r = .returned (.bool true) ∧ Below w.heap.size w w' := by
  obtain ⟨a, c, rfl, r⟩ := h.row
  obtain ⟨a', c', rfl, r'⟩ := h'.row
  exact sameT_same a a' c c' l w r r' hl
theorem eq_ent (k v : ByteArray) (w : World) : (Op.equalIn 10000 61 (.agg #[.string k, .string v]) (.agg #[.string k, .string v])).run Try.prog w = .ok true w := by
  have hS : Try.prog.underlying 61 = some (.struct (Try.prog.fieldsOf 61)) := by kernel_rfl
  have hp : Try.prog.stoodInHeld 61 = false := by kernel_rfl
  rw [show (10000 : Nat) = 9999 + 1 from rfl, run_equalIn_agg w 9999 61 _ _ hS hp]
  have p0 : ∀ W, (part 9 #[.string k, .string v] 0).run Try.prog W = .ok (.string k) W := fun W => run_part_plain (P := Try.prog) W (e := 9) (by kernel_rfl) (xs := #[.string k, .string v]) (off := 0) (v := .string k) rfl
  have p1 : ∀ W, (part 9 #[.string k, .string v] 1).run Try.prog W = .ok (.string v) W := fun W => run_part_plain (P := Try.prog) W (e := 9) (by kernel_rfl) (xs := #[.string k, .string v]) (off := 1) (v := .string v) rfl
  simp only [Program.fieldsOf, Try.underlying61]
  simp [Op.eqFields, p0, p1, run_equalIn_string (P := Try.prog) w 9998 9 _ _ Try.underlying9]
set_option maxRecDepth 100000 in
set_option maxHeartbeats 1000000 in
theorem sameE_same (a1 a2 : Option Addr) (c1 c2 : Nat) (l : List TY) (w : World) (h1 : RowY w a1 l) (h2 : RowY w a2 l) (hlen : l.length ≤ 1048576) :
    Calls Try.prog 23 #[.slice a1 l.length c1, .slice a2 l.length c2] w fun e w' => e = .returned (.bool true) ∧ Below w.heap.size w w' := by
  have H1 : Hid (RowY w a1 l) := h1
  have H2 : Hid (RowY w a2 l) := h2
  clear h1 h2
  generalize hL : l.length = len at *
  have HL : Hid (l.length = len) := hL
  clear hL
  go_enter Try.func23, Try.ntmps23
  go_wp2
  go_loopw [5] (fun i wr => ∃ k : Nat, k ≤ len ∧ i = .int .i64 k ∧ Below w.heap.size w wr) (fun i _ => len - (intOf i).toNat)
  case atStart => exact ⟨0, by omega, rfl, Below.refl _ _⟩
  case round =>
    obtain ⟨k, hk, rfl, hbl⟩ := hrel
    by_cases hlt : k < len
    · obtain ⟨b1, o1, rfl, hlb1, ⟨p0, p1⟩⟩ := (H1.out.below hbl) k (by rw [HL.out]; exact hlt)
      obtain ⟨b2, o2, rfl, hlb2, ⟨q0, q1⟩⟩ := (H2.out.below hbl) k (by rw [HL.out]; exact hlt)
      have heq := fun W => eq_ent (nthY l k).1 (nthY l k).2 W
      go_wp2_with fail
      go_quiet (fail)
      go_wp2
      go_roundw
      case rel => exact ⟨k + 1, by omega, by go_num, below_drewN hbl _⟩
      case measure => simp [intOf]; omega
    · go_wp2
      go_ret
      exact ⟨rfl, hbl⟩
end Go.Proofs.Ytlcgmifibekegaa
