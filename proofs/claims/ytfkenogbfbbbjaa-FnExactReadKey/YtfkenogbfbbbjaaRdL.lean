/- The laws' mark of a text, as a function of its number. -/
import Derived.Test.YtfkenogbfbbbjaaRdK
namespace Go.Proofs.Ytfkenogbfbbbjaa
open Go.RowKit

def dgt (q : Int) : UInt8 := UInt8.ofNat (48 + q % 10).toNat
/-- The digits of q ahead of t. -/
def mtx (q : Nat) (t : ByteArray) : ByteArray := if 0 < q then mtx (q / 10) (⟨#[dgt q]⟩ ++ t) else t
termination_by q
decreasing_by omega
def mkT (k : Int) : ByteArray := if k ≤ 0 then ⟨#[109, 48]⟩ else ⟨#[109]⟩ ++ mtx k.toNat ⟨#[]⟩

set_option maxRecDepth 100000 in
set_option maxHeartbeats 1000000 in
theorem markText_is (k : Int) (w : World) (h0 : 0 ≤ k) (h1 : k ≤ 1000000000) :
    Calls Try.prog 69 #[.int .i64 k] w fun e w' => e = .returned (.string (mkT k)) ∧ (mkT k).size ≤ maxLen ∧ Below w.heap.size w w' := by
  by_cases hk : k ≤ 0
  · have E : Hid (mkT k = ⟨#[109, 48]⟩) := by show _ = _; unfold mkT; rw [if_pos hk]
    go_enter Try.func69, Try.ntmps69
    go_wp2
    go_ret
    rw [E.out]
    exact ⟨rfl, by decide, Below.refl _ _⟩
  · have E : Hid (mkT k = ⟨#[109]⟩ ++ mtx k.toNat ⟨#[]⟩) := by show _ = _; unfold mkT; rw [if_neg hk]
    go_enter Try.func69, Try.ntmps69
    go_wp2
    go_loopw [0, 3] (fun kk o wr => ∃ (q : Int) (t : ByteArray), kk = .int .i64 q ∧ o = .string t ∧ 0 ≤ q ∧ q ≤ 1000000000 ∧ t.size + q.toNat ≤ 1000000000 ∧ Hid (mtx k.toNat ⟨#[]⟩ = mtx q.toNat t) ∧ Below w.heap.size w wr) (fun kk _ _ => (intOf kk).toNat)
    case atStart => exact ⟨k, ⟨#[]⟩, rfl, rfl, h0, h1, by show 0 + _ ≤ _; omega, rfl, Below.refl _ _⟩
    case round =>
      obtain ⟨q, t, rfl, rfl, q0, q1, hs, HM, hbl⟩ := hrel
      by_cases hq : 0 < q
      · have hb : ((dgt q).toNat : Int) = 48 + q % 10 := by unfold dgt; simp; omega
        have HM2 : Hid (mtx k.toNat ⟨#[]⟩ = mtx (q / 10).toNat (⟨#[dgt q]⟩ ++ t)) := by
          show _ = _
          rw [HM.out, mtx, if_pos (by omega)]
          have e1 : q.toNat / 10 = (q / 10).toNat := by omega
          have e2 : ((q.toNat : Nat) : Int) = q := by omega
          rw [e1, e2]
        have hcv := run_convert_bytes_back (P := Try.prog) (wr.alloc (.cells #[.int .u8 (48 + q % 10)] 5)) 22 9 5 ⟨wr.heap.size, 0, none⟩ 1 [dgt q] Try.underlying22 Try.underlying5 Try.underlying9 (fun j hj => by
          have : j = 0 := by simpa using hj
          subst this
          rw [add_plain]
          show _ = some (Value.int .u8 ((dgt q).toNat : Int))
          rw [hb]
          exact World.cell?_alloc_at _ _ _ _ rfl)
        generalize dgt q = b at *
        have hcv' : Sem.run Try.prog (convert 22 9 (.slice (some ⟨wr.heap.size, 0, none⟩) 1 1)) (wr.alloc (.cells #[.int .u8 (48 + q % 10)] 5)) = .ok (.string ⟨#[b]⟩) (wr.alloc (.cells #[.int .u8 (48 + q % 10)] 5)) := hcv
        have hsz : (⟨#[b]⟩ : ByteArray).size = 1 := rfl
        have hadd := fun wx => run_string_add_sum (P := Try.prog) (w := wx) ⟨#[b]⟩ t (by rw [hsz]; omega)
        have hB := hbl.alloc hbl.size (.cells #[.int .u8 (48 + q % 10)] 5)
        have HS : Hid ((⟨#[b]⟩ ++ t : ByteArray).size + (q / 10).toNat ≤ 1000000000) := by show _ ≤ _; rw [ByteArray.size_append, hsz]; omega
        clear hcv hb hbl hs hsz
        go_wp2
        go_roundw
        case rel => exact ⟨q / 10, _, by go_num, rfl, by omega, by omega, HS.out, HM2, hB⟩
        case measure => simp [intOf]; omega
      · have HT : Hid (mkT k = ⟨#[109]⟩ ++ t) := by
          show _ = _
          rw [E.out, HM.out, mtx, if_neg (by omega)]
        have HS : Hid ((⟨#[109]⟩ ++ t : ByteArray).size ≤ maxLen) := by show _ ≤ _; rw [ByteArray.size_append]; unfold maxLen; show 1 + _ ≤ _; omega
        go_wp2
        go_ret
        rw [HT.out]
        exact ⟨rfl, HS.out, hbl⟩
end Go.Proofs.Ytfkenogbfbbbjaa
