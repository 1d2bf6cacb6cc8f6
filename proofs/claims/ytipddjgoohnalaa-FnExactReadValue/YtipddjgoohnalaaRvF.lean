/- Hexadecimal digits as both sides read them. -/
import Derived.Test.YtipddjgoohnalaaRvE
namespace Go.Proofs.Ytipddjgoohnalaa
open Go.RowKit

def nib (c : Int) : Int := if 48 ≤ c ∧ c ≤ 57 then c - 48 else if 97 ≤ c ∧ c ≤ 102 then c - 87 else -1
theorem nib_bd (c : Int) : -1 ≤ nib c ∧ nib c ≤ 15 := by unfold nib; split; omega; split <;> omega
/-- Bytes as two digits each, from byte k on. -/
def hx (f : Nat → Int) (n k : Nat) (acc : List UInt8) : Option (List UInt8) :=
  if k + 1 < n then (if nib (f k) < 0 ∨ nib (f (k + 1)) < 0 then none else hx f n (k + 2) (acc ++ [byt (16 * nib (f k) + nib (f (k + 1)))]))
  else (if k < n then none else some acc)
termination_by n - k
theorem hx_end {f : Nat → Int} {n k : Nat} (acc : List UInt8) (h : ¬ k < n) : hx f n k acc = some acc := by rw [hx, if_neg (by omega), if_neg h]
theorem hx_bad {f : Nat → Int} {n k : Nat} (acc : List UInt8) (h : k + 1 < n) (h1 : nib (f k) < 0 ∨ nib (f (k + 1)) < 0) : hx f n k acc = none := by rw [hx, if_pos h, if_pos h1]
theorem hx_go {f : Nat → Int} {n k : Nat} (acc : List UInt8) (h : k + 1 < n) (h1 : ¬ (nib (f k) < 0 ∨ nib (f (k + 1)) < 0)) : hx f n k acc = hx f n (k + 2) (acc ++ [byt (16 * nib (f k) + nib (f (k + 1)))]) := by rw [hx, if_pos h, if_neg h1]
theorem hx_odd (f : Nat → Int) (n : Nat) : ∀ (d k : Nat) (acc : List UInt8), n - k ≤ d → (n - k) % 2 = 1 → hx f n k acc = none := by
  intro d
  induction d with
  | zero => intro k acc hd h; omega
  | succ d ih =>
    intro k acc hd h
    by_cases h1 : k + 1 < n
    · by_cases h2 : nib (f k) < 0 ∨ nib (f (k + 1)) < 0
      · exact hx_bad acc h1 h2
      · rw [hx_go acc h1 h2]
        exact ih (k + 2) _ (by omega) (by omega)
    · rw [hx, if_neg h1, if_pos (by omega)]

set_option maxRecDepth 100000 in
theorem l01Nibble_any (c : Int) (w : World) (h0 : 0 ≤ c) (h1 : c ≤ 255) :
    Calls Try.prog 110 #[.int .u8 c] w fun e w' => e = .returned (.int .i64 (nib c)) ∧ w' = w := by
  by_cases a1 : 48 ≤ c
  · by_cases a2 : c ≤ 57
    · have H : Hid (nib c = c - 48) := if_pos ⟨a1, a2⟩
      go_enter Try.func110, Try.ntmps110
      go_wp2
      go_ret
      exact ⟨ret_int' H.out.symm, rfl⟩
    · by_cases a3 : 97 ≤ c
      · by_cases a4 : c ≤ 102
        · have H : Hid (nib c = c - 97 + 10) := by show _ = _; unfold nib; rw [if_neg (by omega), if_pos ⟨a3, a4⟩]; omega
          go_enter Try.func110, Try.ntmps110
          go_wp2
          go_ret
          exact ⟨ret_int' H.out.symm, rfl⟩
        · have H : Hid (nib c = -1) := by show _ = _; unfold nib; rw [if_neg (by omega), if_neg (by omega)]
          go_enter Try.func110, Try.ntmps110
          go_wp2
          go_ret
          exact ⟨ret_int' H.out.symm, rfl⟩
      · have H : Hid (nib c = -1) := by show _ = _; unfold nib; rw [if_neg (by omega), if_neg (by omega)]
        go_enter Try.func110, Try.ntmps110
        go_wp2
        go_ret
        exact ⟨ret_int' H.out.symm, rfl⟩
  · have H : Hid (nib c = -1) := by show _ = _; unfold nib; rw [if_neg (by omega), if_neg (by omega)]
    have a3 : ¬ 97 ≤ c := by omega
    go_enter Try.func110, Try.ntmps110
    go_wp2
    go_ret
    exact ⟨ret_int' H.out.symm, rfl⟩

abbrev hexD : ByteArray := ⟨#[48, 49, 50, 51, 52, 53, 54, 55, 56, 57, 97, 98, 99, 100, 101, 102]⟩
theorem first_nib : ∀ i : Fin 256, firstIdx hexD (i.val.toUInt8) = nib (i.val : Int) := by decide +kernel
theorem ixb_run (c : Int) (w : World) (h0 : 0 ≤ c) (h1 : c ≤ 255) : Sem.run Try.prog (callFunc 116 #[.string hexD, .int .u8 c]) w = .ok (.value (.int .i64 (nib c))) w := by
  rw [run_callFunc_extern Try.func116 (by kernel_rfl) (by kernel_rfl) (by kernel_rfl) (e := Extern.BytealgIndexByte.indexByte) (by kernel_rfl), run_indexByte_string]
  have := first_nib ⟨c.toNat, by omega⟩
  simp only at this
  rw [this]
  have e : (c.toNat : Int) = c := by omega
  rw [e]
  rfl
set_option maxRecDepth 100000 in
theorem indexByte_any (c : Int) (w : World) (h0 : 0 ≤ c) (h1 : c ≤ 255) :
    Calls Try.prog 113 #[.string hexD, .int .u8 c] w fun e w' => e = .returned (.int .i64 (nib c)) ∧ w' = w := by
  have hin : Calls Try.prog 115 #[.string hexD, .int .u8 c] w fun e w' => e = .returned (.int .i64 (nib c)) ∧ w' = w := by
    have hr := ixb_run c w h0 h1
    go_enter Try.func115, Try.ntmps115
    go_wp2
    go_ret
    exact ⟨rfl, rfl⟩
  go_enter Try.func113, Try.ntmps113
  go_wp2_with fail
  refine hin.mono ?_
  rintro e w' ⟨rfl, hq⟩
  obtain rfl := hq.symm
  go_wp2
  go_ret
  exact ⟨rfl, rfl⟩
end Go.Proofs.Ytipddjgoohnalaa
