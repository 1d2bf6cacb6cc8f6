/- Sums find one byte, or two that follow one another, that were changed: plain mathematics (towards FnSectors). -/
import Derived.Test.YtbnnplelbbcanaaPagC
namespace Go.Proofs.Ytbnnplelbbcanaa
open Go.RowKit

theorem xor_zero_eq {a b : Nat} (h : a ^^^ b = 0) : a = b := by
  have : a ^^^ b ^^^ b = b := by rw [h, Nat.zero_xor]
  rwa [Nat.xor_assoc, Nat.xor_self, Nat.xor_zero] at this
theorem xor_rc {a b c : Nat} (h : a ^^^ c = b ^^^ c) : a = b := by
  have : a ^^^ c ^^^ c = b ^^^ c ^^^ c := by rw [h]
  rwa [Nat.xor_assoc, Nat.xor_self, Nat.xor_zero, Nat.xor_assoc, Nat.xor_self, Nat.xor_zero] at this
theorem xor_lc {a b c : Nat} (h : c ^^^ a = c ^^^ b) : a = b := xor_rc (c := c) (by rw [Nat.xor_comm a, Nat.xor_comm b]; exact h)
theorem bit1_zero {n : Nat} (h : n < 4294967296) (h0 : bit1 n = 0) : n = 0 := by
  unfold bit1 at h0
  split at h0
  · have := xor_zero_eq h0
    omega
  · omega
theorem bitK_zero (k : Nat) {n : Nat} (h : n < 4294967296) (h0 : bitK k n = 0) : n = 0 := by
  induction k with
  | zero => exact h0
  | succ k ih => exact ih (bit1_zero (bitK_lt k h) h0)
theorem bitK_inj (k : Nat) {a b : Nat} (ha : a < 4294967296) (hb : b < 4294967296) (h : bitK k a = bitK k b) : a = b := by
  apply xor_zero_eq
  apply bitK_zero k (xor32 ha hb)
  rw [bitK_xor, h, Nat.xor_self]
abbrev stepR (r : Nat) (c : UInt8) : Nat := bitK 8 (r ^^^ c.toNat)
theorem stepR_inj {r r' : Nat} {c : UInt8} (hr : r < 4294967296) (hr' : r' < 4294967296) (h : stepR r c = stepR r' c) : r = r' := by
  have := bitK_inj 8 (xor32 hr (u8_lt c)) (xor32 hr' (u8_lt c)) h
  exact xor_rc this
theorem fold_inj (l : List UInt8) : ∀ {r r' : Nat}, r < 4294967296 → r' < 4294967296 → l.foldl stepR r = l.foldl stepR r' → r = r' := by
  induction l with
  | nil => intro r r' _ _ h; exact h
  | cons c l ih =>
    intro r r' hr hr' h
    exact stepR_inj hr hr' (ih (bitK_lt 8 (xor32 hr (u8_lt c))) (bitK_lt 8 (xor32 hr' (u8_lt c))) h)
theorem tab_great : ∀ d : Fin 256, d.val ≠ 0 → 256 ≤ bitK 8 d.val := by decide +kernel
/-- Two bytes that follow one another, changed: the sum is another. -/
theorem sum_two (p q : List UInt8) (a b a' b' : UInt8) (h : sumL (p ++ [a, b] ++ q) = sumL (p ++ [a', b'] ++ q)) : a = a' ∧ b = b' := by
  have h1 : crcL (p ++ [a, b] ++ q) = crcL (p ++ [a', b'] ++ q) := xor_rc h
  have e : ∀ x y : UInt8, crcL (p ++ [x, y] ++ q) = q.foldl stepR (stepR (stepR (crcL p) x) y) := fun x y => by
    unfold crcL
    rw [List.foldl_append, List.foldl_append]
    rfl
  rw [e, e] at h1
  have hp := crcL_lt p
  have ha : ∀ x : UInt8, stepR (crcL p) x < 4294967296 := fun x => bitK_lt 8 (xor32 hp (u8_lt x))
  have h2 := fold_inj q (bitK_lt 8 (xor32 (ha a) (u8_lt b))) (bitK_lt 8 (xor32 (ha a') (u8_lt b'))) h1
  have h3 := bitK_inj 8 (xor32 (ha a) (u8_lt b)) (xor32 (ha a') (u8_lt b')) h2
  have h4 : bitK 8 (a.toNat ^^^ a'.toNat) = b.toNat ^^^ b'.toNat := by
    have h5 : stepR (crcL p) a ^^^ stepR (crcL p) a' = b.toNat ^^^ b'.toNat := by
      have : stepR (crcL p) a ^^^ b.toNat ^^^ (stepR (crcL p) a' ^^^ b'.toNat) = 0 := by rw [h3, Nat.xor_self]
      apply xor_zero_eq
      rw [← this]
      simp only [Nat.xor_assoc]
      congr 1
      rw [← Nat.xor_assoc, Nat.xor_comm (stepR (crcL p) a') b.toNat, Nat.xor_assoc]
    rw [← h5]
    show _ = bitK 8 (crcL p ^^^ a.toNat) ^^^ bitK 8 (crcL p ^^^ a'.toNat)
    rw [← bitK_xor]
    congr 1
    rw [Nat.xor_comm (crcL p) a.toNat, Nat.xor_assoc, ← Nat.xor_assoc (crcL p), Nat.xor_self, Nat.zero_xor]
  have hb : b.toNat ^^^ b'.toNat < 256 := Nat.xor_lt_two_pow (n := 8) b.toNat_lt b'.toNat_lt
  have hd : a.toNat ^^^ a'.toNat < 256 := Nat.xor_lt_two_pow (n := 8) a.toNat_lt a'.toNat_lt
  have hz : a.toNat ^^^ a'.toNat = 0 := by
    apply Classical.byContradiction
    intro hne
    have := tab_great ⟨a.toNat ^^^ a'.toNat, hd⟩ hne
    simp only at this
    omega
  rw [hz] at h4
  have h6 : bitK 8 0 = 0 := by decide
  rw [h6] at h4
  exact ⟨UInt8.toNat_inj.1 (xor_zero_eq hz), UInt8.toNat_inj.1 (xor_zero_eq h4.symm)⟩
/-- One byte changed: the sum is another. -/
theorem sum_one (p q : List UInt8) (a a' : UInt8) (h : sumL (p ++ [a] ++ q) = sumL (p ++ [a'] ++ q)) : a = a' := by
  have h1 : crcL (p ++ [a] ++ q) = crcL (p ++ [a'] ++ q) := xor_rc h
  have e : ∀ x : UInt8, crcL (p ++ [x] ++ q) = q.foldl stepR (stepR (crcL p) x) := fun x => by
    unfold crcL
    rw [List.foldl_append, List.foldl_append]
    rfl
  rw [e, e] at h1
  have hp := crcL_lt p
  have h2 := fold_inj q (bitK_lt 8 (xor32 hp (u8_lt a))) (bitK_lt 8 (xor32 hp (u8_lt a'))) h1
  have h3 := bitK_inj 8 (xor32 hp (u8_lt a)) (xor32 hp (u8_lt a')) h2
  exact UInt8.toNat_inj.1 (xor_lc h3)
/-- The sum of a page is another for the next epoch. -/
theorem psum_next (page e : Int) (body : List UInt8) (h0 : 0 ≤ e) (h1 : e ≤ 65000) : psum page e body ≠ psum page (e + 1) body := fun h => by
  have z : ∀ x : Int, 0 ≤ x → x ≤ 65001 → num4 x = [0, 0, b8 (x / 256), b8 x] := fun x hx0 hx1 => by
    have e1 : x / 16777216 = 0 := by omega
    have e2 : x / 65536 = 0 := by omega
    unfold num4
    rw [e1, e2]
    rfl
  unfold psum at h
  rw [z e h0 (by omega), z (e + 1) (by omega) (by omega)] at h
  have := sum_two ([b8 page] ++ [0, 0]) body (b8 (e / 256)) (b8 e) (b8 ((e + 1) / 256)) (b8 (e + 1)) (by simpa using h)
  have h2 := b8_nat e
  have h3 := b8_nat (e + 1)
  rw [this.2] at h2
  omega
end Go.Proofs.Ytbnnplelbbcanaa
