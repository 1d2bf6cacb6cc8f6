/- The laws' helpers heldByteS, markText, markValueS. -/
import Derived.Test.YtfkenogbfbbbjaaMarks
import Derived.Laws.IdiomStrings
import Derived.Laws.Concat
namespace Go.Proofs.Ytfkenogbfbbbjaa
open Go.RowKit

set_option maxRecDepth 100000 in
set_option maxHeartbeats 1000000 in
theorem heldB_any (a : Option Addr) (cap n : Nat) (k0 : Int) (w : World) (h : ReadB w a n (markB k0)) (hn : n ≤ 4194304) (h0 : 0 ≤ k0) (h1 : k0 ≤ 1000000000) :
    Calls Try.prog 37 #[.slice a n cap, .int .i64 k0] w fun e w' => e = .returned (.int .i64 (k0 + n)) ∧ w' = w := by
  have H1 : Hid (ReadB w a n (markB k0)) := h
  clear h
  go_enter Try.func37, Try.ntmps37
  go_wp2
  go_loop [1, 5] (fun kk i => ∃ j : Nat, j ≤ n ∧ i = .int .i64 j ∧ kk = .int .i64 (k0 + j)) (fun _ i => n - (intOf i).toNat)
  case atStart => exact ⟨0, by omega, rfl, by go_num⟩
  case round =>
    obtain ⟨j, hj, rfl, rfl⟩ := hrel
    by_cases hlt : j < n
    · obtain ⟨b, off, rfl, _, hc⟩ := H1.out j hlt
      have hltI : (j : Int) < (n : Int) := by omega
      unfold markB at hc
      go_wp2
      go_round
      case rel => exact ⟨j + 1, by omega, by go_num, by go_num⟩
      case measure => simp [intOf]; omega
    · have e : j = n := by omega
      subst e
      go_wp2
      go_ret
      exact ⟨rfl, rfl⟩

set_option maxRecDepth 100000 in
set_option maxHeartbeats 1000000 in
theorem markText_any (k : Int) (w : World) (h0 : 0 ≤ k) (h1 : k ≤ 1000000000) :
    Calls Try.prog 69 #[.int .i64 k] w fun e w' => ∃ t : ByteArray, e = .returned (.string t) ∧ t.size ≤ maxLen ∧ Below w.heap.size w w' := by
  by_cases hk : k ≤ 0
  · go_enter Try.func69, Try.ntmps69
    go_wp2
    go_ret
    exact ⟨_, rfl, by decide, Below.refl _ _⟩
  · go_enter Try.func69, Try.ntmps69
    go_wp2
    go_loopw [0, 3] (fun kk o wr => ∃ (q : Int) (t : ByteArray), kk = .int .i64 q ∧ o = .string t ∧ 0 ≤ q ∧ q ≤ 1000000000 ∧ t.size + q.toNat ≤ 1000000000 ∧ Below w.heap.size w wr) (fun kk _ _ => (intOf kk).toNat)
    case atStart => exact ⟨k, ⟨#[]⟩, rfl, rfl, h0, h1, by show 0 + _ ≤ _; omega, Below.refl _ _⟩
    case round =>
      obtain ⟨q, t, rfl, rfl, q0, q1, hs, hbl⟩ := hrel
      by_cases hq : 0 < q
      · obtain ⟨b, hb⟩ : ∃ b : UInt8, (b.toNat : Int) = 48 + q % 10 := ⟨UInt8.ofNat (48 + q % 10).toNat, by simp; omega⟩
        have hcv := run_convert_bytes_back (P := Try.prog) (wr.alloc (.cells #[.int .u8 (48 + q % 10)] 5)) 22 9 5 ⟨wr.heap.size, 0, none⟩ 1 [b] Try.underlying22 Try.underlying5 Try.underlying9 (fun j hj => by
          have : j = 0 := by simpa using hj
          subst this
          rw [add_plain, ← hb]
          exact World.cell?_alloc_at _ _ _ _ rfl)
        have hcv' : Sem.run Try.prog (convert 22 9 (.slice (some ⟨wr.heap.size, 0, none⟩) 1 1)) (wr.alloc (.cells #[.int .u8 (48 + q % 10)] 5)) = .ok (.string ⟨#[b]⟩) (wr.alloc (.cells #[.int .u8 (48 + q % 10)] 5)) := hcv
        have hsz : (⟨#[b]⟩ : ByteArray).size = 1 := rfl
        have hadd := fun wx => run_string_add_sum (P := Try.prog) (w := wx) ⟨#[b]⟩ t (by rw [hsz]; omega)
        have hB := hbl.alloc hbl.size (.cells #[.int .u8 (48 + q % 10)] 5)
        have HS : Hid ((⟨#[b]⟩ ++ t : ByteArray).size + (q / 10).toNat ≤ 1000000000) := by show _ ≤ _; rw [ByteArray.size_append, hsz]; omega
        clear hcv hb hbl hs hsz
        go_wp2
        go_roundw
        case rel => exact ⟨q / 10, _, by go_num, rfl, by omega, by omega, HS.out, hB⟩
        case measure => simp [intOf]; omega
      · have HS : Hid ((⟨#[109]⟩ ++ t : ByteArray).size ≤ maxLen) := by show _ ≤ _; rw [ByteArray.size_append]; unfold maxLen; show 1 + _ ≤ _; omega
        go_wp2
        go_ret
        exact ⟨_, rfl, HS.out, hbl⟩

theorem own_any {w : World} {g n k : Nat} {vs : List V3} (h : SlabK w g n vs k) : SlabK w g n vs 0 := by
  obtain ⟨cur, hh, hs, _⟩ := h
  exact ⟨cur, hh, hs, fun i hi => by omega⟩
theorem SlabK.set0 {w : World} {g n : Nat} {vs : List V3} (h : SlabK w g n vs 0) (o : Nat) (v : Value) : SlabK (w.setCell ⟨g, o, none⟩ v) g n vs 0 := by
  obtain ⟨cur, hh, hs, _⟩ := h
  exact ⟨_, slab_set hh _, by simpa using hs, fun i hi => by omega⟩

set_option maxRecDepth 100000 in
set_option maxHeartbeats 2000000 in
theorem markS_any (g n : Nat) (vs : List V3) (k0 : Int) (w : World) (h : SlabK w g n vs 0) (hn : n ≤ 1048576) (h0 : 0 ≤ k0) (h1 : k0 ≤ 1000) :
    Calls Try.prog 35 #[.slice (some ⟨g, 0, none⟩) n n, .int .i64 k0] w fun e w' => e = .returned (.int .i64 (k0 + 3 * n)) ∧ But g w w' := by
  go_enter Try.func35, Try.ntmps35
  go_wp2
  go_loopw [1, 5] (fun kk i wr => ∃ j : Nat, j ≤ n ∧ i = .int .i64 j ∧ kk = .int .i64 (k0 + 3 * j) ∧ SlabK wr g n vs 0 ∧ But g w wr) (fun _ i _ => n - (intOf i).toNat)
  case atStart => exact ⟨0, by omega, rfl, by go_num, h, But.refl _ _⟩
  case round =>
    obtain ⟨j, hj, rfl, rfl, hS, hB⟩ := hrel
    by_cases hlt : j < n
    · have hltI : (j : Int) < (n : Int) := by omega
      obtain ⟨v0, hv0⟩ := hS.there (j := j * 3) (by omega)
      have hf := hS.free
      have hS1 := hS.set0 (j * 3) (.int .i64 (k0 + 3 * j))
      have hB1 := hB.setCell (j * 3) (.int .i64 (k0 + 3 * j))
      obtain ⟨v1, hv1⟩ := hS1.there (j := j * 3 + 1) (by omega)
      have hf1 := hS1.free
      have hS2 := hS1.set0 (j * 3 + 1) (.int .i64 (k0 + 3 * j + 1))
      have hB2 := hB1.setCell (j * 3 + 1) (.int .i64 (k0 + 3 * j + 1))
      have HS2 : Hid (SlabK _ g n vs 0) := hS2
      clear h hS hB hS1 hB1 hS2
      go_wp2_with fail
      refine (markText_any _ _ (by omega) (by omega)).mono ?_
      rintro e w3 ⟨t, rfl, ht, hb3⟩
      have hS3 := HS2.out.below hb3 HS2.out.lt
      have hB3 := hB2.trans (But.of_below (b := g) hb3)
      obtain ⟨v2, hv2⟩ := hS3.there (j := j * 3 + 2) (by omega)
      have hf3 := hS3.free
      have HS4 : Hid (SlabK (w3.setCell ⟨g, j * 3 + 2, none⟩ (.string t)) g n vs 0) := hS3.set0 _ _
      have hB4 := hB3.setCell (j * 3 + 2) (.string t)
      clear hv0 hv1 hf hf1 HS2 hS3 hB3 hB2 hb3
      go_wp2
      go_roundw
      case rel => exact ⟨j + 1, by omega, by go_num, by go_num, HS4.out, hB4⟩
      case measure => simp [intOf]; omega
    · have e : j = n := by omega
      subst e
      go_wp2
      go_ret
      exact ⟨rfl, hB⟩
end Go.Proofs.Ytfkenogbfbbbjaa
