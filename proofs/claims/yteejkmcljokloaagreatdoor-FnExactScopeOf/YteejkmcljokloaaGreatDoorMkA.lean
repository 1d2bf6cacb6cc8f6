/- All blocks but some stand; marks on numbers and texts (stage 11). -/
import Derived.Test.YteejkmcljokloaaGreatDoorInA
import Derived.Lib.AppendZeros
import Derived.Laws.IdiomStrings
import Derived.Laws.Concat
namespace Go.Proofs.YteejkmcljokloaaGreatDoor
open Go.RowKit

theorem blk_there {w : World} {g o : Nat} {cur : Array Value} {e : TypeId} (h : w.heap[g]? = some (.cells cur e (0, 0))) (ho : o < cur.size) : ∃ v, w.cell? ⟨g, o, none⟩ = some v := ⟨cur[o], by rw [slab_cell h]; exact Array.getElem?_eq_getElem ho⟩
/-- All blocks but those of S stand. -/
structure Kept (S : Nat → Prop) (w w' : World) : Prop where
  os : w'.os = w.os
  tape : w'.tape = w.tape
  output : w'.output = w.output
  size : w.heap.size ≤ w'.heap.size
  block : ∀ k, k < w.heap.size → ¬ S k → w'.heap[k]? = w.heap[k]?

theorem Kept.refl (S : Nat → Prop) (w : World) : Kept S w w := ⟨rfl, rfl, rfl, Nat.le_refl _, fun _ _ _ => rfl⟩

theorem Kept.trans {S : Nat → Prop} {w w1 w2 : World} (h : Kept S w w1) (h' : Kept S w1 w2) : Kept S w w2 :=
  ⟨h'.os.trans h.os, h'.tape.trans h.tape, h'.output.trans h.output, Nat.le_trans h.size h'.size, fun k hk hS => (h'.block k (Nat.lt_of_lt_of_le hk h.size) hS).trans (h.block k hk hS)⟩

theorem Kept.mono {S S' : Nat → Prop} {w w1 : World} (h : Kept S w w1) (hS : ∀ k, S k → S' k) : Kept S' w w1 := ⟨h.os, h.tape, h.output, h.size, fun k hk hn => h.block k hk fun h' => hn (hS k h')⟩

theorem Kept.of_below {S : Nat → Prop} {w w1 : World} (h : Below w.heap.size w w1) : Kept S w w1 := ⟨h.os, h.tape, h.output, h.size, fun k hk _ => h.block k hk⟩

theorem Kept.below {S : Nat → Prop} {B : Nat} {w w1 : World} (h : Kept S w w1) (hB : B ≤ w.heap.size) (hS : ∀ k, S k → B ≤ k) : Below B w w1 :=
  ⟨h.os, h.tape, h.output, h.size, fun k hk => h.block k (by omega) fun h' => by have := hS k h'; omega⟩

theorem Kept.alloc {S : Nat → Prop} {w w1 : World} (h : Kept S w w1) (o : Obj) : Kept S w (w1.alloc o) := h.trans (Kept.of_below ((Below.refl _ _).alloc (Nat.le_refl _) _))

theorem Kept.set {S : Nat → Prop} {w w1 : World} {g o : Nat} (h : Kept S w w1) (v : Value) (hg : S g) : Kept S w (w1.setCell ⟨g, o, none⟩ v) :=
  h.trans ⟨rfl, rfl, rfl, by simp [World.setCell], fun k _ hk => set_other v (fun e => hk (e ▸ hg))⟩

set_option maxRecDepth 100000 in
set_option maxHeartbeats 1000000 in
theorem markI_slab (g n c N : Nat) (cur0 : Array Value) (k : Int) (w : World) (hh : w.heap[g]? = some (.cells cur0 3 (0, 0))) (hN : cur0.size = N) (hn : n ≤ N) (k0 : 0 ≤ k) (k1 : k ≤ 4611686018427387904) (hn2 : n ≤ 1048576) :
    Calls Tryz.prog 57 #[.slice (some ⟨g, 0, none⟩) n c, .int .i64 k] w fun r w' => r = .returned (.int .i64 (k + n)) ∧ (∃ cur, w'.heap[g]? = some (.cells cur 3 (0, 0)) ∧ cur.size = N ∧ ∀ i, i < n → cur[i]? = some (.int .i64 (k + i))) ∧ Kept (fun j => j = g) w w' := by
  have HH : Hid (w.heap[g]? = some (.cells cur0 3 (0, 0))) := hh
  have HN : Hid (cur0.size = N) := hN
  clear hh hN
  go_enter Tryz.func57, Tryz.ntmps57
  go_wp2
  go_loopw [1, 5] (fun m i wr => ∃ j : Nat, j ≤ n ∧ i = .int .i64 j ∧ m = .int .i64 (k + j) ∧ (∃ cur, wr.heap[g]? = some (.cells cur 3 (0, 0)) ∧ cur.size = N ∧ ∀ i, i < j → cur[i]? = some (.int .i64 (k + i))) ∧ Kept (fun j => j = g) w wr) (fun _ i _ => n - (intOf i).toNat)
  case atStart => exact ⟨0, by omega, rfl, by simp, ⟨cur0, HH.out, HN.out, fun i hi => by omega⟩, Kept.refl _ _⟩
  case round =>
    obtain ⟨j, hj, rfl, rfl, ⟨cur, hc, hs, hv⟩, hK⟩ := hrel
    have HC : Hid (wr.heap[g]? = some (.cells cur 3 (0, 0)) ∧ cur.size = N ∧ ∀ i, i < j → cur[i]? = some (.int .i64 (k + i))) := ⟨hc, hs, hv⟩
    clear hc hs hv
    by_cases hlt : j < n
    · obtain ⟨v0, hv0⟩ : ∃ v, wr.cell? ⟨g, j, none⟩ = some v := ⟨cur[j]'(by have := HC.out.2.1; omega), by rw [slab_cell HC.out.1]; exact Array.getElem?_eq_getElem _⟩
      have hf : wr.frozen? ⟨g, j, none⟩ = false := slab_free HC.out.1
      have HNx : Hid (∃ cur', (wr.setCell ⟨g, j, none⟩ (.int .i64 (k + j))).heap[g]? = some (.cells cur' 3 (0, 0)) ∧ cur'.size = N ∧ ∀ i, i < j + 1 → cur'[i]? = some (.int .i64 (k + i))) := by
        refine ⟨_, slab_set HC.out.1 _, by simpa using HC.out.2.1, fun i hi => ?_⟩
        by_cases e : i = j
        · subst e
          rw [Array.getElem?_setIfInBounds_self_of_lt (by have := HC.out.2.1; omega)]
        · rw [Array.getElem?_setIfInBounds_ne (by omega)]; exact HC.out.2.2 i (by omega)
      go_wp2
      go_roundw
      case rel => exact ⟨j + 1, by omega, by go_num, by go_num, HNx.out, hK.set _ rfl⟩
      case measure => simp [intOf]; omega
    · obtain rfl : j = n := by omega
      go_wp2
      go_ret
      exact ⟨rfl, ⟨cur, HC.out⟩, hK⟩

/-- Digits of q ahead of t. -/
def digs (q : Nat) (t : ByteArray) : ByteArray := if _h : q = 0 then t else digs (q / 10) (⟨#[UInt8.ofNat (48 + q % 10)]⟩ ++ t)
termination_by q
decreasing_by omega

/-- The text of mark k. -/
def mtx (k : Int) : ByteArray := if k ≤ 0 then ⟨#[109, 48]⟩ else ⟨#[109]⟩ ++ digs k.toNat ⟨#[]⟩

set_option maxRecDepth 100000 in
theorem markText_any (k : Int) (w : World) (h0 : 0 ≤ k) (h1 : k ≤ 4611686018427387904) :
    Calls Tryz.prog 33 #[.int .i64 k] w fun e w' => e = .returned (.string (mtx k)) ∧ (mtx k).size ≤ maxLen ∧ Below w.heap.size w w' := by
  by_cases hk : k ≤ 0
  · have HM : Hid (mtx k = ⟨#[109, 48]⟩) := if_pos hk
    go_enter Tryz.func33, Tryz.ntmps33
    go_wp2
    go_ret
    rw [HM.out]
    exact ⟨rfl, by decide, Below.refl _ _⟩
  · have HM : Hid (mtx k = ⟨#[109]⟩ ++ digs k.toNat ⟨#[]⟩) := if_neg hk
    go_enter Tryz.func33, Tryz.ntmps33
    go_wp2
    go_loopw [0, 3] (fun kk o wr => ∃ (q : Int) (t : ByteArray), kk = .int .i64 q ∧ o = .string t ∧ 0 ≤ q ∧ q ≤ 4611686018427387904 ∧ t.size + q.toNat ≤ 4611686018427387904 ∧ Hid (digs q.toNat t = digs k.toNat ⟨#[]⟩) ∧ Below w.heap.size w wr) (fun kk _ _ => (intOf kk).toNat)
    case atStart => exact ⟨k, ⟨#[]⟩, rfl, rfl, h0, h1, by show 0 + _ ≤ _; omega, rfl, Below.refl _ _⟩
    case round =>
      obtain ⟨q, t, rfl, rfl, q0, q1, hs, HD, hbl⟩ := hrel
      by_cases hq : 0 < q
      · obtain ⟨b, hb, hb'⟩ : ∃ b : UInt8, (b.toNat : Int) = 48 + q % 10 ∧ b = UInt8.ofNat (48 + q.toNat % 10) := ⟨UInt8.ofNat (48 + q.toNat % 10), by simp; omega, rfl⟩
        have hcv := run_convert_bytes_back (P := Tryz.prog) (wr.alloc (.cells #[.int .u8 (48 + q % 10)] 5)) 99 9 5 ⟨wr.heap.size, 0, none⟩ 1 [b] Tryz.underlying99 Tryz.underlying5 Tryz.underlying9 (fun j hj => by
          have : j = 0 := by simpa using hj
          subst this
          rw [add_plain, ← hb]
          exact World.cell?_alloc_at _ _ _ _ rfl)
        have hcv' : Sem.run Tryz.prog (convert 99 9 (.slice (some ⟨wr.heap.size, 0, none⟩) 1 1)) (wr.alloc (.cells #[.int .u8 (48 + q % 10)] 5)) = .ok (.string ⟨#[b]⟩) (wr.alloc (.cells #[.int .u8 (48 + q % 10)] 5)) := hcv
        have hsz : (⟨#[b]⟩ : ByteArray).size = 1 := rfl
        have hadd := fun wx => run_string_add_sum (P := Tryz.prog) (w := wx) ⟨#[b]⟩ t (by rw [hsz]; omega)
        have hB := hbl.alloc hbl.size (.cells #[.int .u8 (48 + q % 10)] 5)
        have HS : Hid ((⟨#[b]⟩ ++ t : ByteArray).size + (q / 10).toNat ≤ 4611686018427387904) := by show _ ≤ _; rw [ByteArray.size_append, hsz]; omega
        have HD2 : Hid (digs (q / 10).toNat (⟨#[b]⟩ ++ t) = digs k.toNat ⟨#[]⟩) := by
          show _ = _
          rw [← HD.out, hb']
          conv => rhs; unfold digs
          rw [dif_neg (by omega)]
          congr 1
          omega
        clear hcv hb hb' hbl hs hsz HD
        go_wp2
        go_roundw
        case rel => exact ⟨q / 10, _, by go_num, rfl, by omega, by omega, HS.out, HD2, hB⟩
        case measure => simp [intOf]; omega
      · have HS : Hid ((⟨#[109]⟩ ++ t : ByteArray).size ≤ maxLen) := by show _ ≤ _; rw [ByteArray.size_append]; unfold maxLen; show 1 + _ ≤ _; omega
        have HE : Hid (mtx k = ⟨#[109]⟩ ++ t) := by
          show _ = _
          rw [HM.out, ← HD.out]
          unfold digs
          rw [dif_pos (by omega)]
        clear HD HM
        go_wp2
        go_ret
        rw [HE.out]
        exact ⟨rfl, HS.out, hbl⟩

end Go.Proofs.YteejkmcljokloaaGreatDoor
