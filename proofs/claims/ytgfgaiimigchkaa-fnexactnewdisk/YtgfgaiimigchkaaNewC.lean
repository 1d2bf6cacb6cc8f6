/- A blank sector, and slices.Repeat of one. -/
import Derived.Test.YtgfgaiimigchkaaNewB
import Derived.Test.YtgfgaiimigchkaaShelf
import Derived.Laws.CopyOwn
import Derived.Deep.RegionLaw
namespace Go.Proofs.Ytgfgaiimigchkaa
open Go.RowKit

/-- 32 noughts. -/
def blank : ByteArray := ⟨(List.replicate 32 (0 : UInt8)).toArray⟩
theorem info5 : (Try.prog.info? 5).map (fun i => (i.zero, i.size, i.bytes)) = some (some (.int .u8 0), 1, 1) := by kernel_rfl
theorem info9 : (Try.prog.info? 9).map (fun i => (i.zero, i.size, i.bytes)) = some (some (.string ⟨#[]⟩), 1, 16) := by kernel_rfl
theorem size9 : (Try.prog.info? 9).map (·.size) = some 1 := by kernel_rfl
theorem made32 : (madeCells #[Value.int .u8 0] 32).toList = List.replicate 32 (.int .u8 0) := by
  apply List.ext_getElem
  · simp [madeCells]
  · intro i h1 h2
    rw [List.getElem_replicate]
    simp [madeCells, Nat.mod_one]

set_option maxRecDepth 100000 in
theorem l02Blank_any (w : World) : Calls Try.prog 10 #[] w fun e w' => e = .returned (.string blank) ∧ Below w.heap.size w w' := by
  obtain ⟨i0, hi, hz0, hz1, hz2⟩ := info_parts info5
  go_enter Try.func10, Try.ntmps10
  go_wp2_with (at_make; refine wpList_make_full _ rfl _ _ 39 rfl w.heap.size 5 i0 _ 1 Try.underlying39 hi hz0 hz1 .i64 .i64 _ _ 32 rfl rfl rfl rfl ?m1 ?m2 (Nat.le_refl _) ?_)
  case m1 => rw [hz2]; omega
  case m2 => unfold maxLen; omega
  intro w1 hown hgr
  have hB1 : Below w.heap.size w w1 := (Below.refl _ _).grown hgr (Nat.le_refl _) (fun k hk => by cases hk)
  rw [made32] at hown
  have hcells : ∀ j (hj : j < (List.replicate 32 (0 : UInt8)).length), w1.cell? ((⟨w.heap.size, 0, none⟩ : Addr).add j) = some (.int .u8 (((List.replicate 32 (0 : UInt8))[j].toNat : Nat) : Int)) := by
    intro j hj
    rw [List.length_replicate] at hj
    rcases hown.2 with ⟨h, _⟩ | ⟨g, c, cur, h, _, hh, _, _, hcs, htk⟩
    · cases h
    · cases h
      rw [add_plain, slab_cell hh, Nat.zero_add, ← Array.getElem?_toList]
      have : cur.toList[j]? = (List.replicate 32 (Value.int .u8 0))[j]? := by rw [← htk, List.getElem?_take, if_pos (by omega)]
      rw [this, List.getElem?_replicate, if_pos hj, List.getElem_replicate]
      rfl
  have hcv := run_convert_bytes_back (P := Try.prog) w1 39 9 5 ⟨w.heap.size, 0, none⟩ 32 (List.replicate 32 (0 : UInt8)) Try.underlying39 Try.underlying5 Try.underlying9 hcells
  have hcv' : Sem.run Try.prog (convert 39 9 (.slice (some ⟨w.heap.size, 0, none⟩) 32 32)) w1 = .ok (.string blank) w1 := hcv
  clear hcells hcv hown hgr hi hz0 hz1 hz2
  obtain ⟨bl, hbl⟩ : ∃ bl, blank = bl := ⟨_, rfl⟩
  have HB : Hid (bl = blank) := hbl.symm
  rw [hbl] at hcv'
  clear hbl
  go_wp2
  go_ret
  exact ⟨ret_val (congrArg Value.string HB.out), hB1⟩

theorem mul1 (n : Nat) (hn : n ≤ 256) (w : World) : Calls Try.prog 19 #[.int .u64 1, .int .u64 n] w fun e w' => e = .returned (.tuple #[.int .u64 0, .int .u64 n]) ∧ w' = w := by
  refine (Try.bits_Mul 1 n (by omega) (by omega) w).mono ?_
  rintro e w' ⟨rfl, rfl⟩
  have h1 : 1 * n / 18446744073709551616 = 0 := by omega
  have h2 : 1 * n % 18446744073709551616 = n := by omega
  exact ⟨by rw [h1, h2]; rfl, rfl⟩

/-- A list of n texts in block g, of which the first k are z. -/
def RepK (w : World) (g n : Nat) (z : ByteArray) (k : Nat) : Prop := ∃ rest : List Value, k + rest.length = n ∧ w.heap[g]? = some (.cells (List.replicate k (Value.string z) ++ rest).toArray 9 (0, 0))

theorem wrap_small {x : Int} (h : 0 ≤ x ∧ x ≤ 1000000) : IntKind.i64.wrap x = x := by
  simp [IntKind.wrap, IntKind.bits, IntKind.signed]; omega
theorem splice_rep (k m : Nat) (z : Value) (rest : List Value) : splice (List.replicate k z ++ rest) k (List.replicate m z) = List.replicate (k + m) z ++ rest.drop m := by
  unfold splice
  rw [List.length_replicate, List.take_left' (List.length_replicate), ← List.append_assoc, List.replicate_append_replicate]
  congr 1
  rw [List.drop_append]
  simp

set_option maxRecDepth 100000 in
set_option maxHeartbeats 1000000 in
theorem repeat_any (b n : Nat) (z : ByteArray) (w : World) (hc : w.cell? ⟨b, 0, none⟩ = some (.string z)) (h1 : 1 ≤ n) (h2 : n ≤ 256) :
    Calls Try.prog 11 #[.slice (some ⟨b, 0, none⟩) (1 : Nat) 1, .int .i64 n] w fun e w' => ∃ g, e = .returned (.slice (some ⟨g, 0, none⟩) n n) ∧ w.heap.size ≤ g ∧ SlabT w' g (fun _ => z) n ∧ Below w.heap.size w w' := by
  obtain ⟨i0, hi, hz0, hz1, hz2⟩ := info_parts info9
  have hbl := World.block_lt_of_cell? w ⟨b, 0, none⟩ hc
  go_enter Try.func11, Try.ntmps11
  go_wp2_with fail
  refine (mul1 n h2 _).mono ?_
  rintro e w0 ⟨rfl, hw⟩
  rw [hw]
  clear hw w0
  go_wp2_with (at_make; go_loud (refine wpList_make_full _ rfl _ _ 22 rfl w.heap.size 9 i0 _ 1 Try.underlying22 hi hz0 hz1 .i64 .i64 _ _ n rfl rfl rfl rfl ?m1 ?m2 (Nat.le_refl _) ?_))
  case m1 => rw [hz2]; omega
  case m2 => unfold maxLen; omega
  intro w1 hown hgr
  have hB1 : Below w.heap.size w w1 := (Below.refl _ _).grown hgr (Nat.le_refl _) (fun k hk => by cases hk)
  have hcur : ∃ cur : List Value, cur.length = n ∧ w1.heap[w.heap.size]? = some (.cells cur.toArray 9 (0, 0)) := by
    rcases hown.2 with ⟨h, _⟩ | ⟨g, c, cur, h, _, hh, _, _, hcs, _⟩
    · cases h
    · cases h
      exact ⟨cur.toList, by simpa using hcs, by simpa using hh⟩
  obtain ⟨cur, hcl, hg⟩ := hcur
  have hc1 := (hB1.cell (p := ⟨b, 0, none⟩) hbl).trans hc
  clear hown hgr hi hz0 hz1 hz2 hc hbl
  have hrun := run_copy_row (P := Try.prog) w1 22 22 3 9 w.heap.size 0 n n ⟨b, 0, none⟩ 1 1 cur.toArray 9 [.string z] Try.underlying22 size9 hg (Nat.min_eq_left h1).symm (fun j v hj => by
    match j, hj with
    | 0, hj => simp at hj; subst hj; exact hc1) (by simp; omega) (fun v hv => by simp at hv; subst hv; rfl)
  obtain ⟨w2, hw2⟩ : ∃ w2, w2 = w1.setRow w.heap.size (cur.toArray.toList.take 0 ++ [Value.string z] ++ cur.toArray.toList.drop (0 + [Value.string z].length)).toArray := ⟨_, rfl⟩
  rw [← hw2] at hrun
  have hg2 : w2.heap[w.heap.size]? = some (.cells (List.replicate 1 (Value.string z) ++ cur.drop 1).toArray 9 (0, 0)) := by
    rw [hw2, setRow_heap w1 _ _ _ 9 _ hg]; simp
  have hB2 : Below w.heap.size w w2 := by rw [hw2]; exact below_setRow hB1 (Nat.le_refl _) _
  have hR : RepK w2 w.heap.size n z 1 := ⟨cur.drop 1, by rw [List.length_drop]; omega, hg2⟩
  have hrun' : Sem.run Try.prog (Builtin.copy_ #[22, 22] 3 #[.slice (some ⟨w.heap.size, 0, none⟩) n n, .slice (some ⟨b, 0, none⟩) 1 1]) w1 = .ok (.int .i64 1) w2 := hrun
  clear hg2 hg hc1 hB1 hcl hw2 hrun
  go_wp2
  go_loopw [8] (fun i wr => ∃ k : Nat, 1 ≤ k ∧ k ≤ n ∧ i = .int .i64 k ∧ RepK wr w.heap.size n z k ∧ Below w.heap.size w wr) (fun i _ => n - (intOf i).toNat)
  case atStart => exact ⟨1, by omega, h1, rfl, hR, hB2⟩
  case round =>
    clear hR hB2 hrun'
    obtain ⟨k, hk1, hk, rfl, ⟨rest, hrl, hh⟩, hbl⟩ := hrel
    by_cases hlt : k < n
    · have hltI : (k : Int) < (n : Int) := by omega
      have hkI : (k : Int) ≤ (n : Int) := by omega
      obtain ⟨m, hm⟩ : ∃ m, m = Nat.min k (n - k) := ⟨_, rfl⟩
      have hm0 : Hid (m = Nat.min k (n - k)) := hm
      have hm1 : 1 ≤ m ∧ k + m ≤ n := by rw [hm]; rcases Nat.le_total k (n - k) with h | h <;> simp [Nat.min_eq_left, Nat.min_eq_right, h] <;> omega
      have hmm : (List.replicate m (Value.string z)).length = Nat.min k (n - k) := by rw [List.length_replicate, hm]
      have hfit : k + (List.replicate m (Value.string z)).length ≤ (List.replicate k (Value.string z) ++ rest).length := by rw [List.length_append, List.length_replicate, List.length_replicate]; omega
      have one1 : ∀ v ∈ List.replicate m (Value.string z), v.oneCell' = true := fun v hv => by rw [List.eq_of_mem_replicate hv]; rfl
      have HSrc : Hid (∀ j v, (List.replicate m (Value.string z))[j]? = some v → wr.drew.cell? ((⟨w.heap.size, 0, none⟩ : Addr).add j) = some v) := fun j v hj => by
        rw [List.getElem?_replicate] at hj
        split at hj
        · rename_i hjm
          cases hj
          have hjk : j < k := by
            have : m ≤ k := by rw [hm]; exact Nat.min_le_left _ _
            omega
          rw [add_plain, Nat.zero_add]
          show wr.cell? _ = _
          rw [slab_cell hh]
          simp [List.getElem?_append, hjk]
        · cases hj
      have hSz : w.heap.size < wr.heap.size := slab_lt hh
      go_wp2_with fail
      go_region_held3 (fun w' => w.heap.size < w'.heap.size) (first | exact hSz | exact slab_lt hg4.out)
        (first | (refine step_copy_splice (w := wr.drew) (by rfl) (.tmp 41) (.tmp 44) 22 22 (by rfl) 9 Try.underlying22 size9 (if n = k then some ⟨w.heap.size, 0, none⟩ else some ⟨w.heap.size, k, none⟩) (some ⟨w.heap.size, 0, none⟩) (n - k) (n - k) k n (by rfl) (by rfl) w.heap.size k (List.replicate k (Value.string z) ++ rest) 9 hh (List.replicate m (Value.string z)) hmm (fun _ => ⟨if_neg (by omega), ⟨w.heap.size, 0, none⟩, rfl, HSrc.out⟩) hfit one1 w.heap.size w hbl.drew (Nat.le_refl _) ?_; intro w4 hg4 hb4))
      have HR : Hid (RepK w4 w.heap.size n z (k + m)) := by
        refine ⟨rest.drop m, by rw [List.length_drop]; omega, ?_⟩
        rw [hg4.out, splice_rep]
      clear hg4 hSz hh hbl HSrc hfit one1 hmm
      have HM : Hid (IntKind.i64.wrap ((k : Int) + (Nat.min k (n - k) : Nat)) = ((k + m : Nat) : Int)) := by
        show _ = _
        rw [← hm0.out]
        exact wrap_small (by omega)
      go_wp2
      go_roundw
      case rel => exact ⟨k + m, by omega, hm1.2, congrArg (Value.int .i64) HM.out, HR.out, hb4⟩
      case measure =>
        show n - (intOf (.int .i64 (IntKind.i64.wrap _))).toNat < n - (intOf (.int .i64 (k : Int))).toNat
        rw [HM.out]
        simp [intOf]
        omega
    · obtain rfl : k = n := by omega
      have HS : Hid (SlabT wr w.heap.size (fun _ => z) k) := ⟨_, hh, fun j hj => by simp [List.getElem?_append, hj]⟩
      clear hh
      go_wp2
      go_ret
      exact ⟨w.heap.size, rfl, Nat.le_refl _, HS.out, hbl⟩
end Go.Proofs.Ytgfgaiimigchkaa
