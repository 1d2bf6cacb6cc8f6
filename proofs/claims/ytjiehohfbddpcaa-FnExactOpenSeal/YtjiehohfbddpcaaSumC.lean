/- The sum of bytes: the program's, by halves of bytes. -/
import Derived.Test.YtjiehohfbddpcaaSumB
import Derived.Deep.WholeRow
namespace Go.Proofs.Ytjiehohfbddpcaa
open Go.RowKit

theorem tab_lt (i : Nat) (h : i < 16) : bitK 4 i < 4294967296 := bitK_lt 4 (by omega)
theorem half_step (x : Nat) (hx : x < 4294967296) : bits .xor .u32 ((x : Int) / 16) (tabI (x % 16)) = ((bitK 4 x : Nat) : Int) := by
  rw [half x]
  exact u32_xor' _ _ (x / 16) (bitK 4 (x % 16)) (by omega) rfl (by omega) (tab_lt _ (Nat.mod_lt _ (by decide)))
theorem low_bits (x : Nat) (hx : x < 4294967296) : bits .and .u32 (x : Int) 15 = ((x % 16 : Nat) : Int) := by
  have := u32_and_nat x 15 hx (by decide)
  rw [nat_mask4] at this
  exact this

theorem tab_one : (tabL.toArray.all fun x => x.oneCell') = true := by
  refine all_oneCell_toArray fun v hv => ?_
  unfold tabL at hv
  obtain ⟨i, _, rfl⟩ := List.mem_map.1 hv
  rfl
theorem tab_at (j : Nat) (hj : j < 16) : tabL.toArray[j]? = some (.int .u32 (tabI j)) := by
  rw [List.getElem?_toArray]
  unfold tabL
  rw [List.getElem?_map, List.getElem?_range hj]
  rfl

set_option maxRecDepth 100000 in
set_option maxHeartbeats 4000000 in
theorem implPageSum_any (a : Option Addr) (c : Nat) (l : List UInt8) (w : World) (h : ReadL w a l) (hn : l.length ≤ 1048576) :
    Calls Try.prog 26 #[.slice a l.length c] w fun e w' => e = .returned (.int .i64 (if 65536 < l.length then 0 else sumL l)) ∧ Below w.heap.size w w' := by
  by_cases hl : 65536 < l.length
  · have hlI : (65536 : Int) < (l.length : Int) := by omega
    rw [if_pos hl]
    clear h
    go_enter Try.func26, Try.ntmps26
    go_wp2
    go_ret
    exact ⟨rfl, Below.refl _ _⟩
  · have hlI : ¬ (65536 : Int) < (l.length : Int) := by omega
    rw [if_neg hl]
    have H : Hid (ReadL w a l) := h
    clear h
    obtain ⟨n, hl'⟩ : ∃ n, l.length = n := ⟨_, rfl⟩
    have HL : Hid (l.length = n) := hl'
    rw [hl'] at hn hlI ⊢
    clear hl' hl
    go_enter Try.func26, Try.ntmps26
    go_wp2_with fail
    refine (halfSums_any w).mono ?_
    rintro e w1 ⟨rfl, hb1⟩
    have HB1 : Hid (Below w.heap.size w w1) := hb1
    clear hb1
    have hst : Sem.run Try.prog (storeCells ⟨w1.heap.size, 0, none⟩ tabL) (w1.alloc (.cells #[.int .u32 0, .int .u32 0, .int .u32 0, .int .u32 0, .int .u32 0, .int .u32 0, .int .u32 0, .int .u32 0, .int .u32 0, .int .u32 0, .int .u32 0, .int .u32 0, .int .u32 0, .int .u32 0, .int .u32 0, .int .u32 0] 49)) = .ok () (w1.alloc (.cells tabL.toArray 49)) := run_storeCells_new (P := Try.prog) w1 49 _ tabL.toArray info49 (by rfl) tab_one
    have HC : Hid (∀ j, j < 16 → (w1.alloc (.cells tabL.toArray 49)).cell? ⟨w1.heap.size, j, none⟩ = some (.int .u32 (tabI j))) := fun j hj => by
      rw [slab_cell (heap_new' _ _ _ rfl)]
      exact tab_at j hj
    have HB : Hid (Below w.heap.size w (w1.alloc (.cells tabL.toArray 49))) := HB1.out.alloc HB1.out.size _
    have hT : tabL.length = 16 := rfl
    generalize tabL = T at *
    obtain ⟨W, hW⟩ : ∃ W, w1.alloc (.cells T.toArray 49) = W := ⟨_, rfl⟩
    rw [hW] at hst HC HB
    clear hW
    go_wp2
    clear hst hT
    have HR : Hid (ReadL W a l) := H.out.below HB.out
    go_loop [4, 6, 13] (fun r _ i => ∃ k : Nat, k ≤ n ∧ i = .int .i64 k ∧ r = .int .u32 (crcL (l.take k))) (fun _ _ i => n - (intOf i).toNat)
    case atStart => exact ⟨0, by omega, rfl, by simp [crcL]⟩
    case round =>
      obtain ⟨k, hk, rfl, rfl⟩ := hrel
      by_cases hlt : k < n
      · obtain ⟨b, off, rfl, hlb, hc⟩ := HR.out k (by rw [HL.out]; exact hlt)
        have hltI : (k : Int) < (n : Int) := by omega
        have HT : Hid (crcL (l.take (k + 1)) = bitK 8 (crcL (l.take k) ^^^ (l.getD k 0).toNat)) := crcL_take l k (by rw [HL.out]; exact hlt)
        have hr := crcL_lt (l.take k)
        have hu : byU l k = (((l.getD k 0).toNat : Nat) : Int) := rfl
        have hu2 := (l.getD k 0).toNat_lt
        rw [hu] at hc
        generalize (l.getD k 0).toNat = u at *
        generalize crcL (l.take k) = r at *
        have hx1 : bits .xor .u32 (r : Int) (u : Int) = ((r ^^^ u : Nat) : Int) := u32_xor_nat r u hr (by omega)
        have hx2 : r ^^^ u < 4294967296 := xor32 hr (by omega)
        generalize r ^^^ u = x at *
        have hx3 := low_bits x hx2
        have hx4 := half_step x hx2
        have hx5 := HC.out (x % 16) (Nat.mod_lt _ (by decide))
        have hx6 : x % 16 < 16 := Nat.mod_lt _ (by decide)
        have hy2 := bitK_lt 4 hx2
        have HY : Hid (bitK 8 x = bitK 4 (bitK 4 x)) := bitK8 x
        generalize bitK 4 x = y at *
        have hy3 := low_bits y hy2
        have hy4 := half_step y hy2
        have hy5 := HC.out (y % 16) (Nat.mod_lt _ (by decide))
        have hy6 : y % 16 < 16 := Nat.mod_lt _ (by decide)
        generalize bitK 4 y = z at *
        generalize tabI (x % 16) = tx at *
        generalize tabI (y % 16) = ty at *
        generalize x % 16 = jx at *
        generalize y % 16 = jy at *
        clear hu
        go_wp2
        go_round
        case rel => exact ⟨k + 1, by omega, by go_num, by rw [HT.out, HY.out]⟩
        case measure => simp [intOf]; omega
      · obtain rfl : k = n := by omega
        have HT : Hid (l.take k = l) := List.take_of_length_le (by rw [HL.out]; exact Nat.le_refl _)
        rw [HT.out]
        have HS : Hid (sumL l = crcL l ^^^ 4294967295) := rfl
        have hr := crcL_lt l
        generalize crcL l = r at *
        go_wp2
        go_ret
        refine ⟨ret_int' ?_, HB.out⟩
        have e : bits .xor .u32 IntKind.u32.max (r : Int) = ((r ^^^ 4294967295 : Nat) : Int) := by
          rw [Nat.xor_comm]
          exact u32_xor' _ _ 4294967295 r (by decide) rfl (by decide) hr
        have h2 : r ^^^ 4294967295 < 4294967296 := xor32 hr (by decide)
        rw [HS.out, e]
        unfold wrap64
        omega
end Go.Proofs.Ytjiehohfbddpcaa
