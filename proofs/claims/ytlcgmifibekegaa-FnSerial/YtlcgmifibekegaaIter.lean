/- The keys of a map, sorted: the library's contracts of maps.Keys and slices.Sorted, laid at this program's own numbers. -/
import Derived.Shelf.SlIter.Nil
import Derived.Shelf.SortM.Plain
import Derived.Shelf.SortM.SortNone
import Derived.Ground.GgzProg
import Derived.Ground.SlgmProg
import Derived.Test.YtlcgmifibekegaaProg
namespace Go.Proofs
open Go.Shelf
def Try.keys115_ren : Go.Shelf.Ren := ⟨fun | 7 => 115 | 10 => 138 | n => n, fun | 23 => 110 | 26 => 9 | 3 => 112 | 28 => 163 | 0 => 0 | 27 => 162 | 33 => 132 | 4 => 4 | n => n, fun | n => n⟩
theorem Try.keys115 : Go.Proofs.SlLaysZ.n7 Try.prog Try.keys115_ren := {
  mixed := by kernel_rfl
  f7 := ⟨Try.f115.name, by decide, Try.func115.trans (congrArg some (by kernel_rfl))⟩
  f10 := ⟨Try.f138.name, by decide, Try.func138.trans (congrArg some (by kernel_rfl))⟩
  t0 := Try.underlying0
  a0 := Try.isAgg0
  z0 := Try.sizeOf0
  v0 := Try.zeroValue0
  t4 := Try.underlying4
  a4 := Try.isAgg4
  z4 := Try.sizeOf4
  v4 := Try.zeroValue4
  t23 := Try.underlying110
  a23 := Try.isAgg110
  z23 := Try.sizeOf110
  v23 := Try.zeroValue110
  t26 := Try.underlying9
  a26 := Try.isAgg9
  z26 := Try.sizeOf9
  v26 := Try.zeroValue9
  t27 := Try.underlying162
  a27 := Try.isAgg162
  z27 := Try.sizeOf162
  v27 := Try.zeroValue162
  t28 := Try.underlying163
  a28 := Try.isAgg163
  z28 := Try.sizeOf163
  v28 := Try.zeroValue163
  t33 := Try.underlying132
  a33 := Try.isAgg132
  z33 := Try.sizeOf132
  v33 := Try.zeroValue132 }
def Try.sorted114_ren : Go.Shelf.Ren := ⟨fun | 6 => 114 | 8 => 136 | 9 => 137 | 11 => 160 | 13 => 135 | 12 => 161 | 23 => 158 | 24 => 159 | 14 => 175 | 15 => 176 | 16 => 177 | 17 => 178 | 18 => 179 | 19 => 180 | 20 => 181 | 21 => 182 | 22 => 183 | 25 => 187 | 26 => 171 | 27 => 172 | 28 => 188 | 29 => 189 | 30 => 190 | 31 => 193 | n => n, fun | 26 => 9 | 28 => 163 | 24 => 36 | 0 => 0 | 3 => 3 | 37 => 194 | 48 => 217 | 50 => 219 | 4 => 4 | 40 => 211 | 39 => 210 | 45 => 189 | 5 => 5 | 9 => 9 | 51 => 228 | 55 => 232 | 57 => 240 | 58 => 241 | 33 => 132 | n => n, fun | n => n⟩
theorem Try.sorted114 : Go.Proofs.SlLaysZ.n6 Try.prog Try.sorted114_ren := {
  mixed := by kernel_rfl
  f6 := ⟨Try.f114.name, by decide, Try.func114.trans (congrArg some (by kernel_rfl))⟩
  f8 := ⟨Try.f136.name, by decide, Try.func136.trans (congrArg some (by kernel_rfl))⟩
  f11 := ⟨Try.f160.name, by decide, Try.func160.trans (congrArg some (by kernel_rfl))⟩
  t0 := Try.underlying0
  a0 := Try.isAgg0
  z0 := Try.sizeOf0
  v0 := Try.zeroValue0
  t24 := Try.underlying36
  a24 := Try.isAgg36
  z24 := Try.sizeOf36
  v24 := Try.zeroValue36
  t26 := Try.underlying9
  a26 := Try.isAgg9
  z26 := Try.sizeOf9
  v26 := Try.zeroValue9
  t28 := Try.underlying163
  a28 := Try.isAgg163
  z28 := Try.sizeOf163
  v28 := Try.zeroValue163
  i26 := by kernel_rfl }
def Try.sort137_ren : Go.Shelf.Ren := ⟨fun | 6 => 137 | 8 => 135 | 9 => 161 | 19 => 158 | 20 => 159 | 21 => 175 | 22 => 176 | 23 => 177 | 24 => 178 | 25 => 179 | 26 => 180 | 27 => 181 | 28 => 182 | 29 => 183 | 36 => 187 | 31 => 171 | 32 => 172 | 37 => 188 | 38 => 189 | 39 => 190 | 41 => 193 | n => n, fun | 27 => 36 | 29 => 9 | 3 => 3 | 32 => 194 | 26 => 36 | 0 => 0 | 44 => 217 | 46 => 219 | 4 => 4 | 36 => 211 | 35 => 210 | 41 => 189 | 5 => 5 | 9 => 9 | 53 => 228 | 57 => 232 | 63 => 240 | 64 => 241 | n => n, fun | n => n⟩
theorem Try.sort137 : Go.Proofs.SlLaysM.n6 Try.prog Try.sort137_ren := {
  mixed := by kernel_rfl
  f6 := ⟨Try.f137.name, by decide, Try.func137.trans (congrArg some (by kernel_rfl))⟩
  f8 := Try.func135.trans (congrArg some (by kernel_rfl))
  f9 := ⟨Try.f161.name, by decide, Try.func161.trans (congrArg some (by kernel_rfl))⟩
  f19 := Try.func158.trans (congrArg some (by kernel_rfl))
  f20 := Try.func159.trans (congrArg some (by kernel_rfl))
  f21 := ⟨Try.f175.name, by decide, Try.func175.trans (congrArg some (by kernel_rfl))⟩
  f22 := ⟨Try.f176.name, by decide, Try.func176.trans (congrArg some (by kernel_rfl))⟩
  f23 := ⟨Try.f177.name, by decide, Try.func177.trans (congrArg some (by kernel_rfl))⟩
  f24 := ⟨Try.f178.name, by decide, Try.func178.trans (congrArg some (by kernel_rfl))⟩
  f25 := ⟨Try.f179.name, by decide, Try.func179.trans (congrArg some (by kernel_rfl))⟩
  f26 := ⟨Try.f180.name, by decide, Try.func180.trans (congrArg some (by kernel_rfl))⟩
  f27 := ⟨Try.f181.name, by decide, Try.func181.trans (congrArg some (by kernel_rfl))⟩
  f28 := ⟨Try.f182.name, by decide, Try.func182.trans (congrArg some (by kernel_rfl))⟩
  f29 := ⟨Try.f183.name, by decide, Try.func183.trans (congrArg some (by kernel_rfl))⟩
  f31 := Try.func171.trans (congrArg some (by kernel_rfl))
  f32 := Try.func172.trans (congrArg some (by kernel_rfl))
  f36 := ⟨Try.f187.name, by decide, Try.func187.trans (congrArg some (by kernel_rfl))⟩
  f37 := ⟨Try.f188.name, by decide, Try.func188.trans (congrArg some (by kernel_rfl))⟩
  f38 := ⟨Try.f189.name, by decide, Try.func189.trans (congrArg some (by kernel_rfl))⟩
  f39 := ⟨Try.f190.name, by decide, Try.func190.trans (congrArg some (by kernel_rfl))⟩
  f41 := ⟨Try.f193.name, by decide, Try.func193.trans (congrArg some (by kernel_rfl))⟩
  t0 := Try.underlying0
  a0 := Try.isAgg0
  z0 := Try.sizeOf0
  v0 := Try.zeroValue0
  t3 := Try.underlying3
  a3 := Try.isAgg3
  z3 := Try.sizeOf3
  v3 := Try.zeroValue3
  t4 := Try.underlying4
  a4 := Try.isAgg4
  z4 := Try.sizeOf4
  v4 := Try.zeroValue4
  t5 := Try.underlying5
  a5 := Try.isAgg5
  z5 := Try.sizeOf5
  v5 := Try.zeroValue5
  t9 := Try.underlying9
  a9 := Try.isAgg9
  z9 := Try.sizeOf9
  v9 := Try.zeroValue9
  t26 := Try.underlying36
  a26 := Try.isAgg36
  z26 := Try.sizeOf36
  v26 := Try.zeroValue36
  t27 := Try.underlying36
  a27 := Try.isAgg36
  z27 := Try.sizeOf36
  v27 := Try.zeroValue36
  t29 := Try.underlying9
  a29 := Try.isAgg9
  z29 := Try.sizeOf9
  v29 := Try.zeroValue9
  t32 := Try.underlying194
  a32 := Try.isAgg194
  z32 := Try.sizeOf194
  v32 := Try.zeroValue194
  t35 := Try.underlying210
  a35 := Try.isAgg210
  z35 := Try.sizeOf210
  v35 := Try.zeroValue210
  t36 := Try.underlying211
  a36 := Try.isAgg211
  z36 := Try.sizeOf211
  v36 := Try.zeroValue211
  t41 := Try.underlying189
  a41 := Try.isAgg189
  z41 := Try.sizeOf189
  v41 := Try.zeroValue189
  t44 := Try.underlying217
  a44 := Try.isAgg217
  z44 := Try.sizeOf217
  v44 := Try.zeroValue217
  t46 := Try.underlying219
  a46 := Try.isAgg219
  z46 := Try.sizeOf219
  v46 := Try.zeroValue219
  t53 := Try.underlying228
  a53 := Try.isAgg228
  z53 := Try.sizeOf228
  v53 := Try.zeroValue228
  t57 := Try.underlying232
  a57 := Try.isAgg232
  z57 := Try.sizeOf232
  v57 := Try.zeroValue232
  t63 := Try.underlying240
  a63 := Try.isAgg240
  z63 := Try.sizeOf240
  v63 := Try.zeroValue240
  t64 := Try.underlying241
  a64 := Try.isAgg241
  z64 := Try.sizeOf241
  v64 := Try.zeroValue241 }
open Go.RowKit Go.Maps Go.Sort
theorem Try.sorts114 (m : Nat) : AnyZ.SortsIn Try.prog Try.sorted114_ren Fence.wide m :=
  ⟨fun blk off cap ss W hH hblk hsz => callsIn_wide.2 (AnyM.slices_Sort_string Try.sort137 blk off cap ss W hH hblk hsz),
   fun p cap W => callsIn_wide.2 (AnyM.slices_Sort_string_none Try.sort137 p cap W)⟩

theorem Try.maps_Keys_115 (mb : Option Nat) (W : World) : CallsIn Fence.wide 5 Try.prog 115 #[.map mb] W fun e w' => e = .returned (.func (.func 138) #[] #[.pointer (some ⟨W.heap.size, 0, none⟩)]) ∧ w' = W.alloc (.cells #[.map mb] 110) :=
  AnyZ.keys_in Try.keys115 Fence.wide 5 trivial rfl mb W

set_option maxHeartbeats 1000000 in
theorem Try.slices_Sorted_keys_114_115 {H : Type} (b nn : Nat) (D0 : DataW H) (R : Value → Option (DataW H × List MemPlace)) (w : World) (hown : w.ownsMap Try.prog 9 R b nn D0) (hmax : Maps.size D0 ≤ maxLen) (hbytes : Maps.size D0 * 16 ≤ 140737488355328) :
    CallsIn Fence.wide 5 Try.prog 114 #[.func (.func 138) #[] #[.pointer (some ⟨w.heap.size, 0, none⟩)]] (w.alloc (.cells #[.map (some b)] 110)) fun e w' => ∃ (v : Value) (ss : List (List UInt8)), e = .returned v ∧ ss.Perm (strKeys D0) ∧
      w'.ownsRow (w.alloc (.cells #[.map (some b)] 110)).heap.size 9 1 v ss.length ((ss.mergeSort (fun x y => decide (x ≤ y))).map encStr) ∧ (v = .slice none 0 0 ↔ ss = []) ∧ Below (w.alloc (.cells #[.map (some b)] 110)).heap.size (w.alloc (.cells #[.map (some b)] 110)) w' := by
  have hbl := hown.lt
  have hseq : SeqGives Fence.wide 2 Try.prog 138 #[.pointer (some ⟨w.heap.size, 0, none⟩)] encStr (fun ss => ss.Perm (strKeys D0)) (Maps.size D0) (w.alloc (.cells #[.map (some b)] 110)) :=
    AnyZ.keys_gives (ρ := Try.keys115_ren) { Try.keys115 with } Fence.wide _ trivial rfl (by omega) w.heap.size b nn D0 _ (by simp) (by simp) (by
      obtain ⟨es, clock, hb, Ft, hs, hD⟩ := hown
      exact ⟨es, clock, (Below.heap_alloc _ _ b hbl).trans hb, Ft, hs, hD⟩)
  exact AnyZ.sorted_in Try.sorted114 Fence.wide 5 trivial trivial trivial trivial rfl (by omega) (Try.sorts114 _) (enters_of Try.func137 (by kernel_rfl) rfl) 138 #[.pointer (some ⟨w.heap.size, 0, none⟩)] trivial (enters_of Try.func138 (by kernel_rfl) rfl) _ _ hmax hbytes _ hseq

end Go.Proofs
