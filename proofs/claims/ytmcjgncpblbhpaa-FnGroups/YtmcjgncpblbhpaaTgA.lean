/- Rows that are drawn, SameBag of lists, what the laws on sorts and groups call: DrA, DrB, SbN, SbP, SbQ, FsA as one (stage 13). -/
import Derived.Test.YtmcjgncpblbhpaaOrB
import Derived.Test.YtmcjgncpblbhpaaPrC
import Derived.BigQuiet
import Derived.BigRegion
import Derived.Deep.QuietTactic
import Derived.Test.YtmcjgncpblbhpaaPrE
import Derived.Test.YtmcjgncpblbhpaaSbD
import Derived.Test.YtmcjgncpblbhpaaKsE
namespace Go.Proofs.Ytmcjgncpblbhpaa
open Go.RowKit
def In64 (a : Int) : Prop := -9223372036854775808 ≤ a ∧ a ≤ 9223372036854775807
instance (a : Int) : Decidable (In64 a) := inferInstanceAs (Decidable (_ ∧ _))


/-- All old blocks but b are as they were. -/
structure But (b : Nat) (w w' : World) : Prop where
  os : w'.os = w.os
  tape : w'.tape = w.tape
  output : w'.output = w.output
  size : w.heap.size ≤ w'.heap.size
  block : ∀ k, k < w.heap.size → k ≠ b → w'.heap[k]? = w.heap[k]?

theorem But.refl (b : Nat) (w : World) : But b w w := ⟨rfl, rfl, rfl, Nat.le_refl _, fun _ _ _ => rfl⟩
theorem But.drew {b : Nat} {w w' : World} (h : But b w w') : But b w w'.drew := ⟨h.os, h.tape, h.output, h.size, h.block⟩
theorem But.drewN {b : Nat} {w w' : World} (h : But b w w') (n : Nat) : But b w (w'.drewN n) := ⟨h.os, h.tape, h.output, h.size, h.block⟩
theorem But.setCell {b : Nat} {w w' : World} (h : But b w w') (o : Nat) (v : Value) : But b w (w'.setCell ⟨b, o, none⟩ v) :=
  ⟨h.os, h.tape, h.output, by simpa [World.setCell] using h.size, fun k hk hb => (Below.heap_setCell _ _ _ _ hb).trans (h.block k hk hb)⟩
theorem But.trans {b : Nat} {w w1 w2 : World} (h : But b w w1) (h2 : But b w1 w2) : But b w w2 :=
  ⟨h2.os.trans h.os, h2.tape.trans h.tape, h2.output.trans h.output, Nat.le_trans h.size h2.size, fun k hk hb => (h2.block k (Nat.lt_of_lt_of_le hk h.size) hb).trans (h.block k hk hb)⟩

set_option maxRecDepth 100000 in
theorem byte_in (b : Nat) (a : Option Addr) (cb off : Nat) (len cap k : Nat) (c seed : Int) (w : World) (ha : a = some ⟨cb, off, none⟩)
    (hc0 : w.cell? ⟨b, 0, none⟩ = some (.slice a len cap)) (hc1 : w.cell? ⟨b, 1, none⟩ = some (.int .i64 k)) (hc2 : w.cell? ⟨b, 2, none⟩ = some (.int .i64 seed))
    (hf1 : w.frozen? ⟨b, 1, none⟩ = false) (hf2 : w.frozen? ⟨b, 2, none⟩ = false) (hne : cb ≠ b) (hk : k < len) (hlen : len ≤ 4194304) (hs0 : 0 ≤ seed) (hs1 : seed < 2147483648)
    (hcode : w.cell? ⟨cb, off + k, none⟩ = some (.int .u8 c)) (hb0 : 0 ≤ c) (hb1 : c ≤ 255) :
    Calls Try.prog 92 #[.pointer (some ⟨b, 0, none⟩)] w fun e w' => ∃ n s : Int, e = .returned (.int .i64 n) ∧ 0 ≤ n ∧ n ≤ 255 ∧ 0 ≤ s ∧ s < 2147483648 ∧ w'.cell? ⟨b, 0, none⟩ = some (.slice a len cap) ∧ w'.cell? ⟨b, 1, none⟩ = some (.int .i64 (k + 1)) ∧ w'.cell? ⟨b, 2, none⟩ = some (.int .i64 s) ∧ w'.frozen? ⟨b, 1, none⟩ = false ∧ w'.frozen? ⟨b, 2, none⟩ = false ∧ But b w w' := by
  subst ha
  go_enter Try.func92, Try.ntmps92
  go_wp2
  go_quiet (fail)
  go_wp2
  go_region
  go_wp2
  go_quiet (fail)
  go_wp2
  go_ret
  refine ⟨_, (seed * 31 + c + 7) % 2147483648, rfl, hb0, hb1, by omega, by omega, ?_, ?_, ?_, ?_, ?_, ?_⟩
  · go_simp
  · go_simp
  · go_simp
  · go_simp
  · go_simp
  · exact ((((But.refl b w).setCell 1 _).drewN _).setCell 2 _).drewN _

set_option maxRecDepth 100000 in
theorem byte_zero (b : Nat) (a : Option Addr) (len cap k : Nat) (seed : Int) (w : World)
    (hc0 : w.cell? ⟨b, 0, none⟩ = some (.slice a len cap)) (hc1 : w.cell? ⟨b, 1, none⟩ = some (.int .i64 k)) (hc2 : w.cell? ⟨b, 2, none⟩ = some (.int .i64 seed))
    (hf1 : w.frozen? ⟨b, 1, none⟩ = false) (hf2 : w.frozen? ⟨b, 2, none⟩ = false) (hk : len ≤ k) (hlen : k ≤ 4294304) (hs0 : 0 ≤ seed) (hs1 : seed < 2147483648) (hbig : 3000 ≤ k) :
    Calls Try.prog 92 #[.pointer (some ⟨b, 0, none⟩)] w fun e w' => ∃ n s : Int, e = .returned (.int .i64 n) ∧ 0 ≤ n ∧ n ≤ 255 ∧ 0 ≤ s ∧ s < 2147483648 ∧ w'.cell? ⟨b, 0, none⟩ = some (.slice a len cap) ∧ w'.cell? ⟨b, 1, none⟩ = some (.int .i64 (k + 1)) ∧ w'.cell? ⟨b, 2, none⟩ = some (.int .i64 s) ∧ w'.frozen? ⟨b, 1, none⟩ = false ∧ w'.frozen? ⟨b, 2, none⟩ = false ∧ But b w w' := by
  have hd : ¬ ((k : Int) + 1 ≤ (len : Int)) := by omega
  go_enter Try.func92, Try.ntmps92
  go_wp2
  go_quiet (fail)
  go_wp2
  go_ret
  refine ⟨0, seed, rfl, by omega, by omega, hs0, hs1, ?_, ?_, ?_, ?_, ?_, ?_⟩
  · go_simp
  · go_simp
  · go_simp
  · go_simp
  · go_simp
  · exact ((But.refl b w).setCell 1 _).drewN _

set_option maxRecDepth 100000 in
theorem byte_seed (b : Nat) (a : Option Addr) (len cap k : Nat) (seed : Int) (w : World)
    (hc0 : w.cell? ⟨b, 0, none⟩ = some (.slice a len cap)) (hc1 : w.cell? ⟨b, 1, none⟩ = some (.int .i64 k)) (hc2 : w.cell? ⟨b, 2, none⟩ = some (.int .i64 seed))
    (hf1 : w.frozen? ⟨b, 1, none⟩ = false) (hf2 : w.frozen? ⟨b, 2, none⟩ = false) (hk : len ≤ k) (hlen : k ≤ 4294304) (hs0 : 0 ≤ seed) (hs1 : seed < 2147483648) (hbig : k < 3000) :
    Calls Try.prog 92 #[.pointer (some ⟨b, 0, none⟩)] w fun e w' => ∃ n s : Int, e = .returned (.int .i64 n) ∧ 0 ≤ n ∧ n ≤ 255 ∧ 0 ≤ s ∧ s < 2147483648 ∧ w'.cell? ⟨b, 0, none⟩ = some (.slice a len cap) ∧ w'.cell? ⟨b, 1, none⟩ = some (.int .i64 (k + 1)) ∧ w'.cell? ⟨b, 2, none⟩ = some (.int .i64 s) ∧ w'.frozen? ⟨b, 1, none⟩ = false ∧ w'.frozen? ⟨b, 2, none⟩ = false ∧ But b w w' := by
  have hd : ¬ ((k : Int) + 1 ≤ (len : Int)) := by omega
  go_enter Try.func92, Try.ntmps92
  go_wp2
  go_quiet (fail)
  go_wp2
  go_ret
  refine ⟨(seed * 1103515245 + 12345) % 2147483648 / 65536 % 256, (seed * 1103515245 + 12345) % 2147483648, ?_, by omega, by omega, by omega, by omega, ?_, ?_, ?_, ?_, ?_, ?_⟩
  · go_num
  · go_simp
  · go_simp
  · go_simp
  · go_simp
  · go_simp
  · exact (((But.refl b w).setCell 1 _).drewN _).setCell 2 _

/-- A source of choices in block b: its code, a place of at most m, a seed. -/
structure Src (w : World) (b : Nat) (a : Option Addr) (len cap m : Nat) : Prop where
  c0 : w.cell? ⟨b, 0, none⟩ = some (.slice a len cap)
  ks : ∃ (k : Nat) (seed : Int), k ≤ m ∧ w.cell? ⟨b, 1, none⟩ = some (.int .i64 k) ∧ w.cell? ⟨b, 2, none⟩ = some (.int .i64 seed) ∧ 0 ≤ seed ∧ seed < 2147483648
  f1 : w.frozen? ⟨b, 1, none⟩ = false
  f2 : w.frozen? ⟨b, 2, none⟩ = false
  lenle : len ≤ 4194304
  code : ∀ i, i < len → ∃ cb off c, a = some ⟨cb, off, none⟩ ∧ cb ≠ b ∧ cb < w.heap.size ∧ 0 ≤ c ∧ c ≤ 255 ∧ w.cell? ⟨cb, off + i, none⟩ = some (.int .u8 c)

theorem But.cell {b : Nat} {w w' : World} (h : But b w w') {p : Addr} (hp : p.block < w.heap.size) (hb : p.block ≠ b) : w'.cell? p = w.cell? p := World.cell?_of_block (w := w) (h.block p.block hp hb)
theorem But.frozen {b : Nat} {w w' : World} (h : But b w w') {p : Addr} (hp : p.block < w.heap.size) (hb : p.block ≠ b) : w'.frozen? p = w.frozen? p := World.frozen?_of_block (w := w) (h.block p.block hp hb)
theorem But.of_below {b : Nat} {w w' : World} (h : Below w.heap.size w w') : But b w w' := ⟨h.os, h.tape, h.output, h.size, fun k hk _ => h.block k hk⟩
theorem But.below {b B : Nat} {w w1 w2 : World} (h : But b w1 w2) (hb : Below B w w1) (hB : B ≤ b) (hs : B ≤ w1.heap.size) : Below B w w2 :=
  ⟨h.os.trans hb.os, h.tape.trans hb.tape, h.output.trans hb.output, Nat.le_trans hb.size h.size, fun k hk => (h.block k (by omega) (by omega)).trans (hb.block k hk)⟩
theorem Src.lt {w : World} {b : Nat} {a : Option Addr} {len cap m : Nat} (h : Src w b a len cap m) : b < w.heap.size := World.block_lt_of_cell? w ⟨b, 0, none⟩ h.c0
theorem Src.below {w w' : World} {b : Nat} {a : Option Addr} {len cap m : Nat} (h : Src w b a len cap m) (hb : Below w.heap.size w w') : Src w' b a len cap m := by
  have hl := h.lt
  obtain ⟨k, seed, hk, h1, h2, h3, h4⟩ := h.ks
  refine ⟨(hb.cell (p := ⟨b, 0, none⟩) hl).trans h.c0, ⟨k, seed, hk, (hb.cell (p := ⟨b, 1, none⟩) hl).trans h1, (hb.cell (p := ⟨b, 2, none⟩) hl).trans h2, h3, h4⟩, (hb.frozen (p := ⟨b, 1, none⟩) hl).trans h.f1, (hb.frozen (p := ⟨b, 2, none⟩) hl).trans h.f2, h.lenle, fun i hi => ?_⟩
  obtain ⟨cb, off, c, e, hne, hlt, h0, h5, hc⟩ := h.code i hi
  exact ⟨cb, off, c, e, hne, Nat.lt_of_lt_of_le hlt hb.size, h0, h5, (hb.cell (p := ⟨cb, off + i, none⟩) hlt).trans hc⟩
theorem Src.mono {w : World} {b : Nat} {a : Option Addr} {len cap m m' : Nat} (h : Src w b a len cap m) (hm : m ≤ m') : Src w b a len cap m' :=
  ⟨h.c0, by obtain ⟨k, s, hk, r⟩ := h.ks; exact ⟨k, s, by omega, r⟩, h.f1, h.f2, h.lenle, h.code⟩

theorem byte_any {w : World} {b : Nat} {a : Option Addr} {len cap m : Nat} (h : Src w b a len cap m) (hm : m ≤ 100000) :
    Calls Try.prog 92 #[.pointer (some ⟨b, 0, none⟩)] w fun e w' => ∃ n : Int, e = .returned (.int .i64 n) ∧ 0 ≤ n ∧ n ≤ 255 ∧ Src w' b a len cap (m + 1) ∧ But b w w' := by
  obtain ⟨k, seed, hk, h1, h2, h3, h4⟩ := h.ks
  have fin : ∀ (e : Ending) (w' : World), (∃ n s : Int, e = .returned (.int .i64 n) ∧ 0 ≤ n ∧ n ≤ 255 ∧ 0 ≤ s ∧ s < 2147483648 ∧ w'.cell? ⟨b, 0, none⟩ = some (.slice a len cap) ∧ w'.cell? ⟨b, 1, none⟩ = some (.int .i64 (k + 1)) ∧ w'.cell? ⟨b, 2, none⟩ = some (.int .i64 s) ∧ w'.frozen? ⟨b, 1, none⟩ = false ∧ w'.frozen? ⟨b, 2, none⟩ = false ∧ But b w w') →
      ∃ n : Int, e = .returned (.int .i64 n) ∧ 0 ≤ n ∧ n ≤ 255 ∧ Src w' b a len cap (m + 1) ∧ But b w w' := by
    rintro e w' ⟨n, s, he, n0, n1, s0, s1, c0, c1, c2, f1, f2, hb⟩
    refine ⟨n, he, n0, n1, ⟨c0, ⟨k + 1, s, by omega, by simpa using c1, c2, s0, s1⟩, f1, f2, h.lenle, fun i hi => ?_⟩, hb⟩
    obtain ⟨cb, off, c, e, hne, hlt, h0, h5, hc⟩ := h.code i hi
    exact ⟨cb, off, c, e, hne, Nat.lt_of_lt_of_le hlt hb.size, h0, h5, (hb.cell (p := ⟨cb, off + i, none⟩) hlt hne).trans hc⟩
  by_cases hin : k < len
  · obtain ⟨cb, off, c, e, hne, hlt, h0, h5, hc⟩ := h.code k hin
    exact (byte_in b a cb off len cap k c seed w e h.c0 h1 h2 h.f1 h.f2 hne hin h.lenle h3 h4 hc h0 h5).mono fun e w' => fin e w'
  · by_cases hbig : 3000 ≤ k
    · exact (byte_zero b a len cap k seed w h.c0 h1 h2 h.f1 h.f2 (by omega) (by omega) h3 h4 hbig).mono fun e w' => fin e w'
    · exact (byte_seed b a len cap k seed w h.c0 h1 h2 h.f1 h.f2 (by omega) (by omega) h3 h4 (by omega)).mono fun e w' => fin e w'

theorem next_any {w : World} {b : Nat} {a : Option Addr} {len cap m : Nat} (n : Int) (h : Src w b a len cap m) (hm : m ≤ 100000) (h1 : 1 < n) (h2 : n ≤ 256) :
    Calls Try.prog 67 #[.pointer (some ⟨b, 0, none⟩), .int .i64 n] w fun e w' => ∃ r : Int, e = .returned (.int .i64 r) ∧ 0 ≤ r ∧ r < n ∧ Src w' b a len cap (m + 1) ∧ But b w w' := by
  go_enter Try.func67, Try.ntmps67
  go_wp2_with fail
  refine (byte_any h hm).mono ?_
  rintro e w1 ⟨r, rfl, r0, r1, hs, hb⟩
  go_wp2
  go_ret
  exact ⟨r % n, by go_num, Int.emod_nonneg _ (by omega), Int.emod_lt_of_pos _ (by omega), hs, hb⟩


/-- A block that holds numbers alone. -/
theorem int_at {b : Nat} {w w1 : World} {C : Array Value} {ty : TypeId} {i : Nat} (hB : But b (w.alloc (.cells C ty)) w1) (hb : b < w.heap.size) (hC : ∀ x ∈ C, ∃ v : Int, x = .int .i64 v ∧ In64 v) (hi : i < C.size) :
    ∃ v : Int, w1.cell? ⟨w.heap.size, i, none⟩ = some (.int .i64 v) ∧ In64 v := by
  obtain ⟨v, hv, hi64⟩ := hC C[i] (Array.getElem_mem hi)
  refine ⟨v, ?_, hi64⟩
  rw [hB.cell (p := ⟨w.heap.size, i, none⟩) (by simp) (by simp; omega), World.cell?_alloc_at _ _ _ _ rfl, Array.getElem?_eq_getElem hi, hv]

/-- A new block that holds short texts alone. -/
theorem str_at {w : World} {C : Array Value} {ty : TypeId} {i : Nat} (hC : ∀ x ∈ C, ∃ t : ByteArray, x = .string t ∧ t.size ≤ 8) (hi : i < C.size) :
    ∃ t : ByteArray, (w.alloc (.cells C ty)).cell? ⟨w.heap.size, i, none⟩ = some (.string t) ∧ t.size ≤ 8 := by
  obtain ⟨t, hv, ht⟩ := hC C[i] (Array.getElem_mem hi)
  exact ⟨t, by rw [World.cell?_alloc_at _ _ _ _ rfl, Array.getElem?_eq_getElem hi, hv], ht⟩

theorem odd_any {w : World} {b : Nat} {a : Option Addr} {len cap m : Nat} (h : Src w b a len cap m) (hm : m ≤ 100000) :
    Calls Try.prog 93 #[.pointer (some ⟨b, 0, none⟩)] w fun e w' => ∃ r : Int, e = .returned (.int .i64 r) ∧ In64 r ∧ Src w' b a len cap (m + 1) ∧ But b w w' := by
  have hl := h.lt
  go_enter Try.func93, Try.ntmps93
  go_wp2_with fail
  refine (next_any 12 (h.below ((Below.refl _ _).alloc (Nat.le_refl _) _)) hm (by omega) (by omega)).mono ?_
  rintro e w1 ⟨r, rfl, r0, r1, hs, hb⟩
  obtain ⟨k, rfl⟩ := Int.eq_ofNat_of_zero_le r0
  obtain ⟨v, hv, hvi⟩ := int_at (i := k) hb hl (by intro x hx; simp at hx; rcases hx with rfl | rfl | rfl | rfl | rfl | rfl | rfl | rfl | rfl | rfl | rfl | rfl <;> exact ⟨_, rfl, by decide⟩) (by simp; omega)
  have HV : Hid (In64 v) := hvi
  clear hvi
  have hB := (But.of_below (b := b) ((Below.refl w.heap.size w).alloc (Nat.le_refl _) _)).trans hb
  clear h
  go_wp2
  go_ret
  exact ⟨v, rfl, HV.out, hs, hB⟩

theorem pick_any {w : World} {b : Nat} {a : Option Addr} {len cap m : Nat} (h : Src w b a len cap m) (hm : m ≤ 100000) (sb n : Nat) (h1 : 1 < n) (h2 : n ≤ 256) (hne : sb ≠ b) (hlt : sb < w.heap.size)
    (hstr : ∀ i, i < n → ∃ t : ByteArray, w.cell? ⟨sb, i, none⟩ = some (.string t) ∧ t.size ≤ 8) :
    Calls Try.prog 107 #[.pointer (some ⟨b, 0, none⟩), .slice (some ⟨sb, 0, none⟩) n n] w fun e w' => ∃ t : ByteArray, e = .returned (.string t) ∧ t.size ≤ 8 ∧ Src w' b a len cap (m + 1) ∧ But b w w' := by
  have hz : ((n : Int) == 0) = false := beq_eq_false_iff_ne.2 (by omega)
  have HS : Hid (∀ i, i < n → ∃ t : ByteArray, w.cell? ⟨sb, i, none⟩ = some (.string t) ∧ t.size ≤ 8) := hstr
  clear hstr
  go_enter Try.func107, Try.ntmps107
  go_wp2_with fail
  refine (next_any (n : Int) h hm (by omega) (by omega)).mono ?_
  rintro e w1 ⟨r, rfl, r0, r1, hs, hb⟩
  obtain ⟨k, rfl⟩ := Int.eq_ofNat_of_zero_le r0
  obtain ⟨t, hv, ht⟩ := HS.out k (by omega)
  have hc : w1.cell? ⟨sb, k, none⟩ = some (.string t) := (hb.cell (p := ⟨sb, k, none⟩) hlt hne).trans hv
  clear h
  go_wp2
  go_ret
  exact ⟨t, rfl, ht, hs, hb⟩

theorem word_any {w : World} {b : Nat} {a : Option Addr} {len cap m : Nat} (h : Src w b a len cap m) (hm : m ≤ 100000) :
    Calls Try.prog 94 #[.pointer (some ⟨b, 0, none⟩)] w fun e w' => ∃ t : ByteArray, e = .returned (.string t) ∧ t.size ≤ 8 ∧ Src w' b a len cap (m + 1) ∧ But b w w' := by
  have hl := h.lt
  go_enter Try.func94, Try.ntmps94
  go_wp2_with fail
  refine (pick_any (h.below ((Below.refl _ _).alloc (Nat.le_refl _) _)) hm w.heap.size 10 (by omega) (by omega) (by omega) (by simp) ?_).mono ?_
  · exact fun i hi => str_at (by intro x hx; simp at hx; rcases hx with rfl | rfl | rfl | rfl | rfl | rfl | rfl | rfl | rfl | rfl <;> exact ⟨_, rfl, by decide⟩) (by simpa using hi)
  rintro e w1 ⟨t, rfl, ht, hs, hb⟩
  have hB := (But.of_below (b := b) ((Below.refl w.heap.size w).alloc (Nat.le_refl _) _)).trans hb
  go_wp2
  go_ret
  exact ⟨t, rfl, ht, hs, hB⟩

theorem okV_null : okV 0 0 ⟨#[]⟩ = true := by simp [okV, ByteArray.toList_eq]
theorem okV_bool (r : Int) (h0 : 0 ≤ r) (h1 : r < 2) : okV 1 r ⟨#[]⟩ = true := by
  have h : inB r 0 1 = true := decide_eq_true ⟨h0, by omega⟩
  simp [okV, ByteArray.toList_eq, h]
theorem okV_int (r : Int) : okV 2 r ⟨#[]⟩ = true := by simp [okV, ByteArray.toList_eq]
theorem okV_text (t : ByteArray) (h : t.size ≤ 8) : okV 3 0 t = true := by simp [okV]; omega
theorem okV_bytes (t : ByteArray) (h : t.size ≤ 8) : okV 4 0 t = true := by simp [okV]; omega

/-- A store into the result's block, which lies behind w. -/
theorem But.res {b : Nat} {w w1 : World} (h : But b w w1) (o : Nat) (v : Value) : But b w (w1.setCell ⟨w.heap.size, o, none⟩ v) :=
  ⟨h.os, h.tape, h.output, by simpa [World.setCell] using h.size, fun k hk hkb => (Below.heap_setCell _ _ _ _ (by simp; omega)).trans (h.block k hk hkb)⟩
theorem Src.res {w w1 : World} {b : Nat} {a : Option Addr} {len cap m : Nat} (h : Src w1 b a len cap m) (hb : b < w.heap.size) (o : Nat) (v : Value) (hcode : 0 < len → ∀ x, a = some x → x.block < w.heap.size) : Src (w1.setCell ⟨w.heap.size, o, none⟩ v) b a len cap m := by
  obtain ⟨k, seed, hk, h1, h2, h3, h4⟩ := h.ks
  have hc : ∀ p : Addr, p.block ≠ w.heap.size → (w1.setCell ⟨w.heap.size, o, none⟩ v).cell? p = w1.cell? p := fun p hp => World.cell?_of_block (Below.heap_setCell _ _ _ _ hp)
  have hf : ∀ p : Addr, p.block ≠ w.heap.size → (w1.setCell ⟨w.heap.size, o, none⟩ v).frozen? p = w1.frozen? p := fun p hp => World.frozen?_of_block (Below.heap_setCell _ _ _ _ hp)
  refine ⟨(hc ⟨b, 0, none⟩ (by simp; omega)).trans h.c0, ⟨k, seed, hk, (hc ⟨b, 1, none⟩ (by simp; omega)).trans h1, (hc ⟨b, 2, none⟩ (by simp; omega)).trans h2, h3, h4⟩, (hf ⟨b, 1, none⟩ (by simp; omega)).trans h.f1, (hf ⟨b, 2, none⟩ (by simp; omega)).trans h.f2, h.lenle, fun i hi => ?_⟩
  obtain ⟨cb, off, c, e, hne, hlt, h0, h5, hcc⟩ := h.code i hi
  have := hcode (by omega) _ e
  exact ⟨cb, off, c, e, hne, by simpa [World.setCell] using hlt, h0, h5, (hc ⟨cb, off + i, none⟩ (by simp at this ⊢; omega)).trans hcc⟩

/-- The three cells of the result's block, behind what a draw leaves. -/
theorem res_cells {b : Nat} {w w1 : World} {c0 c1 c2 : Value} {ty : TypeId} (hb : But b (w.alloc (.cells #[c0, c1, c2] ty)) w1) (hl : b < w.heap.size) :
    w1.cell? ⟨w.heap.size, 0, none⟩ = some c0 ∧ w1.cell? ⟨w.heap.size, 1, none⟩ = some c1 ∧ w1.cell? ⟨w.heap.size, 2, none⟩ = some c2 ∧ (∀ o, w1.frozen? ⟨w.heap.size, o, none⟩ = false) ∧ w.heap.size < w1.heap.size ∧ But b w w1 := by
  have hc : ∀ o, w1.cell? ⟨w.heap.size, o, none⟩ = #[c0, c1, c2][o]? := fun o =>
    (hb.cell (p := ⟨w.heap.size, o, none⟩) (by simp) (by simp; omega)).trans (World.cell?_alloc_at _ _ _ _ rfl)
  refine ⟨hc 0, hc 1, hc 2, fun o => ?_, by have := hb.size; simp at this; omega, (But.of_below (b := b) ((Below.refl w.heap.size w).alloc (Nat.le_refl _) _)).trans hb⟩
  rw [hb.frozen (p := ⟨w.heap.size, o, none⟩) (by simp) (by simp; omega)]; go_simp

set_option maxHeartbeats 1000000 in
theorem value_any {w : World} {b : Nat} {a : Option Addr} {len cap m : Nat} (h : Src w b a len cap m) (hm : m ≤ 90000) (hcode : 0 < len → ∀ x, a = some x → x.block < w.heap.size) :
    Calls Try.prog 68 #[.pointer (some ⟨b, 0, none⟩)] w fun e w' => ∃ (k n : Int) (t : ByteArray), e = .returned (VV k n t) ∧ okV k n t = true ∧ In64 n ∧ t.size ≤ 8 ∧ Src w' b a len cap (m + 5) ∧ But b w w' := by
  have hl := h.lt
  have HC : Hid (0 < len → ∀ x, a = some x → x.block < w.heap.size) := hcode
  clear hcode
  go_enter Try.func68, Try.ntmps68
  go_wp2_with fail
  refine (next_any 6 (h.below ((Below.refl _ _).alloc (Nat.le_refl _) _)) (by omega) (by omega) (by omega)).mono ?_
  rintro e w1 ⟨r, rfl, r0, r1, hs, hb⟩
  clear h
  obtain ⟨k0, k1, k2, hf, hz, hB⟩ := res_cells hb hl
  rcases (show r = 0 ∨ r = 1 ∨ (r = 2 ∨ r = 3) ∨ r = 4 ∨ r = 5 by omega) with rfl | rfl | hr | rfl | rfl
  · go_wp2
    refine bodyPost_ret (v := VV 0 0 ⟨#[]⟩) (by simp [results, Try.results68, go_sem, k0, k1, k2]) rfl ⟨0, 0, ⟨#[]⟩, rfl, okV_null, by decide, by decide, ?_, ?_⟩
    · repeat (first | exact hs.mono (by omega) | refine Src.res ?_ hl _ _ HC.out)
    · repeat (first | exact hB | refine But.res ?_ _ _)
  · go_wp2_with fail
    refine (next_any 2 hs (by omega) (by omega) (by omega)).mono ?_
    rintro e w2 ⟨q, rfl, q0, q1, hs2, hb2⟩
    clear k0 k1 k2 hf hz hB hs
    obtain ⟨k0, k1, k2, hf, hz, hB⟩ := res_cells (hb.trans hb2) hl
    clear hb hb2
    go_wp2
    refine bodyPost_ret (v := VV 1 q ⟨#[]⟩) (by simp [results, Try.results68, go_sem, k0, k1, k2]) rfl ⟨1, q, ⟨#[]⟩, rfl, okV_bool q q0 q1, by unfold In64; omega, by decide, ?_, ?_⟩
    · repeat (first | exact hs2.mono (by omega) | refine Src.res ?_ hl _ _ HC.out)
    · repeat (first | exact hB | refine But.res ?_ _ _)
  · have hr0 : (r == 0) = false := beq_eq_false_iff_ne.2 (by omega)
    have hr1 : (r == 1) = false := beq_eq_false_iff_ne.2 (by omega)
    rcases hr with rfl | rfl
    all_goals
      go_wp2_with fail
      refine (next_any 10 hs (by omega) (by omega) (by omega)).mono ?_
      rintro e w2 ⟨q2, rfl, q20, q21, hs2, hb2⟩
      go_wp2_with fail
      refine (next_any 10 hs2 (by omega) (by omega) (by omega)).mono ?_
      rintro e w3 ⟨q3, rfl, q30, q31, hs3, hb3⟩
      go_wp2_with fail
      refine (odd_any hs3 (by omega)).mono ?_
      rintro e w4 ⟨q4, rfl, q4i, hs4, hb4⟩
      have HQ : Hid (In64 q4) := q4i
      clear q4i
      go_wp2_with fail
      refine (next_any 3 (hs4.below ((Below.refl _ _).alloc (Nat.le_refl _) _)) (by omega) (by omega) (by omega)).mono ?_
      rintro e w5 ⟨q5, rfl, q50, q51, hs5, hb5⟩
      obtain ⟨j, rfl⟩ := Int.eq_ofNat_of_zero_le q50
      obtain ⟨v, hv, hvi⟩ := int_at (i := j) hb5 hs4.lt (by intro x hx; simp at hx; rcases hx with rfl | rfl | rfl; exact ⟨_, rfl, by unfold In64; omega⟩; exact ⟨_, rfl, by unfold In64; omega⟩; exact ⟨_, rfl, HQ.out⟩) (by simp; omega)
      have HV : Hid (In64 v) := hvi
      clear hvi
      have hbb := (((hb.trans hb2).trans hb3).trans hb4).trans ((But.of_below (b := b) ((Below.refl w4.heap.size w4).alloc (Nat.le_refl _) _)).trans hb5)
      clear k0 k1 k2 hf hz hB hs hs2 hs3 hs4 hb2 hb3 hb4 hb5
      obtain ⟨k0, k1, k2, hf, hz, hB⟩ := res_cells hbb hl
      clear hb hbb
      go_wp2
      refine bodyPost_ret (v := VV 2 v ⟨#[]⟩) (by simp [results, Try.results68, go_sem, k0, k1, k2]) rfl ⟨2, v, ⟨#[]⟩, rfl, okV_int v, HV.out, by decide, ?_, ?_⟩
      · repeat (first | exact hs5.mono (by omega) | refine Src.res ?_ hl _ _ HC.out)
      · repeat (first | exact hB | refine But.res ?_ _ _)
  · go_wp2_with fail
    refine (word_any hs (by omega)).mono ?_
    rintro e w2 ⟨t, rfl, ht, hs2, hb2⟩
    clear k0 k1 k2 hf hz hB hs
    obtain ⟨k0, k1, k2, hf, hz, hB⟩ := res_cells (hb.trans hb2) hl
    clear hb hb2
    go_wp2
    refine bodyPost_ret (v := VV 3 0 t) (by simp [results, Try.results68, go_sem, k0, k1, k2]) rfl ⟨3, 0, t, rfl, okV_text t ht, by decide, ht, ?_, ?_⟩
    · repeat (first | exact hs2.mono (by omega) | refine Src.res ?_ hl _ _ HC.out)
    · repeat (first | exact hB | refine But.res ?_ _ _)
  · go_wp2_with fail
    refine (word_any hs (by omega)).mono ?_
    rintro e w2 ⟨t, rfl, ht, hs2, hb2⟩
    clear k0 k1 k2 hf hz hB hs
    obtain ⟨k0, k1, k2, hf, hz, hB⟩ := res_cells (hb.trans hb2) hl
    clear hb hb2
    go_wp2
    refine bodyPost_ret (v := VV 4 0 t) (by simp [results, Try.results68, go_sem, k0, k1, k2]) rfl ⟨4, 0, t, rfl, okV_bytes t ht, by decide, ht, ?_, ?_⟩
    · repeat (first | exact hs2.mono (by omega) | refine Src.res ?_ hl _ _ HC.out)
    · repeat (first | exact hB | refine But.res ?_ _ _)

/-- The bytes of a slice can be read. -/
def Code (w : World) (a : Option Addr) (len : Nat) : Prop :=
  ∀ i, i < len → ∃ cb off c, a = some ⟨cb, off, none⟩ ∧ cb < w.heap.size ∧ (0 : Int) ≤ c ∧ c ≤ 255 ∧ w.cell? ⟨cb, off + i, none⟩ = some (.int .u8 c)
theorem Code.below {w w' : World} {a : Option Addr} {len B : Nat} (h : Code w a len) (hb : Below B w w') (hB : ∀ x, a = some x → 0 < len → x.block < B) : Code w' a len := fun i hi => by
  obtain ⟨cb, off, c, e, hlt, h0, h5, hc⟩ := h i hi
  have := hB _ e (by omega)
  exact ⟨cb, off, c, e, Nat.lt_of_lt_of_le hlt hb.size, h0, h5, (hb.cell (p := ⟨cb, off + i, none⟩) this).trans hc⟩
theorem Code.lt {w : World} {a : Option Addr} {len : Nat} (h : Code w a len) : 0 < len → ∀ x, a = some x → x.block < w.heap.size := fun hl x hx => by
  obtain ⟨cb, off, c, e, hlt, _⟩ := h 0 hl
  rw [hx] at e
  cases e
  exact hlt

theorem source_any {w : World} {a : Option Addr} {len cap : Nat} (h : Code w a len) (hlen : len ≤ 4194304) :
    Calls Try.prog 37 #[.slice a len cap] w fun e w' => e = .returned (.pointer (some ⟨w.heap.size, 0, none⟩)) ∧ Src w' w.heap.size a len cap 0 ∧ Below w.heap.size w w' := by
  have HC : Hid (Code w a len) := h
  clear h
  go_enter Try.func37, Try.ntmps37
  go_wp2
  go_ret
  have hB : Below w.heap.size w (w.alloc (.cells #[.slice a len cap, .int .i64 0, .int .i64 ((len : Int) % 1000)] 87)) := (Below.refl _ _).alloc (Nat.le_refl _) _
  refine ⟨rfl, ⟨by go_simp, ⟨0, (len : Int) % 1000, by omega, by go_simp, by go_simp, by omega, by omega⟩, by go_simp, by go_simp, hlen, fun i hi => ?_⟩, hB⟩
  obtain ⟨cb, off, c, e, hlt, h0, h5, hc⟩ := HC.out i hi
  exact ⟨cb, off, c, e, by omega, by simp; omega, h0, h5, (hB.cell (p := ⟨cb, off + i, none⟩) hlt).trans hc⟩


end Go.Proofs.Ytmcjgncpblbhpaa
namespace Go.Proofs.Ytmcjgncpblbhpaa
open Go.RowKit

theorem OwnV.slab' {w : World} {B : Nat} {u : Value} {l : List V3} (h : OwnV w B u l) : ∃ a n cap, u = .slice a n cap := by
  obtain ⟨a, cap, e, _⟩ := OwnV.slab h
  exact ⟨a, _, cap, e⟩
/-- Right values, small ones. -/
def GoodV (vs : List V3) : Prop := ∀ v ∈ vs, okV3 v = true ∧ In64 v.2.1 ∧ v.2.2.size ≤ 8
def GoodR (nw : Nat) (rs : Rs) : Prop := ∀ vs ∈ rs, vs.length = nw ∧ GoodV vs
theorem OwnV.but {w w' : World} {b B : Nat} {v : Value} {l : List V3} (h : OwnV w B v l) (hb : But b w w') (hB : b < B) : OwnV w' B v l := OwnV.block h fun g hg hg2 => hb.block g hg (by omega)
theorem BldR.but {w w' : World} {b B hi : Nat} {v : Value} {rs : Rs} (h : BldR w B hi v rs) (hb : But b w w') (hB : b < B) : BldR w' B hi v rs := by
  obtain ⟨xs, gs, ns, cs, ax, ⟨h1, h2⟩, hc, hd⟩ := h
  refine ⟨xs, gs, ns, cs, ax, ⟨h1, ?_⟩, fun i hi => ⟨(hc i hi).1, fun h0 => by obtain ⟨q1, q2, q3, q4, q5⟩ := (hc i hi).2 h0; exact ⟨q1, q2, q3, q4, q5.at (hb.block _ q5.lt (by omega))⟩⟩, hd⟩
  rcases h2 with h | ⟨g, cap, cur, e, hg, hh, r⟩
  · exact .inl h
  · exact .inr ⟨g, cap, cur, e, hg, (hb.block g (slab_lt hh) (by omega)).trans hh, r⟩
theorem But.grow {w W w' : World} {b H : Nat} (h : But b w W) (hb : Below H W w') (hH : w.heap.size ≤ H) : But b w w' :=
  ⟨hb.os.trans h.os, hb.tape.trans h.tape, hb.output.trans h.output, Nat.le_trans h.size hb.size, fun k hk hne => (hb.block k (by omega)).trans (h.block k hk hne)⟩
theorem Src.grow {w w' : World} {b H : Nat} {a : Option Addr} {len cap m : Nat} (h : Src w b a len cap m) (hb : Below H w w') (hl : b < H) (hc : 0 < len → ∀ x, a = some x → x.block < H) : Src w' b a len cap m := by
  obtain ⟨k, seed, hk, h1, h2, h3, h4⟩ := h.ks
  refine ⟨(hb.cell (p := ⟨b, 0, none⟩) hl).trans h.c0, ⟨k, seed, hk, (hb.cell (p := ⟨b, 1, none⟩) hl).trans h1, (hb.cell (p := ⟨b, 2, none⟩) hl).trans h2, h3, h4⟩, (hb.frozen (p := ⟨b, 1, none⟩) hl).trans h.f1, (hb.frozen (p := ⟨b, 2, none⟩) hl).trans h.f2, h.lenle, fun i hi => ?_⟩
  obtain ⟨cb, off, c, e, hne, hlt, h0, h5, hcl⟩ := h.code i hi
  have hcb : cb < H := hc (by omega) _ e
  exact ⟨cb, off, c, e, hne, Nat.lt_of_lt_of_le hlt hb.size, h0, h5, (hb.cell (p := ⟨cb, off + i, none⟩) hcb).trans hcl⟩
theorem one_row (w : World) (k n : Int) (t : ByteArray) (ht : t.size ≤ 8) : RowV (w.alloc (.cells #[.int .i64 k, .int .i64 n, .string t] 39)) (some ⟨w.heap.size, 0, none⟩) [(k, n, t)] := fun i hi => by
  have : i = 0 := by simpa using hi
  subst this
  exact ⟨w.heap.size, 0, rfl, by simp, ⟨by simp [nthV], by simp [nthV], by simp [nthV]⟩, by simp [nthV, maxLen]; omega⟩
set_option maxRecDepth 100000 in
set_option maxHeartbeats 8000000 in
theorem rows_any {w : World} {b : Nat} {a : Option Addr} {len cap m : Nat} (h : Src w b a len cap m) (hm : m ≤ 50000) (hcode : 0 < len → ∀ x, a = some x → x.block < w.heap.size) :
    Calls Try.prog 38 #[.pointer (some ⟨b, 0, none⟩)] w fun e w' => ∃ v rs nw, e = .returned v ∧ BldR w' w.heap.size w'.heap.size v rs ∧ rs.length ≤ 7 ∧ (1 ≤ nw ∧ nw ≤ 3) ∧ GoodR nw rs ∧ But b w w' := by
  have hbw := h.lt
  have B0 : Below w.heap.size w (w.alloc (.cells #[] 28)) := (Below.refl _ _).alloc (Nat.le_refl _) _
  have O0 : Hid (BldR (w.alloc (.cells #[] 28)) w.heap.size (w.alloc (.cells #[] 28)).heap.size (.slice (some ⟨w.heap.size, 0, none⟩) 0 0) []) := BldR.made (Nat.le_refl _)
  have N1 := next_any 3 (h.below B0) (by omega) (by omega) (by omega)
  have BW : Hid (But b w (w.alloc (.cells #[] 28))) := But.of_below B0
  have HC : Hid (0 < len → ∀ x, a = some x → x.block < w.heap.size) := hcode
  clear h hcode B0
  go_enter Try.func38, Try.ntmps38
  go_wp2_with fail
  refine N1.mono ?_
  rintro e w1 ⟨r1, rfl, r10, r13, S1, b1⟩
  have N2 := next_any 8 S1 (by omega) (by omega) (by omega)
  have P1 : Hid (BldR w1 w.heap.size w1.heap.size (.slice (some ⟨w.heap.size, 0, none⟩) 0 0) [] ∧ But b w w1) := ⟨(O0.out.but b1 hbw).mono b1.size, BW.out.trans b1⟩
  clear N1 b1 O0 BW S1
  go_wp2_with fail
  refine N2.mono ?_
  rintro e w2 ⟨r2, rfl, r20, r28, S2, b2⟩
  have P2 : Hid (Src w2 b a len cap (m + 1 + 1) ∧ BldR w2 w.heap.size w2.heap.size (.slice (some ⟨w.heap.size, 0, none⟩) 0 0) [] ∧ But b w w2) := ⟨S2, (P1.out.1.but b2 hbw).mono b2.size, P1.out.2.trans b2⟩
  clear N2 b2 P1 S2
  obtain ⟨nw, hnw⟩ : ∃ nw : Nat, 1 + r1 = (nw : Int) := ⟨(1 + r1).toNat, by omega⟩
  have hn1 : 1 ≤ nw ∧ nw ≤ 3 := by omega
  obtain ⟨r0, hr0⟩ : ∃ r0 : Nat, r2 = (r0 : Int) := ⟨r2.toNat, by omega⟩
  subst hr0
  go_wp2
  go_loopw [3, 5] (fun v i wr => ∃ (q : Nat) (rs : Rs), q ≤ r0 ∧ i = .int .i64 q ∧ rs.length + q = r0 ∧ Hid (GoodR nw rs ∧ Src wr b a len cap (m + 2 + 20 * rs.length) ∧ BldR wr w.heap.size wr.heap.size v rs ∧ But b w wr)) (fun _ i _ => (intOf i).toNat)
  case atStart => exact ⟨r0, [], by omega, rfl, by simp, fun vs hv => by simp at hv, P2.out.1.mono (by simp), P2.out.2.1, P2.out.2.2⟩
  case round =>
    clear P2
    obtain ⟨q, rs, hq, rfl, hrq, HW⟩ := hrel
    by_cases hq0 : 0 < q
    · have hqI : (0 : Int) < (q : Int) := by omega
      obtain ⟨wo, hwo⟩ : ∃ wo, wo = wr := ⟨_, rfl⟩
      have HO : Hid (GoodR nw rs ∧ Src wo b a len cap (m + 2 + 20 * rs.length) ∧ BldR wo w.heap.size wo.heap.size u3 rs ∧ But b w wo) := by rw [hwo]; exact HW.out
      have hwl : w.heap.size ≤ wo.heap.size := HO.out.2.2.2.size
      have B0 : Below wo.heap.size wo (wr.alloc (.cells #[] 39)) := by rw [hwo]; exact (Below.refl _ _).alloc (Nat.le_refl _) _
      have I0 : Hid (Src (wr.alloc (.cells #[] 39)) b a len cap (m + 2 + 20 * rs.length) ∧ OwnV (wr.alloc (.cells #[] 39)) wo.heap.size (.slice (some ⟨wr.heap.size, 0, none⟩) 0 0) [] ∧ But b wo (wr.alloc (.cells #[] 39))) := ⟨HO.out.2.1.below B0, by rw [hwo]; exact OwnV.empty (Nat.le_refl _), But.of_below B0⟩
      clear HW B0 hwo
      go_wp2
      go_loopw [6, 7] (fun v k wq => ∃ (c : Nat) (vs : List V3), c ≤ nw ∧ k = .int .i64 c ∧ vs.length = c ∧ Hid (GoodV vs ∧ Src wq b a len cap (m + 2 + 20 * rs.length + 5 * c) ∧ OwnV wq wo.heap.size v vs ∧ But b wo wq)) (fun _ k _ => nw - (intOf k).toNat)
      case atStart => exact ⟨0, [], by omega, rfl, rfl, fun v hv => by simp at hv, I0.out.1, I0.out.2.1, I0.out.2.2⟩
      case round =>
        clear I0
        obtain ⟨c, vs, hc, rfl, hvl, HQ⟩ := hrel
        by_cases hcn : c < nw
        · have hcI : (c : Int) < (nw : Int) := by omega
          have hcd : 0 < len → ∀ x, a = some x → x.block < wo.heap.size := fun h x e => Nat.lt_of_lt_of_le (HC.out h x e) hwl
          have V := value_any HQ.out.2.1 (by omega) (fun h x e => Nat.lt_of_lt_of_le (hcd h x e) HQ.out.2.2.2.size)
          go_wp2_with fail
          refine V.mono ?_
          rintro e w1 ⟨k1, n1, t1, rfl, o1, i1, s1, S1, b1⟩
          have Bw : But b wo w1 := HQ.out.2.2.2.trans b1
          have Ba : Below w1.heap.size w1 (w1.alloc (.cells #[.int .i64 k1, .int .i64 n1, .string t1] 39)) := (Below.refl _ _).alloc (Nat.le_refl _) _
          have O1 : OwnV (w1.alloc (.cells #[.int .i64 k1, .int .i64 n1, .string t1] 39)) wo.heap.size u6 vs := OwnV.below (HQ.out.2.2.1.but b1 (by omega)) Ba
          obtain ⟨v', w', hr, O2, g2⟩ := app_V u6 vs [(k1, n1, t1)] _ wo.heap.size w1.heap.size 0 1 O1 (by simp; omega) (one_row w1 k1 n1 t1 s1) (Nat.le_trans Bw.size Ba.size)
          have Bg : Below wo.heap.size (w1.alloc (.cells #[.int .i64 k1, .int .i64 n1, .string t1] 39)) w' := own_grown (Below.refl _ _) (Nat.le_trans Bw.size Ba.size) O1 g2
          have HN : Hid (GoodV (vs ++ [(k1, n1, t1)]) ∧ Src w' b a len cap (m + 2 + 20 * rs.length + 5 * (c + 1)) ∧ OwnV w' wo.heap.size v' (vs ++ [(k1, n1, t1)]) ∧ But b wo w') := by
            refine ⟨fun v hv => ?_, ((S1.below Ba).grow Bg (by omega) hcd).mono (by omega), O2, (Bw.trans (But.of_below Ba)).grow Bg (Nat.le_refl _)⟩
            rcases List.mem_append.1 hv with h | h
            · exact HQ.out.1 v h
            · simp at h; subst h; exact ⟨o1, i1, s1⟩
          have hr' : Sem.run Try.prog (Builtin.append_ #[28, 28] 28 #[u6, .slice (some ⟨w1.heap.size, 0, none⟩) 1 1]) (w1.alloc (.cells #[.int .i64 k1, .int .i64 n1, .string t1] 39)) = .ok v' w' := hr
          clear V HQ S1 b1 Bw Ba O1 hr O2 g2 Bg o1 i1 s1 hcd
          go_wp2_with (at_builtin; refine Lib.wpList_append_run _ rfl _ _ _ _ rfl _ _ rfl rfl _ _ hr' ?_)
          go_roundw
          case rel => exact ⟨c + 1, vs ++ [(k1, n1, t1)], by omega, by go_num, by simp [hvl], HN⟩
          case measure => simp [intOf]; omega
        · obtain rfl : c = nw := by omega
          have hcI : ¬ (c : Int) < (c : Int) := by omega
          obtain ⟨gv, S1, O1, b1⟩ := HQ.out
          obtain ⟨ua, un, uc, rfl⟩ := OwnV.slab' O1
          have Ba : Below wr.heap.size wr (wr.alloc (.cells #[.slice ua un uc] 28)) := (Below.refl _ _).alloc (Nat.le_refl _) _
          have R1 : BldR (wr.alloc (.cells #[.slice ua un uc] 28)) w.heap.size wo.heap.size u3 rs := (HO.out.2.2.1.but b1 hbw).below Ba
          have hWl : w.heap.size ≤ (wr.alloc (.cells #[.slice ua un uc] 28)).heap.size := Nat.le_trans hwl (Nat.le_trans b1.size Ba.size)
          obtain ⟨v', w', hr, R2, g2⟩ := app_R (c := 1) R1 hWl (by omega) (World.cell?_alloc_at _ _ _ _ rfl) (OwnV.below O1 Ba) (Nat.le_refl _) hwl
          have Bg : Below w.heap.size (wr.alloc (.cells #[.slice ua un uc] 28)) w' := BldR.grown (Below.refl _ _) hWl R1 g2
          have hcd : 0 < len → ∀ x, a = some x → x.block < w.heap.size := HC.out
          have HN : Hid (GoodR c (rs ++ [vs]) ∧ Src w' b a len cap (m + 2 + 20 * (rs ++ [vs]).length) ∧ BldR w' w.heap.size w'.heap.size v' (rs ++ [vs]) ∧ But b w w') := by
            refine ⟨fun x hx => ?_, ((S1.below Ba).grow Bg hbw hcd).mono (by simp; omega), R2, ((HO.out.2.2.2.trans b1).trans (But.of_below Ba)).grow Bg (Nat.le_refl _)⟩
            rcases List.mem_append.1 hx with h | h
            · exact HO.out.1 x h
            · simp at h; subst h; exact ⟨hvl, gv⟩
          have hr' : Sem.run Try.prog (Builtin.append_ #[23, 23] 23 #[u3, .slice (some ⟨wr.heap.size, 0, none⟩) 1 1]) (wr.alloc (.cells #[.slice ua un uc] 28)) = .ok v' w' := hr
          obtain ⟨q', hq'⟩ : ∃ q', q' + 1 = q := ⟨q - 1, by omega⟩
          have hq'I : (q : Int) - 1 = (q' : Int) := by omega
          have HJ : Hid (q' + 1 = q ∧ rs.length + q = r0) := ⟨hq', hrq⟩
          clear HQ gv S1 O1 b1 Ba R1 hWl hr R2 g2 Bg hcd hq' HO
          go_wp2_with (at_builtin; refine Lib.wpList_append_run _ rfl _ _ _ _ rfl _ _ rfl rfl _ _ hr' ?_)
          go_roundw
          case rel => exact ⟨q', rs ++ [vs], by have := HJ.out; omega, by go_num, by have := HJ.out; simp; omega, HN⟩
          case measure => have := HJ.out; simp [intOf]; omega
    · obtain rfl : q = 0 := by omega
      have HE := HW.out
      go_wp2
      go_ret
      exact ⟨_, rs, nw, rfl, HE.2.2.1, by omega, hn1, HE.1, HE.2.2.2⟩
set_option maxRecDepth 100000 in
theorem rowsOf_any {w : World} {a : Option Addr} {len cap : Nat} (h : Code w a len) (hlen : len ≤ 4194304) :
    Calls Try.prog 10 #[.slice a len cap] w fun e w' => ∃ v rs nw, e = .returned v ∧ BldR w' w.heap.size w'.heap.size v rs ∧ rs.length ≤ 7 ∧ (1 ≤ nw ∧ nw ≤ 3) ∧ GoodR nw rs ∧ Below w.heap.size w w' := by
  have C1 := source_any (cap := cap) h hlen
  have hlt := h.lt
  have HL : Hid (∀ w1, Below w.heap.size w w1 → 0 < len → ∀ x, a = some x → x.block < w1.heap.size) := fun w1 b h0 x e => Nat.lt_of_lt_of_le (hlt h0 x e) b.size
  clear h hlt
  go_enter Try.func10, Try.ntmps10
  go_wp2_with fail
  refine C1.mono ?_
  rintro e w1 ⟨rfl, S1, b1⟩
  have C2 := rows_any S1 (by omega) (HL.out w1 b1)
  have hs := b1.size
  clear C1 HL S1
  go_wp2_with fail
  refine C2.mono ?_
  rintro e w2 ⟨v, rs, nw, rfl, R2, l2, n2, g2, b2⟩
  have HE : Hid (BldR w2 w.heap.size w2.heap.size v rs ∧ Below w.heap.size w w2) := ⟨R2.base hs, b2.below b1 (Nat.le_refl _) hs⟩
  clear C2 R2 b2 b1
  go_wp2
  go_ret
  exact ⟨v, rs, nw, rfl, HE.out.1, l2, n2, g2, HE.out.2⟩
end Go.Proofs.Ytmcjgncpblbhpaa
namespace Go.Proofs.Ytmcjgncpblbhpaa
open Go.RowKit

set_option maxRecDepth 100000 in
theorem cloneR_nil (w : World) : Calls Try.prog 72 #[.slice none 0 0] w fun e w' => e = .returned (.slice none 0 0) ∧ w' = w := by
  have hq : ∀ W, (binOp .eql 23 (.slice none 0 0) (.slice none 0 0)).run Try.prog W = .ok (.bool true) W := fun W => by
    simp only [binOp]
    simp [run_equal_slice_nil W 23 28 _ 0 0 Try.underlying23]
  go_enter Try.func72, Try.ntmps72
  go_wp2
  go_ret
  exact ⟨rfl, rfl⟩
set_option maxRecDepth 100000 in
theorem insertion_nil (f : Value) (w : World) : Calls Try.prog 110 #[.slice none 0 0, .int .i64 0, .int .i64 0, f] w fun e w' => e = .returned (.tuple #[]) ∧ w' = w := by
  go_enter Try.func110, Try.ntmps110
  go_wp2
  go_loop [8] (fun i => i = .int .i64 1) (fun _ => 0)
  case atStart => rfl
  case round =>
    subst hrel
    go_wp2
    go_end0
    exact ⟨rfl, rfl⟩
set_option maxRecDepth 100000 in
theorem stable_nil (f : Value) (w : World) : Calls Try.prog 99 #[.slice none 0 0, .int .i64 0, f] w fun e w' => e = .returned (.tuple #[]) ∧ w' = w := by
  go_enter Try.func99, Try.ntmps99
  go_wp2
  go_loop [7, 8] (fun i j => i = .int .i64 0 ∧ j = .int .i64 20) (fun _ _ => 0)
  case atStart => exact ⟨rfl, rfl⟩
  case round =>
    obtain ⟨rfl, rfl⟩ := hrel
    go_wp2_with fail
    refine (insertion_nil f w).mono ?_
    rintro e w1 ⟨rfl, hq⟩
    obtain rfl := hq.symm
    go_wp2
    go_loop [6] (fun i => i = .int .i64 20) (fun _ => 0)
    case atStart => rfl
    case round =>
      subst hrel
      go_wp2
      go_end0
      exact ⟨rfl, rfl⟩
set_option maxRecDepth 100000 in
theorem sortStable_nil (f : Value) (w : World) : Calls Try.prog 73 #[.slice none 0 0, f] w fun e w' => e = .returned (.tuple #[]) ∧ w' = w := by
  go_enter Try.func73, Try.ntmps73
  go_wp2_with fail
  refine (stable_nil f w).mono ?_
  rintro e w1 ⟨rfl, hq⟩
  obtain rfl := hq.symm
  go_wp2
  go_end0
  exact ⟨rfl, rfl⟩
set_option maxRecDepth 100000 in
theorem sortedBy_nil (w : World) : Calls Try.prog 42 #[.slice none 0 0, .func (.func 43) #[] #[]] w fun e w' => e = .returned (.slice none 0 0) ∧ w' = w := by
  go_enter Try.func42, Try.ntmps42
  go_wp2_with fail
  refine (cloneR_nil w).mono ?_
  rintro e w1 ⟨rfl, hq⟩
  obtain rfl := hq.symm
  go_wp2_with fail
  refine (sortStable_nil _ w).mono ?_
  rintro e w2 ⟨rfl, hq⟩
  obtain rfl := hq.symm
  go_wp2
  go_ret
  exact ⟨rfl, rfl⟩
/-- A list that was made, whose rows are not empty, has rows with addresses. -/
theorem BldR.rowA {w : World} {B hi : Nat} {v : Value} {rs : Rs} (h : BldR w B hi v rs) (hp : ∀ i, i < rs.length → 0 < (nthR rs i).length) (ht : TextR rs) (hs : SmallR rs) : ∃ a c, v = .slice a rs.length c ∧ RowA w a rs ∧ (v = .slice none 0 0 ∨ ∃ g, a = some ⟨g, 0, none⟩ ∧ B ≤ g ∧ g < w.heap.size) := by
  obtain ⟨xs, gs, ns, cs, ax, ⟨hx, ho⟩, hr, _⟩ := h
  rcases ho with ⟨rfl, h0⟩ | ⟨g, cap, cur, rfl, hg, hh, hc, _, hcs, htk⟩
  · exact ⟨none, 0, by rw [h0], fun i hi => by omega, .inl rfl⟩
  · refine ⟨_, cap, rfl, fun i hi => ?_, .inr ⟨g, rfl, hg, slab_lt hh⟩⟩
    obtain ⟨e1, e2⟩ := hr i hi
    obtain ⟨q1, q2, q3, q4, q5⟩ := e2 (hp i hi)
    rw [q1] at e1
    have hcell : cur[i]? = some (.slice (some ⟨gs i, 0, none⟩) (nthR rs i).length (cs i)) := by
      rw [← htk, List.getElem?_take] at e1
      split at e1
      · rw [← Array.getElem?_toList]; exact e1
      · cases e1
    refine ⟨g, 0, gs i, 0, cs i, rfl, slab_lt hh, by rw [slab_cell hh, Nat.zero_add]; exact hcell, ?_, small_max (hs.2 i hi)⟩
    intro j hj
    obtain ⟨cu, qh, _, qc⟩ := q5
    have := qc j hj
    refine ⟨gs i, 0, rfl, slab_lt qh, ⟨?_, ?_, ?_⟩, ht i hi j hj⟩
    · rw [slab_cell qh, Nat.zero_add]; exact this.1
    · rw [slab_cell qh, Nat.zero_add]; exact this.2.1
    · rw [slab_cell qh, Nat.zero_add]; exact this.2.2
end Go.Proofs.Ytmcjgncpblbhpaa
namespace Go.Proofs.Ytmcjgncpblbhpaa
open Go.RowKit

set_option maxRecDepth 100000 in
set_option maxHeartbeats 2000000 in
theorem sameRow_any (a1 a2 : Option Addr) (c1 c2 : Nat) (vs us : List V3) (w : World) (h1 : RowV w a1 vs) (h2 : RowV w a2 us) (hl1 : vs.length ≤ maxLen) :
    Calls Try.prog 12 #[.slice a1 vs.length c1, .slice a2 us.length c2] w fun e w' => e = .returned (.bool (eqRow vs us)) ∧ Below w.heap.size w w' := by
  unfold maxLen at hl1
  by_cases hl : vs.length = us.length
  · have H : Hid (RowV w a1 vs ∧ RowV w a2 us ∧ vs.length = us.length) := ⟨h1, h2, hl⟩
    clear h1 h2
    rw [← hl]
    obtain ⟨n, hn⟩ : ∃ n, vs.length = n := ⟨_, rfl⟩
    have HN : Hid (vs.length = n) := hn
    rw [hn] at hl1 ⊢
    clear hl hn
    go_enter Try.func12, Try.ntmps12
    go_wp2
    go_loopw [5] (fun i wr => ∃ k : Nat, k ≤ n ∧ i = .int .i64 k ∧ Hid (∀ j, j < k → eqV3 (nthV vs j) (nthV us j) = true) ∧ Below w.heap.size w wr) (fun i _ => n - (intOf i).toNat)
    case atStart => exact ⟨0, by omega, rfl, fun j hj => by omega, Below.refl _ _⟩
    case round =>
      obtain ⟨k, hk, rfl, HA, hbl⟩ := hrel
      by_cases hlt : k < n
      · have hltI : (k : Int) < (n : Int) := by omega
        have k1 : k < vs.length := by rw [HN.out]; exact hlt
        have k2 : k < us.length := by rw [← H.out.2.2]; exact k1
        obtain ⟨b1, o1, rfl, lb1, ⟨x0, x1, x2⟩, _⟩ := (H.out.1.below hbl) k k1
        obtain ⟨b2, o2, rfl, lb2, ⟨y0, y1, y2⟩, _⟩ := (H.out.2.1.below hbl) k k2
        have Q := fun W => eq_val (nthV vs k).1 (nthV vs k).2.1 (nthV vs k).2.2 (nthV us k).1 (nthV us k).2.1 (nthV us k).2.2 W
        cases he : eqV3 (nthV vs k) (nthV us k) with
        | true =>
          have HA2 : Hid (∀ j, j < k + 1 → eqV3 (nthV vs j) (nthV us j) = true) := allV_step' HA.out he
          have he' : eqV3 ((nthV vs k).1, (nthV vs k).2.1, (nthV vs k).2.2) ((nthV us k).1, (nthV us k).2.1, (nthV us k).2.2) = true := he
          rw [he'] at Q
          clear he he' HA
          generalize nthV vs k = v at *
          generalize nthV us k = u at *
          go_wp2_with fail
          go_quiet (fail)
          go_wp2
          go_roundw
          case rel => exact ⟨k + 1, by omega, by go_num, HA2, below_drewN hbl _⟩
          case measure => simp [intOf]; omega
        | false =>
          have HF : Hid (eqRow vs us = false) := eqRow_bad he
          have he' : eqV3 ((nthV vs k).1, (nthV vs k).2.1, (nthV vs k).2.2) ((nthV us k).1, (nthV us k).2.1, (nthV us k).2.2) = false := he
          rw [he'] at Q
          clear he he' HA
          generalize nthV vs k = v at *
          generalize nthV us k = u at *
          go_wp2_with fail
          go_quiet (fail)
          go_wp2
          go_ret
          exact ⟨ret_bool' HF.out.symm, below_drewN hbl _⟩
      · have HF : Hid (eqRow vs us = true) := eqRow_good H.out.2.2 (fun j hj => HA.out j (by have := HN.out; omega))
        clear HA
        go_wp2
        go_ret
        exact ⟨ret_bool' HF.out.symm, hbl⟩
  · have HF : Hid (eqRow vs us = false) := eqRow_len hl
    have hne : ((vs.length : Int) != (us.length : Int)) = true := by simp; omega
    clear h1 h2 hl
    generalize vs.length = n1 at *
    generalize us.length = n2 at *
    go_enter Try.func12, Try.ntmps12
    go_wp2
    go_ret
    exact ⟨ret_bool' HF.out.symm, Below.refl _ _⟩

end Go.Proofs.Ytmcjgncpblbhpaa
namespace Go.Proofs.Ytmcjgncpblbhpaa
open Go.RowKit

/-- A list of rows as a value: nil, or one whose rows have addresses. -/
def LstA (w : World) (v : Value) (rs : Rs) : Prop := (v = .slice none 0 0 ∧ rs = []) ∨ ∃ g c, v = .slice (some ⟨g, 0, none⟩) rs.length c ∧ RowA w (some ⟨g, 0, none⟩) rs ∧ g < w.heap.size
theorem LstA.below {w w' : World} {v : Value} {rs : Rs} (h : LstA w v rs) (hb : Below w.heap.size w w') : LstA w' v rs := by
  rcases h with h | ⟨g, c, e, h1, h2⟩
  · exact .inl h
  · exact .inr ⟨g, c, e, h1.below hb, Nat.lt_of_lt_of_le h2 hb.size⟩
theorem LstA.row {w : World} {v : Value} {rs : Rs} (h : LstA w v rs) : ∃ a c, v = .slice a rs.length c ∧ RowA w a rs := by
  rcases h with ⟨rfl, rfl⟩ | ⟨g, c, e, h1, h2⟩
  · exact ⟨none, 0, rfl, fun i hi => by simp at hi⟩
  · exact ⟨_, c, e, h1⟩
theorem BldR.lst {w : World} {B hi : Nat} {v : Value} {rs : Rs} (h : BldR w B hi v rs) (hp : ∀ i, i < rs.length → 0 < (nthR rs i).length) (ht : TextR rs) (hs : SmallR rs) : LstA w v rs := by
  have h' := h
  obtain ⟨a, c, e, hr, hq⟩ := h.rowA hp ht hs
  rcases hq with hq | ⟨g, rfl, _, hg⟩
  · refine .inl ⟨hq, ?_⟩
    rw [hq] at e
    simp only [Value.slice.injEq] at e
    exact List.eq_nil_of_length_eq_zero e.2.1.symm
  · exact .inr ⟨g, c, e, hr, hg⟩
theorem srt_nil : SrtR [] [] := ⟨[], by simp, List.Pairwise.nil, rfl⟩
theorem sortedBy_lst (v : Value) (rs : Rs) (w : World) (h : LstA w v rs) (ho : okRs 16 rs = true) :
    Calls Try.prog 42 #[v, .func (.func 43) #[] #[]] w fun e w' => ∃ a c ts, e = .returned (.slice a rs.length c) ∧ SrtR rs ts ∧ ts.length = rs.length ∧ RowR w' a ts ∧ Below w.heap.size w w' := by
  rcases h with ⟨rfl, rfl⟩ | ⟨g, c, rfl, h1, h2⟩
  · refine (sortedBy_nil w).mono ?_
    rintro e w' ⟨rfl, rfl⟩
    exact ⟨none, 0, [], rfl, srt_nil, rfl, fun i hi => by simp at hi, Below.refl _ _⟩
  · exact sortedBy_any g 0 c rs w h1 (small16 ho).1 (small16 ho).2 h2
set_option maxRecDepth 100000 in
set_option maxHeartbeats 8000000 in
theorem implSame_lst (va vb : Value) (aa bb : Rs) (w : World) (ha : LstA w va aa) (hb : LstA w vb bb) (sa : SmallR aa) (sb : SmallR bb) (o1 : okRs 16 aa = true) (o2 : okRs 16 bb = true) :
    Calls Try.prog 13 #[va, vb] w (RetB aa bb w) := by
  have PP : Hid (∀ W, Below w.heap.size w W → (Calls Try.prog 42 #[va, .func (.func 43) #[] #[]] W fun e w' => ∃ a c ts, e = .returned (.slice a aa.length c) ∧ SrtR aa ts ∧ ts.length = aa.length ∧ RowR w' a ts ∧ Below W.heap.size W w') ∧ (Calls Try.prog 42 #[vb, .func (.func 43) #[] #[]] W fun e w' => ∃ a c ts, e = .returned (.slice a bb.length c) ∧ SrtR bb ts ∧ ts.length = bb.length ∧ RowR w' a ts ∧ Below W.heap.size W w')) := fun W hW => ⟨sortedBy_lst va aa W (ha.below hW) o1, sortedBy_lst vb bb W (hb.below hW) o2⟩
  obtain ⟨a1, ca, rfl, ra⟩ := ha.row
  obtain ⟨a2, cb, rfl, rb⟩ := hb.row
  have l1 := (small16 o1).1
  have l2 := (small16 o2).1
  have A1 := rowsOK_any 16 aa a1 ca w ra.row sa
  have A2 := fun W (hW : Below w.heap.size w W) => rowsOK_any 16 bb a2 cb W (rb.row.below hW) sb
  have HC : Hid (sbC aa bb = 0) := by
    show _ = _
    unfold sbC
    rw [if_neg (by omega), if_pos ⟨o1, o2⟩]
  have hn : ¬ (4096 : Int) < (aa.length : Int) := by omega
  have hm : ¬ (4096 : Int) < (bb.length : Int) := by omega
  have HEq : Hid (∀ (ta tb : Rs) a1 c1 a2 c2 W, SrtR aa ta → SrtR bb tb → ta.length = aa.length → tb.length = bb.length → RowR W a1 ta → RowR W a2 tb → Calls Try.prog 41 #[.slice a1 aa.length c1, .slice a2 bb.length c2, .func (.func 44) #[] #[]] W fun e w' => (∃ x : Bool, e = .returned (.bool x) ∧ (x = true ↔ aa.Perm bb)) ∧ Below W.heap.size W w') := fun ta tb a1 c1 a2 c2 W s1 s2 e1 e2 r1 r2 => by
    have := equalFunc_any a1 a2 c1 c2 ta tb W r1 r2 (by omega)
    rw [e1, e2] at this
    refine this.mono ?_
    rintro e w' ⟨rfl, hb⟩
    exact ⟨⟨_, rfl, srt_same s1 s2⟩, hb⟩
  rw [o1] at A1
  rw [o2] at A2
  clear o1 o2 ha hb sa sb ra rb l1 l2
  generalize aa.length = n at *
  generalize bb.length = m at *
  go_enter Try.func13, Try.ntmps13
  go_wp2_with (first | (go_at_call 39; refine A1.mono ?_; rintro e w1 ⟨rfl, b1⟩; clear A1) | (go_at_call 39; refine (A2 _ b1).mono ?_; rintro e w2 ⟨rfl, b2⟩; clear A2; have B2 := below_step b1 (Nat.le_refl _) b2; clear b1 b2) | fail)
  go_wp2_with fail
  refine (PP.out _ B2).1.mono ?_
  rintro e w3 ⟨a3, c3, t3, rfl, s3, e3, r3, b3⟩
  have B3 := below_step B2 (Nat.le_refl _) b3
  have H3 : Hid (SrtR aa t3 ∧ t3.length = n ∧ RowR w3 a3 t3) := ⟨s3, e3, r3⟩
  clear s3 e3 r3 b3 B2
  go_wp2_with fail
  refine (PP.out _ B3).2.mono ?_
  rintro e w4 ⟨a4, c4, t4, rfl, s4, e4, r4, b4⟩
  have B4 := below_step B3 (Nat.le_refl _) b4
  have C5 := HEq.out t3 t4 a3 c3 a4 c4 w4 H3.out.1 s4 H3.out.2.1 e4 (H3.out.2.2.below b4) r4
  clear s4 e4 r4 b4 B3 H3 PP HEq
  go_wp2_with fail
  refine C5.mono ?_
  rintro e w5 ⟨⟨x, rfl, hx⟩, b5⟩
  have B5 := below_step B4 (Nat.le_refl _) b5
  have HX : Hid (x = true ↔ aa.Perm bb) := hx
  clear C5 hx b5 B4
  go_wp2
  go_ret2
  exact RetB.good HC.out HX.out B5
end Go.Proofs.Ytmcjgncpblbhpaa
namespace Go.Proofs.Ytmcjgncpblbhpaa
open Go.RowKit

theorem Code.kept {w w' : World} {a : Option Addr} {len : Nat} (h : Code w a len) (hb : Below w.heap.size w w') : Code w' a len := h.below hb (fun x e hl => h.lt hl x e)
set_option maxRecDepth 100000 in
theorem at_any {w : World} {a : Option Addr} {cap len : Nat} (h : Code w a len) (hlen : len ≤ 1048576) (i : Nat) (n : Int) (hi : i ≤ 10) (hn : 1 < n) (hn2 : n ≤ 10000) :
    Calls Try.prog 14 #[.slice a len cap, .int .i64 i, .int .i64 n] w fun e w' => ∃ r : Int, e = .returned (.int .i64 r) ∧ 0 ≤ r ∧ r < n ∧ Below w.heap.size w w' := by
  have H : Hid (Code w a len) := h
  clear h
  by_cases h0 : len = 0
  · subst h0
    go_enter Try.func14, Try.ntmps14
    go_wp2
    go_ret
    exact ⟨(i : Int) * 7 % n, by go_num, Int.emod_nonneg _ (by omega), Int.emod_lt_of_pos _ (by omega), Below.refl _ _⟩
  · have hp : i % len < len := Nat.mod_lt _ (by omega)
    have hq : (i + 1) % len < len := Nat.mod_lt _ (by omega)
    obtain ⟨b, off, u, rfl, _, u1, u2, hc1⟩ := H.out (i % len) hp
    obtain ⟨b', off', v, e', _, v1, v2, hc2⟩ := H.out ((i + 1) % len) hq
    cases e'
    have e1 : (i : Int) % (len : Int) = ((i % len : Nat) : Int) := by omega
    have e2 : ((i : Int) + 1) % (len : Int) = (((i + 1) % len : Nat) : Int) := by rw [Int.natCast_emod]; rfl
    generalize i % len = p at *
    generalize (i + 1) % len = q at *
    obtain ⟨d, hd⟩ : ∃ d : Nat, (i : Int) / (len : Int) = (d : Int) := ⟨i / len, by omega⟩
    have hd2 : d ≤ 10 := by
      have h1 : i / len ≤ i := Nat.div_le_self _ _
      have h2 : ((i / len : Nat) : Int) = (d : Int) := by omega
      omega
    have h0I : ¬ ((len : Int) = 0) := by omega
    have hpI : (p : Int) < (len : Int) := by omega
    have hqI : (q : Int) < (len : Int) := by omega
    clear H
    go_enter Try.func14, Try.ntmps14
    go_wp2_with fail
    go_quiet (fail)
    go_wp2
    go_ret
    exact ⟨(u * 31 + v + (d : Int)) % n, by go_num, Int.emod_nonneg _ (by omega), Int.emod_lt_of_pos _ (by omega), below_drewN (Below.refl _ _) _⟩


set_option maxRecDepth 100000 in
theorem at_one {w : World} {a : Option Addr} {cap len : Nat} (i : Nat) : Calls Try.prog 14 #[.slice a len cap, .int .i64 i, .int .i64 1] w fun e w' => e = .returned (.int .i64 0) ∧ w' = w := by
  go_enter Try.func14, Try.ntmps14
  go_wp2
  go_ret
  exact ⟨rfl, rfl⟩
set_option maxRecDepth 100000 in
theorem specCompare_ok (x y : V3) (w : World) (hx : okV3 x = true) (hy : okV3 y = true) :
    Calls Try.prog 18 #[VV x.1 x.2.1 x.2.2, VV y.1 y.2.1 y.2.2] w fun e w' => e = .returned (.tuple #[.int .i64 (cmp3 x y), .int .i64 0]) ∧ Below w.heap.size w w' := by
  obtain ⟨k1, n1, t1⟩ := x
  obtain ⟨k2, n2, t2⟩ := y
  have S1 := fun W => specValueOK_any k1 n1 t1 W
  have S2 := fun W => specValueOK_any k2 n2 t2 W
  rw [show okV k1 n1 t1 = true from hx] at S1
  rw [show okV k2 n2 t2 = true from hy] at S2
  have C := fun W => l01Compare_any k1 n1 t1 k2 n2 t2 W
  have HE : Hid (cmp3 (k1, n1, t1) (k2, n2, t2) = cmpV k1 n1 t1 k2 n2 t2) := rfl
  have W0 : Below w.heap.size w ((w.alloc (.cells #[.int .i64 k1, .int .i64 n1, .string t1] 39)).alloc (.cells #[.int .i64 k2, .int .i64 n2, .string t2] 39)) := ((Below.refl _ _).alloc (Nat.le_refl _) _).alloc (by simp) _
  obtain ⟨w0, hw0⟩ : ∃ w0, ((w.alloc (.cells #[.int .i64 k1, .int .i64 n1, .string t1] 39)).alloc (.cells #[.int .i64 k2, .int .i64 n2, .string t2] 39)) = w0 := ⟨_, rfl⟩
  have HX : Hid (∀ W, Below w0.heap.size w0 W → (W.cell? ⟨w.heap.size, 0, none⟩ = some (.int .i64 k1) ∧ W.cell? ⟨w.heap.size, 1, none⟩ = some (.int .i64 n1) ∧ W.cell? ⟨w.heap.size, 2, none⟩ = some (.string t1)) ∧ (W.cell? ⟨w.heap.size + 1, 0, none⟩ = some (.int .i64 k2) ∧ W.cell? ⟨w.heap.size + 1, 1, none⟩ = some (.int .i64 n2) ∧ W.cell? ⟨w.heap.size + 1, 2, none⟩ = some (.string t2))) := fun W hW => by
    have hs : w0.heap.size = w.heap.size + 2 := by rw [← hw0]; simp
    have c := fun g o (h : g < w.heap.size + 2) => hW.cell (p := ⟨g, o, none⟩) (by rw [hs]; exact h)
    refine ⟨⟨?_, ?_, ?_⟩, ?_, ?_, ?_⟩ <;> rw [c _ _ (by omega), ← hw0] <;> simp
  generalize hcc : cmp3 (k1, n1, t1) (k2, n2, t2) = cc at *
  clear hcc
  rw [hw0] at W0
  obtain ⟨⟨x0, x1, x2⟩, y0, y1, y2⟩ := HX.out w0 (Below.refl _ _)
  go_enter Try.func18, Try.ntmps18
  go_wp2_with fail
  refine (S1 _).mono ?_
  rintro e w1 ⟨rfl, b1⟩
  clear S1 x0 x1 x2 y0 y1 y2
  obtain ⟨⟨x0, x1, x2⟩, y0, y1, y2⟩ := HX.out w1 b1
  go_wp2_with fail
  refine (S2 _).mono ?_
  rintro e w2 ⟨rfl, b2⟩
  have B2 := below_step b1 (Nat.le_refl _) b2
  clear S2 x0 x1 x2 y0 y1 y2
  obtain ⟨⟨x0, x1, x2⟩, y0, y1, y2⟩ := HX.out w2 B2
  go_wp2_with fail
  refine (C _).mono ?_
  rintro e w3 ⟨rfl, b3⟩
  have B3 := W0.trans ((below_step B2 (Nat.le_refl _) b3).mono W0.size)
  clear C
  go_wp2
  go_ret2
  exact ⟨by rw [HE.out]; rfl, B3⟩
set_option maxHeartbeats 2000000 in
theorem sameRows_same (a1 a2 : Option Addr) (c1 c2 : Nat) (rs : Rs) (w : World) (h1 : RowR w a1 rs) (h2 : RowR w a2 rs) (hsm : SmallR rs) :
    Calls Try.prog 17 #[.slice a1 rs.length c1, .slice a2 rs.length c2] w fun e w' => e = .returned (.bool true) ∧ Below w.heap.size w w' := by
  have H1 : Hid (RowR w a1 rs) := h1
  have H2 : Hid (RowR w a2 rs) := h2
  have HM : Hid (∀ i, i < rs.length → (nthR rs i).length ≤ 1048576) := hsm.2
  have hlen := hsm.1
  clear h1 h2 hsm
  generalize hL : rs.length = len at *
  have HL : Hid (rs.length = len) := hL
  clear hL
  go_enter Try.func17, Try.ntmps17
  go_wp2
  go_loopw [5] (fun i wr => ∃ k : Nat, k ≤ len ∧ i = .int .i64 k ∧ Below w.heap.size w wr) (fun i _ => len - (intOf i).toNat)
  case atStart => exact ⟨0, by omega, rfl, Below.refl _ _⟩
  case round =>
    obtain ⟨k, hk, rfl, hbl⟩ := hrel
    by_cases hlt : k < len
    · obtain ⟨b1, o1, x1, d1, rfl, hlb1, hc1, hr1, hsz⟩ := (H1.out.below hbl) k (by rw [HL.out]; exact hlt)
      obtain ⟨b2, o2, x2, d2, rfl, hlb2, hc2, hr2, _⟩ := (H2.out.below hbl) k (by rw [HL.out]; exact hlt)
      have hq := HM.out k hlt
      have hS : ∀ W, RowV W x1 (nthR rs k) → RowV W x2 (nthR rs k) → Calls Try.prog 12 #[.slice x1 (nthR rs k).length d1, .slice x2 (nthR rs k).length d2] W fun e w' => e = .returned (.bool true) ∧ Below W.heap.size W w' := fun W p1 p2 => by
        have := sameRow_any x1 x2 d1 d2 (nthR rs k) (nthR rs k) W p1 p2 (by unfold maxLen; omega)
        rw [(eqRow_iff _ _).2 rfl] at this
        exact this
      have HS : Hid (∀ W, RowV W x1 (nthR rs k) → RowV W x2 (nthR rs k) → Calls Try.prog 12 #[.slice x1 (nthR rs k).length d1, .slice x2 (nthR rs k).length d2] W fun e w' => e = .returned (.bool true) ∧ Below W.heap.size W w') := hS
      clear hS
      generalize nthR rs k = vs at *
      have hP : PairR w b1 (o1 + k) x1 d1 b2 (o2 + k) x2 d2 vs wr.drew := ⟨hc1, hc2, ⟨hr1.below (Below.refl _ _).drew, hr2.below (Below.refl _ _).drew⟩, hlb1, hlb2, hbl.drew⟩
      clear hc1 hc2 hr1 hr2 hlb1 hlb2
      go_wp2_with fail
      go_region_held3 (PairR w b1 (o1 + k) x1 d1 b2 (o2 + k) x2 d2 vs) (first | exact hP | exact PairR.keep (by assumption) hb) (first | (go_at_call 12; refine (HS.out _ (show PairR w b1 (o1 + k) x1 d1 b2 (o2 + k) x2 d2 vs _ by assumption).2.2.1.1 (show PairR w b1 (o1 + k) x1 d1 b2 (o2 + k) x2 d2 vs _ by assumption).2.2.1.2).mono ?_; rintro e wA ⟨rfl, hb⟩))
      all_goals
        have hE : Below w.heap.size w wA := below_step hbl (Nat.le_refl _) ((Below.refl _ _).drew.trans hb)
        go_wp2
        go_roundw
        case rel => exact ⟨k + 1, by omega, by go_num, hE⟩
        case measure => simp [intOf]; omega
    · go_wp2
      go_ret
      exact ⟨rfl, hbl⟩
end Go.Proofs.Ytmcjgncpblbhpaa
