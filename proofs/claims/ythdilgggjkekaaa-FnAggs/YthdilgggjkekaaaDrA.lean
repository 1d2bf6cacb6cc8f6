/- A source of choices, and values drawn of it (stage 13; from r12's Source and Draw). -/
import Derived.Test.YthdilgggjkekaaaOrB
import Derived.Test.YthdilgggjkekaaaPrC
import Derived.BigQuiet
import Derived.BigRegion
import Derived.Deep.QuietTactic
namespace Go.Proofs.Ythdilgggjkekaaa.R
open Go.RowKit
def In64 (a : Int) : Prop := -9223372036854775808 ≤ a ∧ a ≤ 9223372036854775807
instance (a : Int) : Decidable (In64 a) := inferInstanceAs (Decidable (_ ∧ _))


/-- All old blocks but b are as they were. -/
structure But (b : Nat) (w w' : World) : Prop where
  os : w'.os = w.os
  tape : w'.tape = w.tape
  output : w'.output = w.output
  size : w.heap.size ≤ w'.heap.size
  block : ∀ k, k < w.heap.size → k ≠ b → w'.heap[k]? = w.heap[k]?

theorem But.refl (b : Nat) (w : World) : But b w w := ⟨rfl, rfl, rfl, Nat.le_refl _, fun _ _ _ => rfl⟩
theorem But.drew {b : Nat} {w w' : World} (h : But b w w') : But b w w'.drew := ⟨h.os, h.tape, h.output, h.size, h.block⟩
theorem But.drewN {b : Nat} {w w' : World} (h : But b w w') (n : Nat) : But b w (w'.drewN n) := ⟨h.os, h.tape, h.output, h.size, h.block⟩
theorem But.setCell {b : Nat} {w w' : World} (h : But b w w') (o : Nat) (v : Value) : But b w (w'.setCell ⟨b, o, none⟩ v) :=
  ⟨h.os, h.tape, h.output, by simpa [World.setCell] using h.size, fun k hk hb => (Below.heap_setCell _ _ _ _ hb).trans (h.block k hk hb)⟩
theorem But.trans {b : Nat} {w w1 w2 : World} (h : But b w w1) (h2 : But b w1 w2) : But b w w2 :=
  ⟨h2.os.trans h.os, h2.tape.trans h.tape, h2.output.trans h.output, Nat.le_trans h.size h2.size, fun k hk hb => (h2.block k (Nat.lt_of_lt_of_le hk h.size) hb).trans (h.block k hk hb)⟩

set_option maxRecDepth 100000 in
theorem byte_in (b : Nat) (a : Option Addr) (cb off : Nat) (len cap k : Nat) (c seed : Int) (w : World) (ha : a = some ⟨cb, off, none⟩)
    (hc0 : w.cell? ⟨b, 0, none⟩ = some (.slice a len cap)) (hc1 : w.cell? ⟨b, 1, none⟩ = some (.int .i64 k)) (hc2 : w.cell? ⟨b, 2, none⟩ = some (.int .i64 seed))
    (hf1 : w.frozen? ⟨b, 1, none⟩ = false) (hf2 : w.frozen? ⟨b, 2, none⟩ = false) (hne : cb ≠ b) (hk : k < len) (hlen : len ≤ 4194304) (hs0 : 0 ≤ seed) (hs1 : seed < 2147483648)
    (hcode : w.cell? ⟨cb, off + k, none⟩ = some (.int .u8 c)) (hb0 : 0 ≤ c) (hb1 : c ≤ 255) :
    Calls Try.prog 31 #[.pointer (some ⟨b, 0, none⟩)] w fun e w' => ∃ n s : Int, e = .returned (.int .i64 n) ∧ 0 ≤ n ∧ n ≤ 255 ∧ 0 ≤ s ∧ s < 2147483648 ∧ w'.cell? ⟨b, 0, none⟩ = some (.slice a len cap) ∧ w'.cell? ⟨b, 1, none⟩ = some (.int .i64 (k + 1)) ∧ w'.cell? ⟨b, 2, none⟩ = some (.int .i64 s) ∧ w'.frozen? ⟨b, 1, none⟩ = false ∧ w'.frozen? ⟨b, 2, none⟩ = false ∧ But b w w' := by
  subst ha
  go_enter Try.func31, Try.ntmps31
  go_wp2
  go_quiet (fail)
  go_wp2
  go_region
  go_wp2
  go_quiet (fail)
  go_wp2
  go_ret
  refine ⟨_, (seed * 31 + c + 7) % 2147483648, rfl, hb0, hb1, by omega, by omega, ?_, ?_, ?_, ?_, ?_, ?_⟩
  · go_simp
  · go_simp
  · go_simp
  · go_simp
  · go_simp
  · exact ((((But.refl b w).setCell 1 _).drewN _).setCell 2 _).drewN _

set_option maxRecDepth 100000 in
theorem byte_zero (b : Nat) (a : Option Addr) (len cap k : Nat) (seed : Int) (w : World)
    (hc0 : w.cell? ⟨b, 0, none⟩ = some (.slice a len cap)) (hc1 : w.cell? ⟨b, 1, none⟩ = some (.int .i64 k)) (hc2 : w.cell? ⟨b, 2, none⟩ = some (.int .i64 seed))
    (hf1 : w.frozen? ⟨b, 1, none⟩ = false) (hf2 : w.frozen? ⟨b, 2, none⟩ = false) (hk : len ≤ k) (hlen : k ≤ 4294304) (hs0 : 0 ≤ seed) (hs1 : seed < 2147483648) (hbig : 3000 ≤ k) :
    Calls Try.prog 31 #[.pointer (some ⟨b, 0, none⟩)] w fun e w' => ∃ n s : Int, e = .returned (.int .i64 n) ∧ 0 ≤ n ∧ n ≤ 255 ∧ 0 ≤ s ∧ s < 2147483648 ∧ w'.cell? ⟨b, 0, none⟩ = some (.slice a len cap) ∧ w'.cell? ⟨b, 1, none⟩ = some (.int .i64 (k + 1)) ∧ w'.cell? ⟨b, 2, none⟩ = some (.int .i64 s) ∧ w'.frozen? ⟨b, 1, none⟩ = false ∧ w'.frozen? ⟨b, 2, none⟩ = false ∧ But b w w' := by
  have hd : ¬ ((k : Int) + 1 ≤ (len : Int)) := by omega
  go_enter Try.func31, Try.ntmps31
  go_wp2
  go_quiet (fail)
  go_wp2
  go_ret
  refine ⟨0, seed, rfl, by omega, by omega, hs0, hs1, ?_, ?_, ?_, ?_, ?_, ?_⟩
  · go_simp
  · go_simp
  · go_simp
  · go_simp
  · go_simp
  · exact ((But.refl b w).setCell 1 _).drewN _

set_option maxRecDepth 100000 in
theorem byte_seed (b : Nat) (a : Option Addr) (len cap k : Nat) (seed : Int) (w : World)
    (hc0 : w.cell? ⟨b, 0, none⟩ = some (.slice a len cap)) (hc1 : w.cell? ⟨b, 1, none⟩ = some (.int .i64 k)) (hc2 : w.cell? ⟨b, 2, none⟩ = some (.int .i64 seed))
    (hf1 : w.frozen? ⟨b, 1, none⟩ = false) (hf2 : w.frozen? ⟨b, 2, none⟩ = false) (hk : len ≤ k) (hlen : k ≤ 4294304) (hs0 : 0 ≤ seed) (hs1 : seed < 2147483648) (hbig : k < 3000) :
    Calls Try.prog 31 #[.pointer (some ⟨b, 0, none⟩)] w fun e w' => ∃ n s : Int, e = .returned (.int .i64 n) ∧ 0 ≤ n ∧ n ≤ 255 ∧ 0 ≤ s ∧ s < 2147483648 ∧ w'.cell? ⟨b, 0, none⟩ = some (.slice a len cap) ∧ w'.cell? ⟨b, 1, none⟩ = some (.int .i64 (k + 1)) ∧ w'.cell? ⟨b, 2, none⟩ = some (.int .i64 s) ∧ w'.frozen? ⟨b, 1, none⟩ = false ∧ w'.frozen? ⟨b, 2, none⟩ = false ∧ But b w w' := by
  have hd : ¬ ((k : Int) + 1 ≤ (len : Int)) := by omega
  go_enter Try.func31, Try.ntmps31
  go_wp2
  go_quiet (fail)
  go_wp2
  go_ret
  refine ⟨(seed * 1103515245 + 12345) % 2147483648 / 65536 % 256, (seed * 1103515245 + 12345) % 2147483648, ?_, by omega, by omega, by omega, by omega, ?_, ?_, ?_, ?_, ?_, ?_⟩
  · go_num
  · go_simp
  · go_simp
  · go_simp
  · go_simp
  · go_simp
  · exact (((But.refl b w).setCell 1 _).drewN _).setCell 2 _

/-- A source of choices in block b: its code, a place of at most m, a seed. -/
structure Src (w : World) (b : Nat) (a : Option Addr) (len cap m : Nat) : Prop where
  c0 : w.cell? ⟨b, 0, none⟩ = some (.slice a len cap)
  ks : ∃ (k : Nat) (seed : Int), k ≤ m ∧ w.cell? ⟨b, 1, none⟩ = some (.int .i64 k) ∧ w.cell? ⟨b, 2, none⟩ = some (.int .i64 seed) ∧ 0 ≤ seed ∧ seed < 2147483648
  f1 : w.frozen? ⟨b, 1, none⟩ = false
  f2 : w.frozen? ⟨b, 2, none⟩ = false
  lenle : len ≤ 4194304
  code : ∀ i, i < len → ∃ cb off c, a = some ⟨cb, off, none⟩ ∧ cb ≠ b ∧ cb < w.heap.size ∧ 0 ≤ c ∧ c ≤ 255 ∧ w.cell? ⟨cb, off + i, none⟩ = some (.int .u8 c)

theorem But.cell {b : Nat} {w w' : World} (h : But b w w') {p : Addr} (hp : p.block < w.heap.size) (hb : p.block ≠ b) : w'.cell? p = w.cell? p := World.cell?_of_block (w := w) (h.block p.block hp hb)
theorem But.frozen {b : Nat} {w w' : World} (h : But b w w') {p : Addr} (hp : p.block < w.heap.size) (hb : p.block ≠ b) : w'.frozen? p = w.frozen? p := World.frozen?_of_block (w := w) (h.block p.block hp hb)
theorem But.of_below {b : Nat} {w w' : World} (h : Below w.heap.size w w') : But b w w' := ⟨h.os, h.tape, h.output, h.size, fun k hk _ => h.block k hk⟩
theorem But.below {b B : Nat} {w w1 w2 : World} (h : But b w1 w2) (hb : Below B w w1) (hB : B ≤ b) (hs : B ≤ w1.heap.size) : Below B w w2 :=
  ⟨h.os.trans hb.os, h.tape.trans hb.tape, h.output.trans hb.output, Nat.le_trans hb.size h.size, fun k hk => (h.block k (by omega) (by omega)).trans (hb.block k hk)⟩
theorem Src.lt {w : World} {b : Nat} {a : Option Addr} {len cap m : Nat} (h : Src w b a len cap m) : b < w.heap.size := World.block_lt_of_cell? w ⟨b, 0, none⟩ h.c0
theorem Src.below {w w' : World} {b : Nat} {a : Option Addr} {len cap m : Nat} (h : Src w b a len cap m) (hb : Below w.heap.size w w') : Src w' b a len cap m := by
  have hl := h.lt
  obtain ⟨k, seed, hk, h1, h2, h3, h4⟩ := h.ks
  refine ⟨(hb.cell (p := ⟨b, 0, none⟩) hl).trans h.c0, ⟨k, seed, hk, (hb.cell (p := ⟨b, 1, none⟩) hl).trans h1, (hb.cell (p := ⟨b, 2, none⟩) hl).trans h2, h3, h4⟩, (hb.frozen (p := ⟨b, 1, none⟩) hl).trans h.f1, (hb.frozen (p := ⟨b, 2, none⟩) hl).trans h.f2, h.lenle, fun i hi => ?_⟩
  obtain ⟨cb, off, c, e, hne, hlt, h0, h5, hc⟩ := h.code i hi
  exact ⟨cb, off, c, e, hne, Nat.lt_of_lt_of_le hlt hb.size, h0, h5, (hb.cell (p := ⟨cb, off + i, none⟩) hlt).trans hc⟩
theorem Src.mono {w : World} {b : Nat} {a : Option Addr} {len cap m m' : Nat} (h : Src w b a len cap m) (hm : m ≤ m') : Src w b a len cap m' :=
  ⟨h.c0, by obtain ⟨k, s, hk, r⟩ := h.ks; exact ⟨k, s, by omega, r⟩, h.f1, h.f2, h.lenle, h.code⟩

theorem byte_any {w : World} {b : Nat} {a : Option Addr} {len cap m : Nat} (h : Src w b a len cap m) (hm : m ≤ 100000) :
    Calls Try.prog 31 #[.pointer (some ⟨b, 0, none⟩)] w fun e w' => ∃ n : Int, e = .returned (.int .i64 n) ∧ 0 ≤ n ∧ n ≤ 255 ∧ Src w' b a len cap (m + 1) ∧ But b w w' := by
  obtain ⟨k, seed, hk, h1, h2, h3, h4⟩ := h.ks
  have fin : ∀ (e : Ending) (w' : World), (∃ n s : Int, e = .returned (.int .i64 n) ∧ 0 ≤ n ∧ n ≤ 255 ∧ 0 ≤ s ∧ s < 2147483648 ∧ w'.cell? ⟨b, 0, none⟩ = some (.slice a len cap) ∧ w'.cell? ⟨b, 1, none⟩ = some (.int .i64 (k + 1)) ∧ w'.cell? ⟨b, 2, none⟩ = some (.int .i64 s) ∧ w'.frozen? ⟨b, 1, none⟩ = false ∧ w'.frozen? ⟨b, 2, none⟩ = false ∧ But b w w') →
      ∃ n : Int, e = .returned (.int .i64 n) ∧ 0 ≤ n ∧ n ≤ 255 ∧ Src w' b a len cap (m + 1) ∧ But b w w' := by
    rintro e w' ⟨n, s, he, n0, n1, s0, s1, c0, c1, c2, f1, f2, hb⟩
    refine ⟨n, he, n0, n1, ⟨c0, ⟨k + 1, s, by omega, by simpa using c1, c2, s0, s1⟩, f1, f2, h.lenle, fun i hi => ?_⟩, hb⟩
    obtain ⟨cb, off, c, e, hne, hlt, h0, h5, hc⟩ := h.code i hi
    exact ⟨cb, off, c, e, hne, Nat.lt_of_lt_of_le hlt hb.size, h0, h5, (hb.cell (p := ⟨cb, off + i, none⟩) hlt hne).trans hc⟩
  by_cases hin : k < len
  · obtain ⟨cb, off, c, e, hne, hlt, h0, h5, hc⟩ := h.code k hin
    exact (byte_in b a cb off len cap k c seed w e h.c0 h1 h2 h.f1 h.f2 hne hin h.lenle h3 h4 hc h0 h5).mono fun e w' => fin e w'
  · by_cases hbig : 3000 ≤ k
    · exact (byte_zero b a len cap k seed w h.c0 h1 h2 h.f1 h.f2 (by omega) (by omega) h3 h4 hbig).mono fun e w' => fin e w'
    · exact (byte_seed b a len cap k seed w h.c0 h1 h2 h.f1 h.f2 (by omega) (by omega) h3 h4 (by omega)).mono fun e w' => fin e w'

theorem next_any {w : World} {b : Nat} {a : Option Addr} {len cap m : Nat} (n : Int) (h : Src w b a len cap m) (hm : m ≤ 100000) (h1 : 1 < n) (h2 : n ≤ 256) :
    Calls Try.prog 15 #[.pointer (some ⟨b, 0, none⟩), .int .i64 n] w fun e w' => ∃ r : Int, e = .returned (.int .i64 r) ∧ 0 ≤ r ∧ r < n ∧ Src w' b a len cap (m + 1) ∧ But b w w' := by
  go_enter Try.func15, Try.ntmps15
  go_wp2_with fail
  refine (byte_any h hm).mono ?_
  rintro e w1 ⟨r, rfl, r0, r1, hs, hb⟩
  go_wp2
  go_ret
  exact ⟨r % n, by go_num, Int.emod_nonneg _ (by omega), Int.emod_lt_of_pos _ (by omega), hs, hb⟩


/-- A block that holds numbers alone. -/
theorem int_at {b : Nat} {w w1 : World} {C : Array Value} {ty : TypeId} {i : Nat} (hB : But b (w.alloc (.cells C ty)) w1) (hb : b < w.heap.size) (hC : ∀ x ∈ C, ∃ v : Int, x = .int .i64 v ∧ In64 v) (hi : i < C.size) :
    ∃ v : Int, w1.cell? ⟨w.heap.size, i, none⟩ = some (.int .i64 v) ∧ In64 v := by
  obtain ⟨v, hv, hi64⟩ := hC C[i] (Array.getElem_mem hi)
  refine ⟨v, ?_, hi64⟩
  rw [hB.cell (p := ⟨w.heap.size, i, none⟩) (by simp) (by simp; omega), World.cell?_alloc_at _ _ _ _ rfl, Array.getElem?_eq_getElem hi, hv]

/-- A new block that holds short texts alone. -/
theorem str_at {w : World} {C : Array Value} {ty : TypeId} {i : Nat} (hC : ∀ x ∈ C, ∃ t : ByteArray, x = .string t ∧ t.size ≤ 8) (hi : i < C.size) :
    ∃ t : ByteArray, (w.alloc (.cells C ty)).cell? ⟨w.heap.size, i, none⟩ = some (.string t) ∧ t.size ≤ 8 := by
  obtain ⟨t, hv, ht⟩ := hC C[i] (Array.getElem_mem hi)
  exact ⟨t, by rw [World.cell?_alloc_at _ _ _ _ rfl, Array.getElem?_eq_getElem hi, hv], ht⟩

theorem odd_any {w : World} {b : Nat} {a : Option Addr} {len cap m : Nat} (h : Src w b a len cap m) (hm : m ≤ 100000) :
    Calls Try.prog 32 #[.pointer (some ⟨b, 0, none⟩)] w fun e w' => ∃ r : Int, e = .returned (.int .i64 r) ∧ In64 r ∧ Src w' b a len cap (m + 1) ∧ But b w w' := by
  have hl := h.lt
  go_enter Try.func32, Try.ntmps32
  go_wp2_with fail
  refine (next_any 12 (h.below ((Below.refl _ _).alloc (Nat.le_refl _) _)) hm (by omega) (by omega)).mono ?_
  rintro e w1 ⟨r, rfl, r0, r1, hs, hb⟩
  obtain ⟨k, rfl⟩ := Int.eq_ofNat_of_zero_le r0
  obtain ⟨v, hv, hvi⟩ := int_at (i := k) hb hl (by intro x hx; simp at hx; rcases hx with rfl | rfl | rfl | rfl | rfl | rfl | rfl | rfl | rfl | rfl | rfl | rfl <;> exact ⟨_, rfl, by decide⟩) (by simp; omega)
  have HV : Hid (In64 v) := hvi
  clear hvi
  have hB := (But.of_below (b := b) ((Below.refl w.heap.size w).alloc (Nat.le_refl _) _)).trans hb
  clear h
  go_wp2
  go_ret
  exact ⟨v, rfl, HV.out, hs, hB⟩

theorem pick_any {w : World} {b : Nat} {a : Option Addr} {len cap m : Nat} (h : Src w b a len cap m) (hm : m ≤ 100000) (sb n : Nat) (h1 : 1 < n) (h2 : n ≤ 256) (hne : sb ≠ b) (hlt : sb < w.heap.size)
    (hstr : ∀ i, i < n → ∃ t : ByteArray, w.cell? ⟨sb, i, none⟩ = some (.string t) ∧ t.size ≤ 8) :
    Calls Try.prog 43 #[.pointer (some ⟨b, 0, none⟩), .slice (some ⟨sb, 0, none⟩) n n] w fun e w' => ∃ t : ByteArray, e = .returned (.string t) ∧ t.size ≤ 8 ∧ Src w' b a len cap (m + 1) ∧ But b w w' := by
  have hz : ((n : Int) == 0) = false := beq_eq_false_iff_ne.2 (by omega)
  have HS : Hid (∀ i, i < n → ∃ t : ByteArray, w.cell? ⟨sb, i, none⟩ = some (.string t) ∧ t.size ≤ 8) := hstr
  clear hstr
  go_enter Try.func43, Try.ntmps43
  go_wp2_with fail
  refine (next_any (n : Int) h hm (by omega) (by omega)).mono ?_
  rintro e w1 ⟨r, rfl, r0, r1, hs, hb⟩
  obtain ⟨k, rfl⟩ := Int.eq_ofNat_of_zero_le r0
  obtain ⟨t, hv, ht⟩ := HS.out k (by omega)
  have hc : w1.cell? ⟨sb, k, none⟩ = some (.string t) := (hb.cell (p := ⟨sb, k, none⟩) hlt hne).trans hv
  clear h
  go_wp2
  go_ret
  exact ⟨t, rfl, ht, hs, hb⟩

theorem word_any {w : World} {b : Nat} {a : Option Addr} {len cap m : Nat} (h : Src w b a len cap m) (hm : m ≤ 100000) :
    Calls Try.prog 33 #[.pointer (some ⟨b, 0, none⟩)] w fun e w' => ∃ t : ByteArray, e = .returned (.string t) ∧ t.size ≤ 8 ∧ Src w' b a len cap (m + 1) ∧ But b w w' := by
  have hl := h.lt
  go_enter Try.func33, Try.ntmps33
  go_wp2_with fail
  refine (pick_any (h.below ((Below.refl _ _).alloc (Nat.le_refl _) _)) hm w.heap.size 10 (by omega) (by omega) (by omega) (by simp) ?_).mono ?_
  · exact fun i hi => str_at (by intro x hx; simp at hx; rcases hx with rfl | rfl | rfl | rfl | rfl | rfl | rfl | rfl | rfl | rfl <;> exact ⟨_, rfl, by decide⟩) (by simpa using hi)
  rintro e w1 ⟨t, rfl, ht, hs, hb⟩
  have hB := (But.of_below (b := b) ((Below.refl w.heap.size w).alloc (Nat.le_refl _) _)).trans hb
  go_wp2
  go_ret
  exact ⟨t, rfl, ht, hs, hB⟩

theorem okV_null : okV 0 0 ⟨#[]⟩ = true := by simp [okV, ByteArray.toList_eq]
theorem okV_bool (r : Int) (h0 : 0 ≤ r) (h1 : r < 2) : okV 1 r ⟨#[]⟩ = true := by
  have h : inB r 0 1 = true := decide_eq_true ⟨h0, by omega⟩
  simp [okV, ByteArray.toList_eq, h]
theorem okV_int (r : Int) : okV 2 r ⟨#[]⟩ = true := by simp [okV, ByteArray.toList_eq]
theorem okV_text (t : ByteArray) (h : t.size ≤ 8) : okV 3 0 t = true := by simp [okV]; omega
theorem okV_bytes (t : ByteArray) (h : t.size ≤ 8) : okV 4 0 t = true := by simp [okV]; omega

/-- A store into the result's block, which lies behind w. -/
theorem But.res {b : Nat} {w w1 : World} (h : But b w w1) (o : Nat) (v : Value) : But b w (w1.setCell ⟨w.heap.size, o, none⟩ v) :=
  ⟨h.os, h.tape, h.output, by simpa [World.setCell] using h.size, fun k hk hkb => (Below.heap_setCell _ _ _ _ (by simp; omega)).trans (h.block k hk hkb)⟩
theorem Src.res {w w1 : World} {b : Nat} {a : Option Addr} {len cap m : Nat} (h : Src w1 b a len cap m) (hb : b < w.heap.size) (o : Nat) (v : Value) (hcode : 0 < len → ∀ x, a = some x → x.block < w.heap.size) : Src (w1.setCell ⟨w.heap.size, o, none⟩ v) b a len cap m := by
  obtain ⟨k, seed, hk, h1, h2, h3, h4⟩ := h.ks
  have hc : ∀ p : Addr, p.block ≠ w.heap.size → (w1.setCell ⟨w.heap.size, o, none⟩ v).cell? p = w1.cell? p := fun p hp => World.cell?_of_block (Below.heap_setCell _ _ _ _ hp)
  have hf : ∀ p : Addr, p.block ≠ w.heap.size → (w1.setCell ⟨w.heap.size, o, none⟩ v).frozen? p = w1.frozen? p := fun p hp => World.frozen?_of_block (Below.heap_setCell _ _ _ _ hp)
  refine ⟨(hc ⟨b, 0, none⟩ (by simp; omega)).trans h.c0, ⟨k, seed, hk, (hc ⟨b, 1, none⟩ (by simp; omega)).trans h1, (hc ⟨b, 2, none⟩ (by simp; omega)).trans h2, h3, h4⟩, (hf ⟨b, 1, none⟩ (by simp; omega)).trans h.f1, (hf ⟨b, 2, none⟩ (by simp; omega)).trans h.f2, h.lenle, fun i hi => ?_⟩
  obtain ⟨cb, off, c, e, hne, hlt, h0, h5, hcc⟩ := h.code i hi
  have := hcode (by omega) _ e
  exact ⟨cb, off, c, e, hne, by simpa [World.setCell] using hlt, h0, h5, (hc ⟨cb, off + i, none⟩ (by simp at this ⊢; omega)).trans hcc⟩

/-- The three cells of the result's block, behind what a draw leaves. -/
theorem res_cells {b : Nat} {w w1 : World} {c0 c1 c2 : Value} {ty : TypeId} (hb : But b (w.alloc (.cells #[c0, c1, c2] ty)) w1) (hl : b < w.heap.size) :
    w1.cell? ⟨w.heap.size, 0, none⟩ = some c0 ∧ w1.cell? ⟨w.heap.size, 1, none⟩ = some c1 ∧ w1.cell? ⟨w.heap.size, 2, none⟩ = some c2 ∧ (∀ o, w1.frozen? ⟨w.heap.size, o, none⟩ = false) ∧ w.heap.size < w1.heap.size ∧ But b w w1 := by
  have hc : ∀ o, w1.cell? ⟨w.heap.size, o, none⟩ = #[c0, c1, c2][o]? := fun o =>
    (hb.cell (p := ⟨w.heap.size, o, none⟩) (by simp) (by simp; omega)).trans (World.cell?_alloc_at _ _ _ _ rfl)
  refine ⟨hc 0, hc 1, hc 2, fun o => ?_, by have := hb.size; simp at this; omega, (But.of_below (b := b) ((Below.refl w.heap.size w).alloc (Nat.le_refl _) _)).trans hb⟩
  rw [hb.frozen (p := ⟨w.heap.size, o, none⟩) (by simp) (by simp; omega)]; go_simp

set_option maxHeartbeats 1000000 in
theorem value_any {w : World} {b : Nat} {a : Option Addr} {len cap m : Nat} (h : Src w b a len cap m) (hm : m ≤ 90000) (hcode : 0 < len → ∀ x, a = some x → x.block < w.heap.size) :
    Calls Try.prog 16 #[.pointer (some ⟨b, 0, none⟩)] w fun e w' => ∃ (k n : Int) (t : ByteArray), e = .returned (VV k n t) ∧ okV k n t = true ∧ In64 n ∧ t.size ≤ 8 ∧ Src w' b a len cap (m + 5) ∧ But b w w' := by
  have hl := h.lt
  have HC : Hid (0 < len → ∀ x, a = some x → x.block < w.heap.size) := hcode
  clear hcode
  go_enter Try.func16, Try.ntmps16
  go_wp2_with fail
  refine (next_any 6 (h.below ((Below.refl _ _).alloc (Nat.le_refl _) _)) (by omega) (by omega) (by omega)).mono ?_
  rintro e w1 ⟨r, rfl, r0, r1, hs, hb⟩
  clear h
  obtain ⟨k0, k1, k2, hf, hz, hB⟩ := res_cells hb hl
  rcases (show r = 0 ∨ r = 1 ∨ (r = 2 ∨ r = 3) ∨ r = 4 ∨ r = 5 by omega) with rfl | rfl | hr | rfl | rfl
  · go_wp2
    refine bodyPost_ret (v := VV 0 0 ⟨#[]⟩) (by simp [results, Try.results16, go_sem, k0, k1, k2]) rfl ⟨0, 0, ⟨#[]⟩, rfl, okV_null, by decide, by decide, ?_, ?_⟩
    · repeat (first | exact hs.mono (by omega) | refine Src.res ?_ hl _ _ HC.out)
    · repeat (first | exact hB | refine But.res ?_ _ _)
  · go_wp2_with fail
    refine (next_any 2 hs (by omega) (by omega) (by omega)).mono ?_
    rintro e w2 ⟨q, rfl, q0, q1, hs2, hb2⟩
    clear k0 k1 k2 hf hz hB hs
    obtain ⟨k0, k1, k2, hf, hz, hB⟩ := res_cells (hb.trans hb2) hl
    clear hb hb2
    go_wp2
    refine bodyPost_ret (v := VV 1 q ⟨#[]⟩) (by simp [results, Try.results16, go_sem, k0, k1, k2]) rfl ⟨1, q, ⟨#[]⟩, rfl, okV_bool q q0 q1, by unfold In64; omega, by decide, ?_, ?_⟩
    · repeat (first | exact hs2.mono (by omega) | refine Src.res ?_ hl _ _ HC.out)
    · repeat (first | exact hB | refine But.res ?_ _ _)
  · have hr0 : (r == 0) = false := beq_eq_false_iff_ne.2 (by omega)
    have hr1 : (r == 1) = false := beq_eq_false_iff_ne.2 (by omega)
    rcases hr with rfl | rfl
    all_goals
      go_wp2_with fail
      refine (next_any 10 hs (by omega) (by omega) (by omega)).mono ?_
      rintro e w2 ⟨q2, rfl, q20, q21, hs2, hb2⟩
      go_wp2_with fail
      refine (next_any 10 hs2 (by omega) (by omega) (by omega)).mono ?_
      rintro e w3 ⟨q3, rfl, q30, q31, hs3, hb3⟩
      go_wp2_with fail
      refine (odd_any hs3 (by omega)).mono ?_
      rintro e w4 ⟨q4, rfl, q4i, hs4, hb4⟩
      have HQ : Hid (In64 q4) := q4i
      clear q4i
      go_wp2_with fail
      refine (next_any 3 (hs4.below ((Below.refl _ _).alloc (Nat.le_refl _) _)) (by omega) (by omega) (by omega)).mono ?_
      rintro e w5 ⟨q5, rfl, q50, q51, hs5, hb5⟩
      obtain ⟨j, rfl⟩ := Int.eq_ofNat_of_zero_le q50
      obtain ⟨v, hv, hvi⟩ := int_at (i := j) hb5 hs4.lt (by intro x hx; simp at hx; rcases hx with rfl | rfl | rfl; exact ⟨_, rfl, by unfold In64; omega⟩; exact ⟨_, rfl, by unfold In64; omega⟩; exact ⟨_, rfl, HQ.out⟩) (by simp; omega)
      have HV : Hid (In64 v) := hvi
      clear hvi
      have hbb := (((hb.trans hb2).trans hb3).trans hb4).trans ((But.of_below (b := b) ((Below.refl w4.heap.size w4).alloc (Nat.le_refl _) _)).trans hb5)
      clear k0 k1 k2 hf hz hB hs hs2 hs3 hs4 hb2 hb3 hb4 hb5
      obtain ⟨k0, k1, k2, hf, hz, hB⟩ := res_cells hbb hl
      clear hb hbb
      go_wp2
      refine bodyPost_ret (v := VV 2 v ⟨#[]⟩) (by simp [results, Try.results16, go_sem, k0, k1, k2]) rfl ⟨2, v, ⟨#[]⟩, rfl, okV_int v, HV.out, by decide, ?_, ?_⟩
      · repeat (first | exact hs5.mono (by omega) | refine Src.res ?_ hl _ _ HC.out)
      · repeat (first | exact hB | refine But.res ?_ _ _)
  · go_wp2_with fail
    refine (word_any hs (by omega)).mono ?_
    rintro e w2 ⟨t, rfl, ht, hs2, hb2⟩
    clear k0 k1 k2 hf hz hB hs
    obtain ⟨k0, k1, k2, hf, hz, hB⟩ := res_cells (hb.trans hb2) hl
    clear hb hb2
    go_wp2
    refine bodyPost_ret (v := VV 3 0 t) (by simp [results, Try.results16, go_sem, k0, k1, k2]) rfl ⟨3, 0, t, rfl, okV_text t ht, by decide, ht, ?_, ?_⟩
    · repeat (first | exact hs2.mono (by omega) | refine Src.res ?_ hl _ _ HC.out)
    · repeat (first | exact hB | refine But.res ?_ _ _)
  · go_wp2_with fail
    refine (word_any hs (by omega)).mono ?_
    rintro e w2 ⟨t, rfl, ht, hs2, hb2⟩
    clear k0 k1 k2 hf hz hB hs
    obtain ⟨k0, k1, k2, hf, hz, hB⟩ := res_cells (hb.trans hb2) hl
    clear hb hb2
    go_wp2
    refine bodyPost_ret (v := VV 4 0 t) (by simp [results, Try.results16, go_sem, k0, k1, k2]) rfl ⟨4, 0, t, rfl, okV_bytes t ht, by decide, ht, ?_, ?_⟩
    · repeat (first | exact hs2.mono (by omega) | refine Src.res ?_ hl _ _ HC.out)
    · repeat (first | exact hB | refine But.res ?_ _ _)

/-- The bytes of a slice can be read. -/
def Code (w : World) (a : Option Addr) (len : Nat) : Prop :=
  ∀ i, i < len → ∃ cb off c, a = some ⟨cb, off, none⟩ ∧ cb < w.heap.size ∧ (0 : Int) ≤ c ∧ c ≤ 255 ∧ w.cell? ⟨cb, off + i, none⟩ = some (.int .u8 c)
theorem Code.below {w w' : World} {a : Option Addr} {len B : Nat} (h : Code w a len) (hb : Below B w w') (hB : ∀ x, a = some x → 0 < len → x.block < B) : Code w' a len := fun i hi => by
  obtain ⟨cb, off, c, e, hlt, h0, h5, hc⟩ := h i hi
  have := hB _ e (by omega)
  exact ⟨cb, off, c, e, Nat.lt_of_lt_of_le hlt hb.size, h0, h5, (hb.cell (p := ⟨cb, off + i, none⟩) this).trans hc⟩
theorem Code.lt {w : World} {a : Option Addr} {len : Nat} (h : Code w a len) : 0 < len → ∀ x, a = some x → x.block < w.heap.size := fun hl x hx => by
  obtain ⟨cb, off, c, e, hlt, _⟩ := h 0 hl
  rw [hx] at e
  cases e
  exact hlt

theorem source_any {w : World} {a : Option Addr} {len cap : Nat} (h : Code w a len) (hlen : len ≤ 4194304) :
    Calls Try.prog 8 #[.slice a len cap] w fun e w' => e = .returned (.pointer (some ⟨w.heap.size, 0, none⟩)) ∧ Src w' w.heap.size a len cap 0 ∧ Below w.heap.size w w' := by
  have HC : Hid (Code w a len) := h
  clear h
  go_enter Try.func8, Try.ntmps8
  go_wp2
  go_ret
  have hB : Below w.heap.size w (w.alloc (.cells #[.slice a len cap, .int .i64 0, .int .i64 ((len : Int) % 1000)] 40)) := (Below.refl _ _).alloc (Nat.le_refl _) _
  refine ⟨rfl, ⟨by go_simp, ⟨0, (len : Int) % 1000, by omega, by go_simp, by go_simp, by omega, by omega⟩, by go_simp, by go_simp, hlen, fun i hi => ?_⟩, hB⟩
  obtain ⟨cb, off, c, e, hlt, h0, h5, hc⟩ := HC.out i hi
  exact ⟨cb, off, c, e, by omega, by simp; omega, h0, h5, (hB.cell (p := ⟨cb, off + i, none⟩) hlt).trans hc⟩


end Go.Proofs.Ythdilgggjkekaaa.R
