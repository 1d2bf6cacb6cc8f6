/- A source of choices (spec's l00Src): what its methods byte and next answer and leave. -/
import Derived.Test.YthdilgggjkekaaaCompare
import Derived.BigQuiet
import Derived.BigRegion
import Derived.Deep.QuietTactic
namespace Go.Proofs.Ythdilgggjkekaaa
open Go.RowKit

/-- All old blocks but b are as they were. -/
structure But (b : Nat) (w w' : World) : Prop where
  os : w'.os = w.os
  tape : w'.tape = w.tape
  output : w'.output = w.output
  size : w.heap.size ≤ w'.heap.size
  block : ∀ k, k < w.heap.size → k ≠ b → w'.heap[k]? = w.heap[k]?

theorem But.refl (b : Nat) (w : World) : But b w w := ⟨rfl, rfl, rfl, Nat.le_refl _, fun _ _ _ => rfl⟩
theorem But.drew {b : Nat} {w w' : World} (h : But b w w') : But b w w'.drew := ⟨h.os, h.tape, h.output, h.size, h.block⟩
theorem But.drewN {b : Nat} {w w' : World} (h : But b w w') (n : Nat) : But b w (w'.drewN n) := ⟨h.os, h.tape, h.output, h.size, h.block⟩
theorem But.setCell {b : Nat} {w w' : World} (h : But b w w') (o : Nat) (v : Value) : But b w (w'.setCell ⟨b, o, none⟩ v) :=
  ⟨h.os, h.tape, h.output, by simpa [World.setCell] using h.size, fun k hk hb => (Below.heap_setCell _ _ _ _ hb).trans (h.block k hk hb)⟩
theorem But.trans {b : Nat} {w w1 w2 : World} (h : But b w w1) (h2 : But b w1 w2) : But b w w2 :=
  ⟨h2.os.trans h.os, h2.tape.trans h.tape, h2.output.trans h.output, Nat.le_trans h.size h2.size, fun k hk hb => (h2.block k (Nat.lt_of_lt_of_le hk h.size) hb).trans (h.block k hk hb)⟩

set_option maxRecDepth 100000 in
theorem byte_in (b : Nat) (a : Option Addr) (cb off : Nat) (len cap k : Nat) (c seed : Int) (w : World) (ha : a = some ⟨cb, off, none⟩)
    (hc0 : w.cell? ⟨b, 0, none⟩ = some (.slice a len cap)) (hc1 : w.cell? ⟨b, 1, none⟩ = some (.int .i64 k)) (hc2 : w.cell? ⟨b, 2, none⟩ = some (.int .i64 seed))
    (hf1 : w.frozen? ⟨b, 1, none⟩ = false) (hf2 : w.frozen? ⟨b, 2, none⟩ = false) (hne : cb ≠ b) (hk : k < len) (hlen : len ≤ 4194304) (hs0 : 0 ≤ seed) (hs1 : seed < 2147483648)
    (hcode : w.cell? ⟨cb, off + k, none⟩ = some (.int .u8 c)) (hb0 : 0 ≤ c) (hb1 : c ≤ 255) :
    Calls Try.prog 31 #[.pointer (some ⟨b, 0, none⟩)] w fun e w' => ∃ n s : Int, e = .returned (.int .i64 n) ∧ 0 ≤ n ∧ n ≤ 255 ∧ 0 ≤ s ∧ s < 2147483648 ∧ w'.cell? ⟨b, 0, none⟩ = some (.slice a len cap) ∧ w'.cell? ⟨b, 1, none⟩ = some (.int .i64 (k + 1)) ∧ w'.cell? ⟨b, 2, none⟩ = some (.int .i64 s) ∧ w'.frozen? ⟨b, 1, none⟩ = false ∧ w'.frozen? ⟨b, 2, none⟩ = false ∧ But b w w' := by
  subst ha
  go_enter Try.func31, Try.ntmps31
  go_wp2
  go_quiet (fail)
  go_wp2
  go_region
  go_wp2
  go_quiet (fail)
  go_wp2
  go_ret
  refine ⟨_, (seed * 31 + c + 7) % 2147483648, rfl, hb0, hb1, by omega, by omega, ?_, ?_, ?_, ?_, ?_, ?_⟩
  · go_simp
  · go_simp
  · go_simp
  · go_simp
  · go_simp
  · exact ((((But.refl b w).setCell 1 _).drewN _).setCell 2 _).drewN _

set_option maxRecDepth 100000 in
theorem byte_zero (b : Nat) (a : Option Addr) (len cap k : Nat) (seed : Int) (w : World)
    (hc0 : w.cell? ⟨b, 0, none⟩ = some (.slice a len cap)) (hc1 : w.cell? ⟨b, 1, none⟩ = some (.int .i64 k)) (hc2 : w.cell? ⟨b, 2, none⟩ = some (.int .i64 seed))
    (hf1 : w.frozen? ⟨b, 1, none⟩ = false) (hf2 : w.frozen? ⟨b, 2, none⟩ = false) (hk : len ≤ k) (hlen : k ≤ 4294304) (hs0 : 0 ≤ seed) (hs1 : seed < 2147483648) (hbig : 3000 ≤ k) :
    Calls Try.prog 31 #[.pointer (some ⟨b, 0, none⟩)] w fun e w' => ∃ n s : Int, e = .returned (.int .i64 n) ∧ 0 ≤ n ∧ n ≤ 255 ∧ 0 ≤ s ∧ s < 2147483648 ∧ w'.cell? ⟨b, 0, none⟩ = some (.slice a len cap) ∧ w'.cell? ⟨b, 1, none⟩ = some (.int .i64 (k + 1)) ∧ w'.cell? ⟨b, 2, none⟩ = some (.int .i64 s) ∧ w'.frozen? ⟨b, 1, none⟩ = false ∧ w'.frozen? ⟨b, 2, none⟩ = false ∧ But b w w' := by
  have hd : ¬ ((k : Int) + 1 ≤ (len : Int)) := by omega
  go_enter Try.func31, Try.ntmps31
  go_wp2
  go_quiet (fail)
  go_wp2
  go_ret
  refine ⟨0, seed, rfl, by omega, by omega, hs0, hs1, ?_, ?_, ?_, ?_, ?_, ?_⟩
  · go_simp
  · go_simp
  · go_simp
  · go_simp
  · go_simp
  · exact ((But.refl b w).setCell 1 _).drewN _

set_option maxRecDepth 100000 in
theorem byte_seed (b : Nat) (a : Option Addr) (len cap k : Nat) (seed : Int) (w : World)
    (hc0 : w.cell? ⟨b, 0, none⟩ = some (.slice a len cap)) (hc1 : w.cell? ⟨b, 1, none⟩ = some (.int .i64 k)) (hc2 : w.cell? ⟨b, 2, none⟩ = some (.int .i64 seed))
    (hf1 : w.frozen? ⟨b, 1, none⟩ = false) (hf2 : w.frozen? ⟨b, 2, none⟩ = false) (hk : len ≤ k) (hlen : k ≤ 4294304) (hs0 : 0 ≤ seed) (hs1 : seed < 2147483648) (hbig : k < 3000) :
    Calls Try.prog 31 #[.pointer (some ⟨b, 0, none⟩)] w fun e w' => ∃ n s : Int, e = .returned (.int .i64 n) ∧ 0 ≤ n ∧ n ≤ 255 ∧ 0 ≤ s ∧ s < 2147483648 ∧ w'.cell? ⟨b, 0, none⟩ = some (.slice a len cap) ∧ w'.cell? ⟨b, 1, none⟩ = some (.int .i64 (k + 1)) ∧ w'.cell? ⟨b, 2, none⟩ = some (.int .i64 s) ∧ w'.frozen? ⟨b, 1, none⟩ = false ∧ w'.frozen? ⟨b, 2, none⟩ = false ∧ But b w w' := by
  have hd : ¬ ((k : Int) + 1 ≤ (len : Int)) := by omega
  go_enter Try.func31, Try.ntmps31
  go_wp2
  go_quiet (fail)
  go_wp2
  go_ret
  refine ⟨(seed * 1103515245 + 12345) % 2147483648 / 65536 % 256, (seed * 1103515245 + 12345) % 2147483648, ?_, by omega, by omega, by omega, by omega, ?_, ?_, ?_, ?_, ?_, ?_⟩
  · go_num
  · go_simp
  · go_simp
  · go_simp
  · go_simp
  · go_simp
  · exact (((But.refl b w).setCell 1 _).drewN _).setCell 2 _

/-- A source of choices in block b: its code, a place of at most m, a seed. -/
structure Src (w : World) (b : Nat) (a : Option Addr) (len cap m : Nat) : Prop where
  c0 : w.cell? ⟨b, 0, none⟩ = some (.slice a len cap)
  ks : ∃ (k : Nat) (seed : Int), k ≤ m ∧ w.cell? ⟨b, 1, none⟩ = some (.int .i64 k) ∧ w.cell? ⟨b, 2, none⟩ = some (.int .i64 seed) ∧ 0 ≤ seed ∧ seed < 2147483648
  f1 : w.frozen? ⟨b, 1, none⟩ = false
  f2 : w.frozen? ⟨b, 2, none⟩ = false
  lenle : len ≤ 4194304
  code : ∀ i, i < len → ∃ cb off c, a = some ⟨cb, off, none⟩ ∧ cb ≠ b ∧ cb < w.heap.size ∧ 0 ≤ c ∧ c ≤ 255 ∧ w.cell? ⟨cb, off + i, none⟩ = some (.int .u8 c)

theorem But.cell {b : Nat} {w w' : World} (h : But b w w') {p : Addr} (hp : p.block < w.heap.size) (hb : p.block ≠ b) : w'.cell? p = w.cell? p := World.cell?_of_block (w := w) (h.block p.block hp hb)
theorem But.frozen {b : Nat} {w w' : World} (h : But b w w') {p : Addr} (hp : p.block < w.heap.size) (hb : p.block ≠ b) : w'.frozen? p = w.frozen? p := World.frozen?_of_block (w := w) (h.block p.block hp hb)
theorem But.of_below {b : Nat} {w w' : World} (h : Below w.heap.size w w') : But b w w' := ⟨h.os, h.tape, h.output, h.size, fun k hk _ => h.block k hk⟩
theorem But.below {b B : Nat} {w w1 w2 : World} (h : But b w1 w2) (hb : Below B w w1) (hB : B ≤ b) (hs : B ≤ w1.heap.size) : Below B w w2 :=
  ⟨h.os.trans hb.os, h.tape.trans hb.tape, h.output.trans hb.output, Nat.le_trans hb.size h.size, fun k hk => (h.block k (by omega) (by omega)).trans (hb.block k hk)⟩
theorem Src.lt {w : World} {b : Nat} {a : Option Addr} {len cap m : Nat} (h : Src w b a len cap m) : b < w.heap.size := World.block_lt_of_cell? w ⟨b, 0, none⟩ h.c0
theorem Src.below {w w' : World} {b : Nat} {a : Option Addr} {len cap m : Nat} (h : Src w b a len cap m) (hb : Below w.heap.size w w') : Src w' b a len cap m := by
  have hl := h.lt
  obtain ⟨k, seed, hk, h1, h2, h3, h4⟩ := h.ks
  refine ⟨(hb.cell (p := ⟨b, 0, none⟩) hl).trans h.c0, ⟨k, seed, hk, (hb.cell (p := ⟨b, 1, none⟩) hl).trans h1, (hb.cell (p := ⟨b, 2, none⟩) hl).trans h2, h3, h4⟩, (hb.frozen (p := ⟨b, 1, none⟩) hl).trans h.f1, (hb.frozen (p := ⟨b, 2, none⟩) hl).trans h.f2, h.lenle, fun i hi => ?_⟩
  obtain ⟨cb, off, c, e, hne, hlt, h0, h5, hc⟩ := h.code i hi
  exact ⟨cb, off, c, e, hne, Nat.lt_of_lt_of_le hlt hb.size, h0, h5, (hb.cell (p := ⟨cb, off + i, none⟩) hlt).trans hc⟩
theorem Src.mono {w : World} {b : Nat} {a : Option Addr} {len cap m m' : Nat} (h : Src w b a len cap m) (hm : m ≤ m') : Src w b a len cap m' :=
  ⟨h.c0, by obtain ⟨k, s, hk, r⟩ := h.ks; exact ⟨k, s, by omega, r⟩, h.f1, h.f2, h.lenle, h.code⟩

theorem byte_any {w : World} {b : Nat} {a : Option Addr} {len cap m : Nat} (h : Src w b a len cap m) (hm : m ≤ 100000) :
    Calls Try.prog 31 #[.pointer (some ⟨b, 0, none⟩)] w fun e w' => ∃ n : Int, e = .returned (.int .i64 n) ∧ 0 ≤ n ∧ n ≤ 255 ∧ Src w' b a len cap (m + 1) ∧ But b w w' := by
  obtain ⟨k, seed, hk, h1, h2, h3, h4⟩ := h.ks
  have fin : ∀ (e : Ending) (w' : World), (∃ n s : Int, e = .returned (.int .i64 n) ∧ 0 ≤ n ∧ n ≤ 255 ∧ 0 ≤ s ∧ s < 2147483648 ∧ w'.cell? ⟨b, 0, none⟩ = some (.slice a len cap) ∧ w'.cell? ⟨b, 1, none⟩ = some (.int .i64 (k + 1)) ∧ w'.cell? ⟨b, 2, none⟩ = some (.int .i64 s) ∧ w'.frozen? ⟨b, 1, none⟩ = false ∧ w'.frozen? ⟨b, 2, none⟩ = false ∧ But b w w') →
      ∃ n : Int, e = .returned (.int .i64 n) ∧ 0 ≤ n ∧ n ≤ 255 ∧ Src w' b a len cap (m + 1) ∧ But b w w' := by
    rintro e w' ⟨n, s, he, n0, n1, s0, s1, c0, c1, c2, f1, f2, hb⟩
    refine ⟨n, he, n0, n1, ⟨c0, ⟨k + 1, s, by omega, by simpa using c1, c2, s0, s1⟩, f1, f2, h.lenle, fun i hi => ?_⟩, hb⟩
    obtain ⟨cb, off, c, e, hne, hlt, h0, h5, hc⟩ := h.code i hi
    exact ⟨cb, off, c, e, hne, Nat.lt_of_lt_of_le hlt hb.size, h0, h5, (hb.cell (p := ⟨cb, off + i, none⟩) hlt hne).trans hc⟩
  by_cases hin : k < len
  · obtain ⟨cb, off, c, e, hne, hlt, h0, h5, hc⟩ := h.code k hin
    exact (byte_in b a cb off len cap k c seed w e h.c0 h1 h2 h.f1 h.f2 hne hin h.lenle h3 h4 hc h0 h5).mono fun e w' => fin e w'
  · by_cases hbig : 3000 ≤ k
    · exact (byte_zero b a len cap k seed w h.c0 h1 h2 h.f1 h.f2 (by omega) (by omega) h3 h4 hbig).mono fun e w' => fin e w'
    · exact (byte_seed b a len cap k seed w h.c0 h1 h2 h.f1 h.f2 (by omega) (by omega) h3 h4 (by omega)).mono fun e w' => fin e w'

theorem next_any {w : World} {b : Nat} {a : Option Addr} {len cap m : Nat} (n : Int) (h : Src w b a len cap m) (hm : m ≤ 100000) (h1 : 1 < n) (h2 : n ≤ 256) :
    Calls Try.prog 15 #[.pointer (some ⟨b, 0, none⟩), .int .i64 n] w fun e w' => ∃ r : Int, e = .returned (.int .i64 r) ∧ 0 ≤ r ∧ r < n ∧ Src w' b a len cap (m + 1) ∧ But b w w' := by
  go_enter Try.func15, Try.ntmps15
  go_wp2_with fail
  refine (byte_any h hm).mono ?_
  rintro e w1 ⟨r, rfl, r0, r1, hs, hb⟩
  go_wp2
  go_ret
  exact ⟨r % n, by go_num, Int.emod_nonneg _ (by omega), Int.emod_lt_of_pos _ (by omega), hs, hb⟩
end Go.Proofs.Ythdilgggjkekaaa
