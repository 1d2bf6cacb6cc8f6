/- What the law on the promise of space calls, and what it asks of a run (stage 4). -/
import Derived.Test.YtaklphoplfofbaaRnA
import Derived.BigQuiet
import Derived.BigRegion
import Derived.Deep.QuietTactic
import Derived.Test.YtaklphoplfofbaaRnX
import Derived.Test.YtaklphoplfofbaaRqX
import Derived.Test.YtaklphoplfofbaaOpenS
namespace Go.Proofs.Ytaklphoplfofbaa
open Go.RowKit

/-- A byte as a number. -/
def byU (l : List UInt8) (i : Nat) : Int := ((l.getD i 0).toNat : Int)
theorem byU_bd (l : List UInt8) (i : Nat) : 0 ≤ byU l i ∧ byU l i ≤ 255 := by
  unfold byU
  have := (l.getD i 0).toNat_lt
  omega
/-- The bytes l can be read at a. -/
def ReadL (w : World) (a : Option Addr) (l : List UInt8) : Prop :=
  ∀ i, i < l.length → ∃ b off, a = some ⟨b, off, none⟩ ∧ b < w.heap.size ∧ w.cell? ⟨b, off + i, none⟩ = some (.int .u8 (byU l i))
theorem ReadL.below {w w' : World} {a : Option Addr} {l : List UInt8} (h : ReadL w a l) (hb : Below w.heap.size w w') : ReadL w' a l := fun i hi => by
  obtain ⟨b, off, e, hlt, hc⟩ := h i hi
  exact ⟨b, off, e, Nat.lt_of_lt_of_le hlt hb.size, (hb.cell (p := ⟨b, off + i, none⟩) hlt).trans hc⟩


/-- All old blocks but b are as they were. -/
structure But (b : Nat) (w w' : World) : Prop where
  os : w'.os = w.os
  tape : w'.tape = w.tape
  output : w'.output = w.output
  size : w.heap.size ≤ w'.heap.size
  block : ∀ k, k < w.heap.size → k ≠ b → w'.heap[k]? = w.heap[k]?

theorem But.refl (b : Nat) (w : World) : But b w w := ⟨rfl, rfl, rfl, Nat.le_refl _, fun _ _ _ => rfl⟩
theorem But.drew {b : Nat} {w w' : World} (h : But b w w') : But b w w'.drew := ⟨h.os, h.tape, h.output, h.size, h.block⟩
theorem But.drewN {b : Nat} {w w' : World} (h : But b w w') (n : Nat) : But b w (w'.drewN n) := ⟨h.os, h.tape, h.output, h.size, h.block⟩
theorem But.setCell {b : Nat} {w w' : World} (h : But b w w') (o : Nat) (v : Value) : But b w (w'.setCell ⟨b, o, none⟩ v) :=
  ⟨h.os, h.tape, h.output, by simpa [World.setCell] using h.size, fun k hk hb => (Below.heap_setCell _ _ _ _ hb).trans (h.block k hk hb)⟩
theorem But.trans {b : Nat} {w w1 w2 : World} (h : But b w w1) (h2 : But b w1 w2) : But b w w2 :=
  ⟨h2.os.trans h.os, h2.tape.trans h.tape, h2.output.trans h.output, Nat.le_trans h.size h2.size, fun k hk hb => (h2.block k (Nat.lt_of_lt_of_le hk h.size) hb).trans (h.block k hk hb)⟩

set_option maxRecDepth 100000 in
theorem byte_in (b : Nat) (a : Option Addr) (cb off : Nat) (len cap k : Nat) (c seed : Int) (w : World) (ha : a = some ⟨cb, off, none⟩)
    (hc0 : w.cell? ⟨b, 0, none⟩ = some (.slice a len cap)) (hc1 : w.cell? ⟨b, 1, none⟩ = some (.int .i64 k)) (hc2 : w.cell? ⟨b, 2, none⟩ = some (.int .i64 seed))
    (hf1 : w.frozen? ⟨b, 1, none⟩ = false) (hf2 : w.frozen? ⟨b, 2, none⟩ = false) (hne : cb ≠ b) (hk : k < len) (hlen : len ≤ 4194304) (hs0 : 0 ≤ seed) (hs1 : seed < 2147483648)
    (hcode : w.cell? ⟨cb, off + k, none⟩ = some (.int .u8 c)) (hb0 : 0 ≤ c) (hb1 : c ≤ 255) :
    Calls Try.prog 74 #[.pointer (some ⟨b, 0, none⟩)] w fun e w' => ∃ n s : Int, e = .returned (.int .i64 n) ∧ 0 ≤ n ∧ n ≤ 255 ∧ 0 ≤ s ∧ s < 2147483648 ∧ w'.cell? ⟨b, 0, none⟩ = some (.slice a len cap) ∧ w'.cell? ⟨b, 1, none⟩ = some (.int .i64 (k + 1)) ∧ w'.cell? ⟨b, 2, none⟩ = some (.int .i64 s) ∧ w'.frozen? ⟨b, 1, none⟩ = false ∧ w'.frozen? ⟨b, 2, none⟩ = false ∧ But b w w' := by
  subst ha
  go_enter Try.func74, Try.ntmps74
  go_wp2
  go_quiet (fail)
  go_wp2
  go_region
  go_wp2
  go_quiet (fail)
  go_wp2
  go_ret
  refine ⟨_, (seed * 31 + c + 7) % 2147483648, rfl, hb0, hb1, by omega, by omega, ?_, ?_, ?_, ?_, ?_, ?_⟩
  · go_simp
  · go_simp
  · go_simp
  · go_simp
  · go_simp
  · exact ((((But.refl b w).setCell 1 _).drewN _).setCell 2 _).drewN _

set_option maxRecDepth 100000 in
theorem byte_zero (b : Nat) (a : Option Addr) (len cap k : Nat) (seed : Int) (w : World)
    (hc0 : w.cell? ⟨b, 0, none⟩ = some (.slice a len cap)) (hc1 : w.cell? ⟨b, 1, none⟩ = some (.int .i64 k)) (hc2 : w.cell? ⟨b, 2, none⟩ = some (.int .i64 seed))
    (hf1 : w.frozen? ⟨b, 1, none⟩ = false) (hf2 : w.frozen? ⟨b, 2, none⟩ = false) (hk : len ≤ k) (hlen : k ≤ 4294304) (hs0 : 0 ≤ seed) (hs1 : seed < 2147483648) (hbig : 3000 ≤ k) :
    Calls Try.prog 74 #[.pointer (some ⟨b, 0, none⟩)] w fun e w' => ∃ n s : Int, e = .returned (.int .i64 n) ∧ 0 ≤ n ∧ n ≤ 255 ∧ 0 ≤ s ∧ s < 2147483648 ∧ w'.cell? ⟨b, 0, none⟩ = some (.slice a len cap) ∧ w'.cell? ⟨b, 1, none⟩ = some (.int .i64 (k + 1)) ∧ w'.cell? ⟨b, 2, none⟩ = some (.int .i64 s) ∧ w'.frozen? ⟨b, 1, none⟩ = false ∧ w'.frozen? ⟨b, 2, none⟩ = false ∧ But b w w' := by
  have hd : ¬ ((k : Int) + 1 ≤ (len : Int)) := by omega
  go_enter Try.func74, Try.ntmps74
  go_wp2
  go_quiet (fail)
  go_wp2
  go_ret
  refine ⟨0, seed, rfl, by omega, by omega, hs0, hs1, ?_, ?_, ?_, ?_, ?_, ?_⟩
  · go_simp
  · go_simp
  · go_simp
  · go_simp
  · go_simp
  · exact ((But.refl b w).setCell 1 _).drewN _

set_option maxRecDepth 100000 in
theorem byte_seed (b : Nat) (a : Option Addr) (len cap k : Nat) (seed : Int) (w : World)
    (hc0 : w.cell? ⟨b, 0, none⟩ = some (.slice a len cap)) (hc1 : w.cell? ⟨b, 1, none⟩ = some (.int .i64 k)) (hc2 : w.cell? ⟨b, 2, none⟩ = some (.int .i64 seed))
    (hf1 : w.frozen? ⟨b, 1, none⟩ = false) (hf2 : w.frozen? ⟨b, 2, none⟩ = false) (hk : len ≤ k) (hlen : k ≤ 4294304) (hs0 : 0 ≤ seed) (hs1 : seed < 2147483648) (hbig : k < 3000) :
    Calls Try.prog 74 #[.pointer (some ⟨b, 0, none⟩)] w fun e w' => ∃ n s : Int, e = .returned (.int .i64 n) ∧ 0 ≤ n ∧ n ≤ 255 ∧ 0 ≤ s ∧ s < 2147483648 ∧ w'.cell? ⟨b, 0, none⟩ = some (.slice a len cap) ∧ w'.cell? ⟨b, 1, none⟩ = some (.int .i64 (k + 1)) ∧ w'.cell? ⟨b, 2, none⟩ = some (.int .i64 s) ∧ w'.frozen? ⟨b, 1, none⟩ = false ∧ w'.frozen? ⟨b, 2, none⟩ = false ∧ But b w w' := by
  have hd : ¬ ((k : Int) + 1 ≤ (len : Int)) := by omega
  go_enter Try.func74, Try.ntmps74
  go_wp2
  go_quiet (fail)
  go_wp2
  go_ret
  refine ⟨(seed * 1103515245 + 12345) % 2147483648 / 65536 % 256, (seed * 1103515245 + 12345) % 2147483648, ?_, by omega, by omega, by omega, by omega, ?_, ?_, ?_, ?_, ?_, ?_⟩
  · go_num
  · go_simp
  · go_simp
  · go_simp
  · go_simp
  · go_simp
  · exact (((But.refl b w).setCell 1 _).drewN _).setCell 2 _

/-- A source of choices in block b: its code, a place of at most m, a seed. -/
structure Src (w : World) (b : Nat) (a : Option Addr) (len cap m : Nat) : Prop where
  c0 : w.cell? ⟨b, 0, none⟩ = some (.slice a len cap)
  ks : ∃ (k : Nat) (seed : Int), k ≤ m ∧ w.cell? ⟨b, 1, none⟩ = some (.int .i64 k) ∧ w.cell? ⟨b, 2, none⟩ = some (.int .i64 seed) ∧ 0 ≤ seed ∧ seed < 2147483648
  f1 : w.frozen? ⟨b, 1, none⟩ = false
  f2 : w.frozen? ⟨b, 2, none⟩ = false
  lenle : len ≤ 4194304
  code : ∀ i, i < len → ∃ cb off c, a = some ⟨cb, off, none⟩ ∧ cb ≠ b ∧ cb < w.heap.size ∧ 0 ≤ c ∧ c ≤ 255 ∧ w.cell? ⟨cb, off + i, none⟩ = some (.int .u8 c)

theorem But.cell {b : Nat} {w w' : World} (h : But b w w') {p : Addr} (hp : p.block < w.heap.size) (hb : p.block ≠ b) : w'.cell? p = w.cell? p := World.cell?_of_block (w := w) (h.block p.block hp hb)
theorem But.frozen {b : Nat} {w w' : World} (h : But b w w') {p : Addr} (hp : p.block < w.heap.size) (hb : p.block ≠ b) : w'.frozen? p = w.frozen? p := World.frozen?_of_block (w := w) (h.block p.block hp hb)
theorem But.of_below {b : Nat} {w w' : World} (h : Below w.heap.size w w') : But b w w' := ⟨h.os, h.tape, h.output, h.size, fun k hk _ => h.block k hk⟩
theorem But.below {b B : Nat} {w w1 w2 : World} (h : But b w1 w2) (hb : Below B w w1) (hB : B ≤ b) (hs : B ≤ w1.heap.size) : Below B w w2 :=
  ⟨h.os.trans hb.os, h.tape.trans hb.tape, h.output.trans hb.output, Nat.le_trans hb.size h.size, fun k hk => (h.block k (by omega) (by omega)).trans (hb.block k hk)⟩
theorem Src.lt {w : World} {b : Nat} {a : Option Addr} {len cap m : Nat} (h : Src w b a len cap m) : b < w.heap.size := World.block_lt_of_cell? w ⟨b, 0, none⟩ h.c0
theorem Src.below {w w' : World} {b : Nat} {a : Option Addr} {len cap m : Nat} (h : Src w b a len cap m) (hb : Below w.heap.size w w') : Src w' b a len cap m := by
  have hl := h.lt
  obtain ⟨k, seed, hk, h1, h2, h3, h4⟩ := h.ks
  refine ⟨(hb.cell (p := ⟨b, 0, none⟩) hl).trans h.c0, ⟨k, seed, hk, (hb.cell (p := ⟨b, 1, none⟩) hl).trans h1, (hb.cell (p := ⟨b, 2, none⟩) hl).trans h2, h3, h4⟩, (hb.frozen (p := ⟨b, 1, none⟩) hl).trans h.f1, (hb.frozen (p := ⟨b, 2, none⟩) hl).trans h.f2, h.lenle, fun i hi => ?_⟩
  obtain ⟨cb, off, c, e, hne, hlt, h0, h5, hc⟩ := h.code i hi
  exact ⟨cb, off, c, e, hne, Nat.lt_of_lt_of_le hlt hb.size, h0, h5, (hb.cell (p := ⟨cb, off + i, none⟩) hlt).trans hc⟩
theorem Src.mono {w : World} {b : Nat} {a : Option Addr} {len cap m m' : Nat} (h : Src w b a len cap m) (hm : m ≤ m') : Src w b a len cap m' :=
  ⟨h.c0, by obtain ⟨k, s, hk, r⟩ := h.ks; exact ⟨k, s, by omega, r⟩, h.f1, h.f2, h.lenle, h.code⟩

theorem byte_any {w : World} {b : Nat} {a : Option Addr} {len cap m : Nat} (h : Src w b a len cap m) (hm : m ≤ 100000) :
    Calls Try.prog 74 #[.pointer (some ⟨b, 0, none⟩)] w fun e w' => ∃ n : Int, e = .returned (.int .i64 n) ∧ 0 ≤ n ∧ n ≤ 255 ∧ Src w' b a len cap (m + 1) ∧ But b w w' := by
  obtain ⟨k, seed, hk, h1, h2, h3, h4⟩ := h.ks
  have fin : ∀ (e : Ending) (w' : World), (∃ n s : Int, e = .returned (.int .i64 n) ∧ 0 ≤ n ∧ n ≤ 255 ∧ 0 ≤ s ∧ s < 2147483648 ∧ w'.cell? ⟨b, 0, none⟩ = some (.slice a len cap) ∧ w'.cell? ⟨b, 1, none⟩ = some (.int .i64 (k + 1)) ∧ w'.cell? ⟨b, 2, none⟩ = some (.int .i64 s) ∧ w'.frozen? ⟨b, 1, none⟩ = false ∧ w'.frozen? ⟨b, 2, none⟩ = false ∧ But b w w') →
      ∃ n : Int, e = .returned (.int .i64 n) ∧ 0 ≤ n ∧ n ≤ 255 ∧ Src w' b a len cap (m + 1) ∧ But b w w' := by
    rintro e w' ⟨n, s, he, n0, n1, s0, s1, c0, c1, c2, f1, f2, hb⟩
    refine ⟨n, he, n0, n1, ⟨c0, ⟨k + 1, s, by omega, by simpa using c1, c2, s0, s1⟩, f1, f2, h.lenle, fun i hi => ?_⟩, hb⟩
    obtain ⟨cb, off, c, e, hne, hlt, h0, h5, hc⟩ := h.code i hi
    exact ⟨cb, off, c, e, hne, Nat.lt_of_lt_of_le hlt hb.size, h0, h5, (hb.cell (p := ⟨cb, off + i, none⟩) hlt hne).trans hc⟩
  by_cases hin : k < len
  · obtain ⟨cb, off, c, e, hne, hlt, h0, h5, hc⟩ := h.code k hin
    exact (byte_in b a cb off len cap k c seed w e h.c0 h1 h2 h.f1 h.f2 hne hin h.lenle h3 h4 hc h0 h5).mono fun e w' => fin e w'
  · by_cases hbig : 3000 ≤ k
    · exact (byte_zero b a len cap k seed w h.c0 h1 h2 h.f1 h.f2 (by omega) (by omega) h3 h4 hbig).mono fun e w' => fin e w'
    · exact (byte_seed b a len cap k seed w h.c0 h1 h2 h.f1 h.f2 (by omega) (by omega) h3 h4 (by omega)).mono fun e w' => fin e w'

theorem next_any {w : World} {b : Nat} {a : Option Addr} {len cap m : Nat} (n : Int) (h : Src w b a len cap m) (hm : m ≤ 100000) (h1 : 1 < n) (h2 : n ≤ 256) :
    Calls Try.prog 62 #[.pointer (some ⟨b, 0, none⟩), .int .i64 n] w fun e w' => ∃ r : Int, e = .returned (.int .i64 r) ∧ 0 ≤ r ∧ r < n ∧ Src w' b a len cap (m + 1) ∧ But b w w' := by
  go_enter Try.func62, Try.ntmps62
  go_wp2_with fail
  refine (byte_any h hm).mono ?_
  rintro e w1 ⟨r, rfl, r0, r1, hs, hb⟩
  go_wp2
  go_ret
  exact ⟨r % n, by go_num, Int.emod_nonneg _ (by omega), Int.emod_lt_of_pos _ (by omega), hs, hb⟩

theorem source_any {w : World} {a : Option Addr} {cap : Nat} {l : List UInt8} (h : ReadL w a l) (hlen : l.length ≤ 4194304) :
    Calls Try.prog 42 #[.slice a l.length cap] w fun e w' => e = .returned (.pointer (some ⟨w.heap.size, 0, none⟩)) ∧ Src w' w.heap.size a l.length cap 0 ∧ w'.heap.size = w.heap.size + 1 ∧ Below w.heap.size w w' := by
  have HC : Hid (ReadL w a l) := h
  clear h
  obtain ⟨len, hl⟩ : ∃ n, l.length = n := ⟨_, rfl⟩
  have HL : Hid (l.length = len) := hl
  rw [hl] at hlen ⊢
  clear hl
  go_enter Try.func42, Try.ntmps42
  go_wp2
  go_ret
  have hB : Below w.heap.size w (w.alloc (.cells #[.slice a len cap, .int .i64 0, .int .i64 ((len : Int) % 1000)] 94)) := (Below.refl _ _).alloc (Nat.le_refl _) _
  refine ⟨rfl, ⟨by go_simp, ⟨0, (len : Int) % 1000, by omega, by go_simp, by go_simp, by omega, by omega⟩, by go_simp, by go_simp, hlen, fun i hi => ?_⟩, by simp, hB⟩
  obtain ⟨cb, off, e, hlt, hc⟩ := HC.out i (by rw [HL.out]; exact hi)
  exact ⟨cb, off, byU l i, e, by omega, by simp; omega, (byU_bd l i).1, (byU_bd l i).2, (hB.cell (p := ⟨cb, off + i, none⟩) hlt).trans hc⟩

theorem But.belowB {w w1 w2 : World} {b B : Nat} (h : But b w w1) (hb : Below B w1 w2) (hB : w.heap.size ≤ B) : But b w w2 :=
  ⟨hb.os.trans h.os, hb.tape.trans h.tape, hb.output.trans h.output, Nat.le_trans h.size hb.size, fun k hk hne => (hb.block k (Nat.lt_of_lt_of_le hk hB)).trans (h.block k hk hne)⟩


theorem size_any {w : World} {b : Nat} {a : Option Addr} {len cap m : Nat} (h : Src w b a len cap m) : Calls Try.prog 63 #[.pointer (some ⟨b, 0, none⟩), .int .i64 20] w fun e w' => ∃ r : Int, e = .returned (.int .i64 r) ∧ 1 ≤ r ∧ r ≤ 20 ∧ w' = w := by
  have hc := h.c0
  have hl := h.lenle
  clear h
  by_cases hm : 1 + (len : Int) / 12 ≤ 20
  · have hmn : min (1 + (len : Int) / 12) 20 = 1 + (len : Int) / 12 := by omega
    go_enter Try.func63, Try.ntmps63
    go_wp2
    go_ret
    exact ⟨1 + (len : Int) / 12, by go_num, by omega, hm, rfl⟩
  · have hmn : min (1 + (len : Int) / 12) 20 = 20 := by omega
    go_enter Try.func63, Try.ntmps63
    go_wp2
    go_ret
    exact ⟨20, by go_num, by omega, by omega, rfl⟩


set_option maxRecDepth 100000 in
set_option maxHeartbeats 4000000 in
theorem at_any {w : World} {a : Option Addr} {cap : Nat} {l : List UInt8} (h : ReadL w a l) (hlen : l.length ≤ 1048576) (i : Nat) (n : Int) (hi : i ≤ 10) (hn : 1 < n) (hn2 : n ≤ 10000) :
    Calls Try.prog 9 #[.slice a l.length cap, .int .i64 i, .int .i64 n] w fun e w' => ∃ r : Int, e = .returned (.int .i64 r) ∧ 0 ≤ r ∧ r < n ∧ Below w.heap.size w w' := by
  have H : Hid (ReadL w a l) := h
  clear h
  obtain ⟨len, hl⟩ : ∃ n, l.length = n := ⟨_, rfl⟩
  have HL : Hid (l.length = len) := hl
  rw [hl] at hlen ⊢
  clear hl
  by_cases h0 : len = 0
  · subst h0
    go_enter Try.func9, Try.ntmps9
    go_wp2
    go_ret
    exact ⟨(i : Int) * 7 % n, by go_num, Int.emod_nonneg _ (by omega), Int.emod_lt_of_pos _ (by omega), Below.refl _ _⟩
  · have hp : i % len < len := Nat.mod_lt _ (by omega)
    have hq : (i + 1) % len < len := Nat.mod_lt _ (by omega)
    obtain ⟨b, off, rfl, _, hc1⟩ := H.out (i % len) (by rw [HL.out]; exact hp)
    obtain ⟨b', off', e', _, hc2⟩ := H.out ((i + 1) % len) (by rw [HL.out]; exact hq)
    cases e'
    have e1 : (i : Int) % (len : Int) = ((i % len : Nat) : Int) := by omega
    have e2 : ((i : Int) + 1) % (len : Int) = (((i + 1) % len : Nat) : Int) := by rw [Int.natCast_emod]; rfl
    obtain ⟨u1, u2⟩ := byU_bd l (i % len)
    obtain ⟨v1, v2⟩ := byU_bd l ((i + 1) % len)
    generalize byU l (i % len) = u at *
    generalize byU l ((i + 1) % len) = v at *
    generalize i % len = p at *
    generalize (i + 1) % len = q at *
    obtain ⟨d, hd⟩ : ∃ d : Nat, (i : Int) / (len : Int) = (d : Int) := ⟨i / len, by omega⟩
    have hd2 : d ≤ 10 := by
      have h1 : i / len ≤ i := Nat.div_le_self _ _
      have h2 : ((i / len : Nat) : Int) = (d : Int) := by omega
      omega
    have h0I : ¬ ((len : Int) = 0) := by omega
    have hpI : (p : Int) < (len : Int) := by omega
    have hqI : (q : Int) < (len : Int) := by omega
    go_enter Try.func9, Try.ntmps9
    go_wp2_with fail
    go_quiet (fail)
    go_wp2
    go_ret
    exact ⟨(u * 31 + v + (d : Int)) % n, by go_num, Int.emod_nonneg _ (by omega), Int.emod_lt_of_pos _ (by omega), below_drewN (Below.refl _ _) _⟩

end Go.Proofs.Ytaklphoplfofbaa
namespace Go.Proofs.Ytaklphoplfofbaa
open Go.RowKit

/-- v owns the acts l. -/
abbrev OwnQ (w : World) (B : Nat) (v : Value) (l : List P2) : Prop := w.ownsRow B 39 2 v l.length (cellsP l)
theorem Kept.of_but {b : Nat} {w w' : World} (h : But b w w') {S : Nat → Prop} (hS : S b) : Kept S w w' := ⟨h.os, h.tape, h.output, h.size, fun k hk hn => h.block k hk (fun e => hn (e ▸ hS))⟩
theorem Src.grown {w w' : World} {b : Nat} {a : Option Addr} {len cap m : Nat} {row : Option Nat} (h : Src w b a len cap m) (g : w.grownBy w' row) (hb : row ≠ some b) (hc : 0 < len → ∀ cb, (∃ off, a = some ⟨cb, off, none⟩) → row ≠ some cb) : Src w' b a len cap m := by
  have hl := h.lt
  have eb : w'.heap[b]? = w.heap[b]? := g.block b hl (fun e => hb e.symm)
  obtain ⟨k, seed, hk, h1, h2, h3, h4⟩ := h.ks
  refine ⟨(World.cell?_of_block (a := ⟨b, 0, none⟩) eb).trans h.c0, ⟨k, seed, hk, (World.cell?_of_block (a := ⟨b, 1, none⟩) eb).trans h1, (World.cell?_of_block (a := ⟨b, 2, none⟩) eb).trans h2, h3, h4⟩, (World.frozen?_of_block (a := ⟨b, 1, none⟩) eb).trans h.f1, (World.frozen?_of_block (a := ⟨b, 2, none⟩) eb).trans h.f2, h.lenle, fun i hi => ?_⟩
  obtain ⟨cb, off, c, e, hne, hlt, h0, h5, hc'⟩ := h.code i hi
  exact ⟨cb, off, c, e, hne, Nat.lt_of_lt_of_le hlt g.size, h0, h5, (World.cell?_of_block (a := ⟨cb, off + i, none⟩) (g.block cb hlt (fun e' => hc (by omega) cb ⟨off, e⟩ e'.symm))).trans hc'⟩

/-- What stands behind each set of the operations of the region. -/
def I43 (w : World) (b B : Nat) (a : Option Addr) (len cap m : Nat) (v : Value) (l : List P2) (s1 s2 s4 s5 s6 s7 s8 s9 s10 s11 s12 s13 s14 s15 s16 s17 s18 s19 s31 : Value) (lst : Array Bool) (a' : Act) (w' : World) : Prop :=
  ∃ l0 l1 l2 l3 l4 l5 l6 l7 l8 l9 l10 l11 x20 x21 x22 x23 x24 x25 x26 x27 x28 x29 x30 x3, lst = #[l0, l1, l2, l3, l4, l5, l6, l7, l8, l9, l10, l11] ∧ a' = ⟨#[.pointer (some ⟨b, 0, none⟩), s1, s2, x3, s4, s5, s6, s7, s8, s9, s10, s11, s12, s13, s14, s15, s16, s17, s18, s19, x20, x21, x22, x23, x24, x25, x26, x27, x28, x29, x30, s31], []⟩ ∧ (l0 = true → x20 = v) ∧ (l11 = false → x3 = v) ∧ (l1 = true → ∃ g, x21 = .slice (some ⟨g, 0, none⟩) 5 5 ∧ w.heap.size ≤ g ∧ w'.heap[g]? = some (.cells #[.int .i64 1, .int .i64 1, .int .i64 1, .int .i64 2, .int .i64 3] 3 (0, 0))) ∧ (l2 = true → x22 = .pointer (some ⟨b, 0, none⟩)) ∧ (l3 = true → ∃ r : Nat, x23 = .int .i64 r ∧ r < 5) ∧ (l4 = true → ∃ g, ∃ r : Nat, x24 = .pointer (some ⟨g, r, none⟩) ∧ r < 5 ∧ w.heap.size ≤ g ∧ w'.heap[g]? = some (.cells #[.int .i64 1, .int .i64 1, .int .i64 1, .int .i64 2, .int .i64 3] 3 (0, 0))) ∧ (l5 = true → ∃ z, x25 = .int .i64 z) ∧ (l6 = true → x26 = .pointer (some ⟨b, 0, none⟩)) ∧ (l7 = true → ∃ z, x27 = .int .i64 z) ∧ (l8 = true → ∃ y z, x28 = .agg #[.int .i64 y, .int .i64 z]) ∧ (l9 = true → ∃ g y z, x29 = .slice (some ⟨g, 0, none⟩) 1 1 ∧ w.heap.size ≤ g ∧ (l10 = false → w'.heap[g]? = some (.cells #[.int .i64 y, .int .i64 z] 39 (0, 0)))) ∧ (l10 = true → (l0 = true ∧ l3 = true ∧ l7 = true ∧ l9 = true) ∧ ∃ p, OwnQ w' B x30 (l ++ [p])) ∧ (l11 = true → l10 = true ∧ x3 = x30) ∧ (l7 = true → l3 = true) ∧ (∃ m', m' = (if l3 then 1 else 0) + (if l7 then 1 else 0) ∧ Src w' b a len cap (m + m')) ∧ (l10 = false → OwnQ w' B v l) ∧ Kept (fun j => j = b ∨ v.ownBlock = some j) w w'

set_option maxRecDepth 100000 in
set_option maxHeartbeats 16000000 in
theorem reg43 {Q : Exit → Act → World → Prop} (w : World) (b B : Nat) (a : Option Addr) (len cap m : Nat) (v : Value) (l : List P2) (s1 s2 s4 s5 s6 s7 s8 s9 s10 s11 s12 s13 s14 s15 s16 s17 s18 s19 s31 o20 o21 o22 o23 o24 o25 o26 o27 o28 o29 o30 : Value)
    (hs : Src w b a len cap m) (ho : OwnQ w B v l) (hm : m ≤ 10000) (hl : l.length ≤ 200) (hB : b < B ∧ B ≤ w.heap.size) (hc : 0 < len → ∀ cb, (∃ off, a = some ⟨cb, off, none⟩) → cb < B)
    (hQ : ∀ x20 x21 x22 x23 x24 x25 x26 x27 x28 x29 x30 x3 p w', OwnQ w' B x3 (l ++ [p]) → Src w' b a len cap (m + 2) → Kept (fun j => j = b ∨ v.ownBlock = some j) w w' → Q .normal ⟨#[.pointer (some ⟨b, 0, none⟩), s1, s2, x3, s4, s5, s6, s7, s8, s9, s10, s11, s12, s13, s14, s15, s16, s17, s18, s19, x20, x21, x22, x23, x24, x25, x26, x27, x28, x29, x30, s31], []⟩ w') :
    (Code.region 5 #[{ dst := some 20, op := Go.Op.move (Go.Operand.tmp 3), type := 24, pos := "l04_space.go:165", after := #[], guard := none }, { dst := some 21, op := Go.Op.buildSlice 26 5 #[(0, Go.Operand.const (Go.Value.int Go.IntKind.i64 1)), (1, Go.Operand.const (Go.Value.int Go.IntKind.i64 1)), (2, Go.Operand.const (Go.Value.int Go.IntKind.i64 1)), (3, Go.Operand.const (Go.Value.int Go.IntKind.i64 2)), (4, Go.Operand.const (Go.Value.int Go.IntKind.i64 3))], type := 26, pos := "l04_space.go:165", after := #[], guard := none }, { dst := some 22, op := Go.Op.move (Go.Operand.tmp 0), type := 71, pos := "l04_space.go:165", after := #[], guard := none }, { dst := some 23, op := Go.Op.call { callee := Go.Callee.value (Go.Operand.func 62), args := #[Go.Operand.tmp 22, Go.Operand.const (Go.Value.int Go.IntKind.i64 5)], argTypes := #[71, 3] }, type := 3, pos := "l04_space.go:165", after := #[{ on := 2, ground := Go.Ground.data }], guard := none }, { dst := some 24, op := Go.Op.indexAddr 26 (Go.Operand.tmp 21) (Go.Operand.tmp 23), type := 0, pos := "l04_space.go:165", after := #[{ on := 1, ground := Go.Ground.data }, { on := 3, ground := Go.Ground.data }], guard := none }, { dst := some 25, op := Go.Op.load 3 (Go.Operand.tmp 24), type := 3, pos := "l04_space.go:165", after := #[{ on := 4, ground := Go.Ground.data }], guard := none }, { dst := some 26, op := Go.Op.move (Go.Operand.tmp 0), type := 71, pos := "l04_space.go:165", after := #[], guard := none }, { dst := some 27, op := Go.Op.call { callee := Go.Callee.value (Go.Operand.func 62), args := #[Go.Operand.tmp 26, Go.Operand.const (Go.Value.int Go.IntKind.i64 5)], argTypes := #[71, 3] }, type := 3, pos := "l04_space.go:165", after := #[{ on := 6, ground := Go.Ground.data }, { on := 3, ground := Go.Ground.chain }], guard := none }, { dst := some 28, op := Go.Op.build 39 #[(0, Go.Operand.tmp 25), (1, Go.Operand.tmp 27)], type := 39, pos := "l04_space.go:165", after := #[{ on := 5, ground := Go.Ground.data }, { on := 7, ground := Go.Ground.data }], guard := none }, { dst := some 29, op := Go.Op.buildSlice 24 1 #[(0, Go.Operand.tmp 28)], type := 24, pos := "l04_space.go:165", after := #[{ on := 8, ground := Go.Ground.data }], guard := none }, { dst := some 30, op := Go.Op.call { callee := Go.Callee.builtin Go.Builtin.append, args := #[Go.Operand.tmp 20, Go.Operand.tmp 29], argTypes := #[24, 24] }, type := 24, pos := "l04_space.go:165", after := #[{ on := 0, ground := Go.Ground.data }, { on := 9, ground := Go.Ground.data }, { on := 7, ground := Go.Ground.chain }], guard := none }, { dst := some 3, op := Go.Op.assign (Go.Operand.tmp 30), type := 24, pos := "l04_space.go:165", after := #[{ on := 10, ground := Go.Ground.data }, { on := 10, ground := Go.Ground.chain }, { on := 0, ground := Go.Ground.phase }, { on := 1, ground := Go.Ground.phase }, { on := 2, ground := Go.Ground.phase }, { on := 3, ground := Go.Ground.phase }, { on := 4, ground := Go.Ground.phase }, { on := 5, ground := Go.Ground.phase }, { on := 6, ground := Go.Ground.phase }, { on := 7, ground := Go.Ground.phase }, { on := 8, ground := Go.Ground.phase }, { on := 9, ground := Go.Ground.phase }, { on := 10, ground := Go.Ground.phase }], guard := none }] true).wp Try.prog Q ⟨#[.pointer (some ⟨b, 0, none⟩), s1, s2, v, s4, s5, s6, s7, s8, s9, s10, s11, s12, s13, s14, s15, s16, s17, s18, s19, o20, o21, o22, o23, o24, o25, o26, o27, o28, o29, o30, s31], []⟩ w := by
  obtain ⟨i0, hi0, hz0, hz1, hz2⟩ := info_parts info39
  have HM : Hid (m ≤ 10000) := hm
  have HLl : Hid (l.length ≤ 200) := hl
  have HBs : Hid (b < B ∧ B ≤ w.heap.size) := hB
  have HCd : Hid (0 < len → ∀ cb, (∃ off, a = some ⟨cb, off, none⟩) → cb < B) := hc
  have HS0 : Hid (Src w b a len cap m) := hs
  have HO0 : Hid (OwnQ w B v l) := ho
  clear hs ho hm hl hB hc
  refine wp_region_inv (by kernel_rfl) (I43 w b B a len cap m v l s1 s2 s4 s5 s6 s7 s8 s9 s10 s11 s12 s13 s14 s15 s16 s17 s18 s19 s31) ?h0 ?hstep ?hend
  case h0 =>
    refine ⟨false, false, false, false, false, false, false, false, false, false, false, false, _, _, _, _, _, _, _, _, _, _, _, _, rfl, rfl, ?_, ?_, ?_, ?_, ?_, ?_, ?_, ?_, ?_, ?_, ?_, ?_, ?_, ?_, ?_, ?_, ?_⟩
    all_goals first | (intro h; cases h; done) | exact fun _ => rfl | exact ⟨0, rfl, HS0.out.below below_draw⟩ | exact fun _ => own_keep HO0.out (fun _ _ _ => rfl) | exact Kept.of_below below_draw
  case hstep =>
    clear hQ
    rintro lst a' w' i hsz ⟨l0, l1, l2, l3, l4, l5, l6, l7, l8, l9, l10, l11, x20, x21, x22, x23, x24, x25, x26, x27, x28, x29, x30, x3, rfl, rfl, m0, m0', k1, m2, k3, k4, k5, m6, k7, k8, k9, k10, k11, q3, sr, ow, hb⟩ hi
    have hlt : i < 12 := ready_lt hi
    have hnew := ready_new hi
    rcases (show i = 0 ∨ i = 1 ∨ i = 2 ∨ i = 3 ∨ i = 4 ∨ i = 5 ∨ i = 6 ∨ i = 7 ∨ i = 8 ∨ i = 9 ∨ i = 10 ∨ i = 11 by omega) with rfl | rfl | rfl | rfl | rfl | rfl | rfl | rfl | rfl | rfl | rfl | rfl
    all_goals (refine wpOp_step (by rfl) (fun K hK => ?_))
    all_goals (have hd := ready_deps hi rfl)
    all_goals (simp [Region.binds] at hd hnew)
    · obtain rfl : l11 = false := (by cases h : l11; rfl; exact absurd (k10 (k11 h).1).1.1 (by simp [hnew]))
      subst hnew
      obtain rfl := m0' rfl
      go_simp
      exact hK _ _ ⟨_, _, _, _, _, _, _, _, _, _, _, _, _, _, _, _, _, _, _, _, _, _, _, _, rfl, rfl, (fun _ => rfl), (by first | exact m0' | exact (fun _ => rfl)), k1, (by first | exact m2 | exact (fun _ => rfl)), (by first | exact k3 | exact (fun h => ⟨_, rfl, by omega⟩)), k4, (by first | exact k5 | exact (fun _ => ⟨_, rfl⟩)), (by first | exact m6 | exact (fun _ => rfl)), (by first | exact k7 | exact (fun _ => ⟨_, rfl⟩)), (by first | exact k8 | exact (fun _ => ⟨_, _, rfl⟩)), k9, (fun h => absurd (k10 h).1.1 (by simp)), (by first | exact k11 | exact (fun h => ⟨(k11 h).1, rfl⟩)), q3, sr, ow, hb⟩
    · subst hnew
      go_simp
      exact hK _ _ ⟨_, _, _, _, _, _, _, _, _, _, _, _, _, _, _, _, _, _, _, _, _, _, _, _, rfl, rfl, (by first | exact m0 | exact (fun _ => rfl)), (by first | exact m0' | exact (fun _ => rfl)), (fun _ => ⟨_, rfl, hb.size, heap_new' _ _ _ rfl⟩), (by first | exact m2 | exact (fun _ => rfl)), (by first | exact k3 | exact (fun h => ⟨_, rfl, by omega⟩)), (fun h => (by obtain ⟨g, r, e1, e0, e2, e3⟩ := k4 h; exact ⟨g, r, e1, e0, e2, (heap_old _ _ _ (slab_lt e3)).trans e3⟩)), (by first | exact k5 | exact (fun _ => ⟨_, rfl⟩)), (by first | exact m6 | exact (fun _ => rfl)), (by first | exact k7 | exact (fun _ => ⟨_, rfl⟩)), (by first | exact k8 | exact (fun _ => ⟨_, _, rfl⟩)), (fun h => (by obtain ⟨g, y, z, e1, e2, e3⟩ := k9 h; exact ⟨g, y, z, e1, e2, fun h' => (heap_old _ _ _ (slab_lt (e3 h'))).trans (e3 h')⟩)), (fun h => ⟨(k10 h).1, (by obtain ⟨p, hp⟩ := (k10 h).2; exact ⟨p, own_keep hp fun _ _ hl => heap_old _ _ _ hl⟩)⟩), (by first | exact k11 | exact (fun h => ⟨(k11 h).1, rfl⟩)), q3, (by obtain ⟨m', e, h⟩ := sr; exact ⟨m', e, h.below ((Below.refl _ _).alloc (Nat.le_refl _) _)⟩), (fun h => own_keep (ow h) fun _ _ hl => heap_old _ _ _ hl), (hb.alloc _)⟩
    · subst hnew
      go_simp
      exact hK _ _ ⟨_, _, _, _, _, _, _, _, _, _, _, _, _, _, _, _, _, _, _, _, _, _, _, _, rfl, rfl, (by first | exact m0 | exact (fun _ => rfl)), (by first | exact m0' | exact (fun _ => rfl)), k1, (fun _ => rfl), (by first | exact k3 | exact (fun h => ⟨_, rfl, by omega⟩)), k4, (by first | exact k5 | exact (fun _ => ⟨_, rfl⟩)), (by first | exact m6 | exact (fun _ => rfl)), (by first | exact k7 | exact (fun _ => ⟨_, rfl⟩)), (by first | exact k8 | exact (fun _ => ⟨_, _, rfl⟩)), k9, k10, (by first | exact k11 | exact (fun h => ⟨(k11 h).1, rfl⟩)), q3, sr, ow, hb⟩
    · have hl2 : l2 = true := (by simp [hd])
      obtain rfl : l7 = false := (by cases h : l7; rfl; exact absurd (q3 h) (by simp [hnew]))
      subst hnew

      obtain rfl := m2 hl2
      obtain ⟨m', em, hs⟩ := sr
      simp at em
      subst em
      go_simp
      go_at_call 62
      refine (next_any 5 hs (by have := HM.out; omega) (by omega) (by omega)).mono ?_
      rintro r' w'' ⟨r, rfl, r0, r1, hs', bt⟩
      exact hK _ _ ⟨_, _, _, _, _, _, _, _, _, _, _, _, _, _, _, _, _, _, _, _, _, _, _, _, rfl, rfl, (by first | exact m0 | exact (fun _ => rfl)), (by first | exact m0' | exact (fun _ => rfl)), (fun h => (by obtain ⟨g, e1, e2, e3⟩ := k1 h; exact ⟨g, e1, e2, (bt.block g (slab_lt e3) (by have := HBs.out; omega)).trans e3⟩)), (by first | exact m2 | exact (fun _ => rfl)), (fun _ => ⟨r.toNat, by rw [Int.toNat_of_nonneg r0], by omega⟩), (fun h => (by obtain ⟨g, r, e1, e0, e2, e3⟩ := k4 h; exact ⟨g, r, e1, e0, e2, (bt.block g (slab_lt e3) (by have := HBs.out; omega)).trans e3⟩)), (by first | exact k5 | exact (fun _ => ⟨_, rfl⟩)), (by first | exact m6 | exact (fun _ => rfl)), (by first | exact k7 | exact (fun _ => ⟨_, rfl⟩)), (by first | exact k8 | exact (fun _ => ⟨_, _, rfl⟩)), (fun h => (by obtain ⟨g, y, z, e1, e2, e3⟩ := k9 h; exact ⟨g, y, z, e1, e2, fun h' => (bt.block g (slab_lt (e3 h')) (by have := HBs.out; omega)).trans (e3 h')⟩)), (fun h => absurd (k10 h).1.2.1 (by simp)), (by first | exact k11 | exact (fun h => ⟨(k11 h).1, rfl⟩)), (fun _ => rfl), ⟨_, rfl, (by simpa using hs')⟩, (fun h => own_at (ow h) fun j hj => bt.block j (own_lt (ow h) hj).2 (by have := (own_lt (ow h) hj).1; have := HBs.out; omega)), (hb.trans (Kept.of_but bt (.inl rfl)))⟩
    · have hl1 : l1 = true := (by simp [hd])
      have hl3 : l3 = true := (by simp [hd])
      subst hnew
      obtain ⟨g, rfl, hg, hh⟩ := k1 hl1
      obtain ⟨r, rfl, hr⟩ := k3 hl3
      have hrI : (r : Int) < 5 := by omega
      go_simp
      exact hK _ _ ⟨_, _, _, _, _, _, _, _, _, _, _, _, _, _, _, _, _, _, _, _, _, _, _, _, rfl, rfl, (by first | exact m0 | exact (fun _ => rfl)), (by first | exact m0' | exact (fun _ => rfl)), (fun _ => ⟨g, rfl, hg, hh⟩), (by first | exact m2 | exact (fun _ => rfl)), (fun _ => ⟨r, rfl, hr⟩), (fun _ => ⟨g, r, by simp, hr, hg, hh⟩), (by first | exact k5 | exact (fun _ => ⟨_, rfl⟩)), (by first | exact m6 | exact (fun _ => rfl)), (by first | exact k7 | exact (fun _ => ⟨_, rfl⟩)), (by first | exact k8 | exact (fun _ => ⟨_, _, rfl⟩)), k9, k10, (by first | exact k11 | exact (fun h => ⟨(k11 h).1, rfl⟩)), q3, sr, ow, hb⟩
    · have hl4 : l4 = true := (by simp [hd])
      subst hnew
      obtain ⟨g, r, rfl, hr, hg, hh⟩ := k4 hl4
      obtain ⟨z, hz⟩ : ∃ z, w'.cell? ⟨g, r, none⟩ = some (.int .i64 z) := (by rw [slab_cell hh]; rcases (show r = 0 ∨ r = 1 ∨ r = 2 ∨ r = 3 ∨ r = 4 by omega) with rfl | rfl | rfl | rfl | rfl <;> exact ⟨_, rfl⟩)
      go_simp
      exact hK _ _ ⟨_, _, _, _, _, _, _, _, _, _, _, _, _, _, _, _, _, _, _, _, _, _, _, _, rfl, rfl, (by first | exact m0 | exact (fun _ => rfl)), (by first | exact m0' | exact (fun _ => rfl)), k1, (by first | exact m2 | exact (fun _ => rfl)), (by first | exact k3 | exact (fun h => ⟨_, rfl, by omega⟩)), (fun _ => ⟨g, r, rfl, hr, hg, hh⟩), (fun _ => ⟨z, rfl⟩), (by first | exact m6 | exact (fun _ => rfl)), (by first | exact k7 | exact (fun _ => ⟨_, rfl⟩)), (by first | exact k8 | exact (fun _ => ⟨_, _, rfl⟩)), k9, k10, (by first | exact k11 | exact (fun h => ⟨(k11 h).1, rfl⟩)), q3, sr, ow, hb⟩
    · subst hnew
      go_simp
      exact hK _ _ ⟨_, _, _, _, _, _, _, _, _, _, _, _, _, _, _, _, _, _, _, _, _, _, _, _, rfl, rfl, (by first | exact m0 | exact (fun _ => rfl)), (by first | exact m0' | exact (fun _ => rfl)), k1, (by first | exact m2 | exact (fun _ => rfl)), (by first | exact k3 | exact (fun h => ⟨_, rfl, by omega⟩)), k4, (by first | exact k5 | exact (fun _ => ⟨_, rfl⟩)), (fun _ => rfl), (by first | exact k7 | exact (fun _ => ⟨_, rfl⟩)), (by first | exact k8 | exact (fun _ => ⟨_, _, rfl⟩)), k9, k10, (by first | exact k11 | exact (fun h => ⟨(k11 h).1, rfl⟩)), q3, sr, ow, hb⟩
    · have hl2 : l6 = true := (by simp [hd])
      have hl3 : l3 = true := (by simp [hd])
      subst hnew
      subst hl3
      obtain rfl := m6 hl2
      obtain ⟨m', em, hs⟩ := sr
      simp at em
      subst em
      go_simp
      go_at_call 62
      refine (next_any 5 hs (by have := HM.out; omega) (by omega) (by omega)).mono ?_
      rintro r' w'' ⟨r, rfl, r0, r1, hs', bt⟩
      exact hK _ _ ⟨_, _, _, _, _, _, _, _, _, _, _, _, _, _, _, _, _, _, _, _, _, _, _, _, rfl, rfl, (by first | exact m0 | exact (fun _ => rfl)), (by first | exact m0' | exact (fun _ => rfl)), (fun h => (by obtain ⟨g, e1, e2, e3⟩ := k1 h; exact ⟨g, e1, e2, (bt.block g (slab_lt e3) (by have := HBs.out; omega)).trans e3⟩)), (by first | exact m2 | exact (fun _ => rfl)), (by first | exact k3 | exact (fun h => ⟨_, rfl, by omega⟩)), (fun h => (by obtain ⟨g, r, e1, e0, e2, e3⟩ := k4 h; exact ⟨g, r, e1, e0, e2, (bt.block g (slab_lt e3) (by have := HBs.out; omega)).trans e3⟩)), (by first | exact k5 | exact (fun _ => ⟨_, rfl⟩)), (by first | exact m6 | exact (fun _ => rfl)), (fun _ => ⟨_, rfl⟩), (by first | exact k8 | exact (fun _ => ⟨_, _, rfl⟩)), (fun h => (by obtain ⟨g, y, z, e1, e2, e3⟩ := k9 h; exact ⟨g, y, z, e1, e2, fun h' => (bt.block g (slab_lt (e3 h')) (by have := HBs.out; omega)).trans (e3 h')⟩)), (fun h => absurd (k10 h).1.2.2.1 (by simp)), (by first | exact k11 | exact (fun h => ⟨(k11 h).1, rfl⟩)), (fun _ => rfl), ⟨_, rfl, (by simpa using hs')⟩, (fun h => own_at (ow h) fun j hj => bt.block j (own_lt (ow h) hj).2 (by have := (own_lt (ow h) hj).1; have := HBs.out; omega)), (hb.trans (Kept.of_but bt (.inl rfl)))⟩
    · have hl5 : l5 = true := (by simp [hd])
      have hl7 : l7 = true := (by simp [hd])
      subst hnew
      obtain ⟨y, rfl⟩ := k5 hl5
      obtain ⟨z, rfl⟩ := k7 hl7
      go_simp
      exact hK _ _ ⟨_, _, _, _, _, _, _, _, _, _, _, _, _, _, _, _, _, _, _, _, _, _, _, _, rfl, rfl, (by first | exact m0 | exact (fun _ => rfl)), (by first | exact m0' | exact (fun _ => rfl)), k1, (by first | exact m2 | exact (fun _ => rfl)), (by first | exact k3 | exact (fun h => ⟨_, rfl, by omega⟩)), k4, (by first | exact k5 | exact (fun _ => ⟨_, rfl⟩)), (by first | exact m6 | exact (fun _ => rfl)), (by first | exact k7 | exact (fun _ => ⟨_, rfl⟩)), (fun _ => ⟨y, z, rfl⟩), k9, k10, (by first | exact k11 | exact (fun h => ⟨(k11 h).1, rfl⟩)), q3, sr, ow, hb⟩
    · have hl8 : l8 = true := (by simp [hd])
      subst hnew
      obtain ⟨y, z, rfl⟩ := k8 hl8
      go_simp
      exact hK _ _ ⟨_, _, _, _, _, _, _, _, _, _, _, _, _, _, _, _, _, _, _, _, _, _, _, _, rfl, rfl, (by first | exact m0 | exact (fun _ => rfl)), (by first | exact m0' | exact (fun _ => rfl)), (fun h => (by obtain ⟨g, e1, e2, e3⟩ := k1 h; exact ⟨g, e1, e2, (heap_old _ _ _ (slab_lt e3)).trans e3⟩)), (by first | exact m2 | exact (fun _ => rfl)), (by first | exact k3 | exact (fun h => ⟨_, rfl, by omega⟩)), (fun h => (by obtain ⟨g, r, e1, e0, e2, e3⟩ := k4 h; exact ⟨g, r, e1, e0, e2, (heap_old _ _ _ (slab_lt e3)).trans e3⟩)), (by first | exact k5 | exact (fun _ => ⟨_, rfl⟩)), (by first | exact m6 | exact (fun _ => rfl)), (by first | exact k7 | exact (fun _ => ⟨_, rfl⟩)), (fun _ => ⟨y, z, rfl⟩), (fun _ => ⟨_, y, z, rfl, hb.size, fun _ => heap_new' _ _ _ rfl⟩), (fun h => absurd (k10 h).1.2.2.2 (by simp)), (by first | exact k11 | exact (fun h => ⟨(k11 h).1, rfl⟩)), q3, (by obtain ⟨m', e, h⟩ := sr; exact ⟨m', e, h.below ((Below.refl _ _).alloc (Nat.le_refl _) _)⟩), (fun h => own_keep (ow h) fun _ _ hl => heap_old _ _ _ hl), (hb.alloc _)⟩
    · have hl0 : l0 = true := (by simp [hd])
      have hl9 : l9 = true := (by simp [hd])
      have hl7 : l7 = true := (by simp [hd])
      have hl3 : l3 = true := q3 hl7
      subst hnew
      obtain rfl := m0 hl0
      obtain ⟨g, y, z, rfl, hg, hh9⟩ := k9 hl9
      have hh := hh9 rfl
      obtain ⟨v', w'', hrun, hown, hgr, _⟩ := run_append_own (P := Try.prog) w' B 24 24 39 i0 (.agg #[.int .i64 0, .int .i64 0]) 2 16 Try.underlying24 hi0 hz0 hz1 hz2 rfl (by decide) x20 l.length (cellsP l) (ow rfl) ⟨g, 0, none⟩ 1 1 [.int .i64 y, .int .i64 z] rfl (fun j u hu => by match j, hu with | 0, hu => (simp at hu; subst hu; rw [add_plain, slab_cell hh]; rfl) | 1, hu => (simp at hu; subst hu; rw [add_plain, slab_cell hh]; rfl)) (by intro u hu; simp at hu; rcases hu with rfl | rfl <;> rfl) (by have := HLl.out; unfold maxLen; omega) (by have := HLl.out; omega) (Nat.le_trans HBs.out.2 hb.size)
      refine step_append_run (by rfl) _ _ _ _ (by rfl) _ _ (by rfl) (by rfl) _ _ hrun ?_
      exact hK _ _ ⟨_, _, _, _, _, _, _, _, _, _, _, _, _, _, _, _, _, _, _, _, _, _, _, _, rfl, rfl, (by first | exact m0 | exact (fun _ => rfl)), (by first | exact m0' | exact (fun _ => rfl)), (fun h => (by obtain ⟨g, e1, e2, e3⟩ := k1 h; exact ⟨g, e1, e2, (hgr.block g (slab_lt e3) (by intro hq; have := (own_lt (ow rfl) hq.symm).2; first | exact absurd (e3) (by intro hx; exact own_neq (ow rfl) hx (by decide) hq.symm rfl) | omega)).trans e3⟩)), (by first | exact m2 | exact (fun _ => rfl)), (by first | exact k3 | exact (fun h => ⟨_, rfl, by omega⟩)), (fun h => (by obtain ⟨g, r, e1, e0, e2, e3⟩ := k4 h; exact ⟨g, r, e1, e0, e2, (hgr.block g (slab_lt e3) (by intro hq; have := (own_lt (ow rfl) hq.symm).2; first | exact absurd (e3) (by intro hx; exact own_neq (ow rfl) hx (by decide) hq.symm rfl) | omega)).trans e3⟩)), (by first | exact k5 | exact (fun _ => ⟨_, rfl⟩)), (by first | exact m6 | exact (fun _ => rfl)), (by first | exact k7 | exact (fun _ => ⟨_, rfl⟩)), (by first | exact k8 | exact (fun _ => ⟨_, _, rfl⟩)), (fun _ => ⟨g, y, z, rfl, hg, fun h => (by cases h)⟩), (fun _ => ⟨⟨hl0, hl3, hl7, hl9⟩, (y, z), (by show World.ownsRow _ _ _ _ _ _ _; rw [cellsP_snoc, List.length_append]; exact hown)⟩), (fun h => absurd (k11 h).1 (by simp)), q3, (by obtain ⟨m', e, h⟩ := sr; exact ⟨m', e, h.grown hgr (by intro hq; have := (own_lt (ow rfl) hq).1; have := HBs.out; omega) (fun hl0 cb hcb hq => by have := (own_lt (ow rfl) hq).1; have := HBs.out; exact absurd (HCd.out hl0 cb hcb) (by omega))⟩), (fun h => (by cases h)), (hb.trans ⟨hgr.os, hgr.tape, hgr.output, hgr.size, fun j hj hn => hgr.block j hj (fun hq => hn (.inr hq.symm))⟩)⟩
    · have hl10 : l10 = true := (by simp [hd])
      subst hnew
      go_simp
      exact hK _ _ ⟨_, _, _, _, _, _, _, _, _, _, _, _, _, _, _, _, _, _, _, _, _, _, _, _, rfl, rfl, (by first | exact m0 | exact (fun _ => rfl)), (fun h => (by cases h)), k1, (by first | exact m2 | exact (fun _ => rfl)), (by first | exact k3 | exact (fun h => ⟨_, rfl, by omega⟩)), k4, (by first | exact k5 | exact (fun _ => ⟨_, rfl⟩)), (by first | exact m6 | exact (fun _ => rfl)), (by first | exact k7 | exact (fun _ => ⟨_, rfl⟩)), (by first | exact k8 | exact (fun _ => ⟨_, _, rfl⟩)), k9, k10, (fun _ => ⟨hl10, rfl⟩), q3, sr, ow, hb⟩
  case hend =>
    rintro lst a' w' hsz ⟨l0, l1, l2, l3, l4, l5, l6, l7, l8, l9, l10, l11, x20, x21, x22, x23, x24, x25, x26, x27, x28, x29, x30, x3, rfl, rfl, m0, m0', k1, m2, k3, k4, k5, m6, k7, k8, k9, k10, k11, q3, sr, ow, hb⟩ hrd
    have hall := ready_done (by kernel_rfl) hsz hrd
    have e3 : l3 = true := hall 3 (by decide)
    have e7 : l7 = true := hall 7 (by decide)
    have e10 : l10 = true := hall 10 (by decide)
    have e11 : l11 = true := hall 11 (by decide)
    subst e3 e7
    obtain ⟨_, p, hp⟩ := k10 e10
    obtain ⟨_, rfl⟩ := k11 e11
    obtain ⟨m', em, hs⟩ := sr
    simp at em
    subst em
    exact hQ _ _ _ _ _ _ _ _ _ _ _ _ p w' hp hs hb
end Go.Proofs.Ytaklphoplfofbaa
namespace Go.Proofs.Ytaklphoplfofbaa
open Go.RowKit

theorem Kept.but {b : Nat} {S : Nat → Prop} {w0 w w' : World} (h : Kept S w w') (h0 : But b w0 w) (hS : ∀ j, S j → j = b ∨ w0.heap.size ≤ j) : But b w0 w' :=
  ⟨h.os.trans h0.os, h.tape.trans h0.tape, h.output.trans h0.output, Nat.le_trans h0.size h.size, fun k hk hb => (h.block k (Nat.lt_of_lt_of_le hk h0.size) (fun hs => by rcases hS k hs with e | e <;> omega)).trans (h0.block k hk hb)⟩

set_option maxRecDepth 100000 in
set_option maxHeartbeats 4000000 in
theorem acts_any {w : World} {b : Nat} {a : Option Addr} {len cap : Nat} (hs : Src w b a len cap 0) : Calls Try.prog 43 #[.pointer (some ⟨b, 0, none⟩)] w fun e w' => ∃ v l, e = .returned v ∧ OwnQ w' w.heap.size v l ∧ l.length ≤ 200 ∧ But b w w' := by
  have hbl := hs.lt
  have HC : Hid (0 < len → ∀ cb, (∃ off, a = some ⟨cb, off, none⟩) → cb < w.heap.size) := fun h0 cb ⟨off, e⟩ => by
    obtain ⟨cb', off', c, e', _, hlt, _⟩ := hs.code 0 h0
    rw [e] at e'
    cases e'
    exact hlt
  obtain ⟨W0, hW0⟩ : ∃ W0, w.alloc (.cells #[] 39) = W0 := ⟨_, rfl⟩
  have B0 : Below w.heap.size w W0 := hW0 ▸ (Below.refl _ _).alloc (Nat.le_refl _) _
  have HS0 : Hid (Src W0 b a len cap 0) := hs.below B0
  have HO0 : Hid (OwnQ W0 w.heap.size (.slice (some ⟨w.heap.size, 0, none⟩) 0 0) []) := hW0 ▸ ⟨rfl, .inr ⟨w.heap.size, 0, #[], rfl, Nat.le_refl _, heap_new' _ _ _ rfl, Nat.le_refl _, Nat.zero_le _, rfl, rfl⟩⟩
  clear hs
  go_enter Try.func43, Try.ntmps43
  go_wp2_with fail
  refine (size_any HS0.out).mono ?_
  rintro e w1 ⟨sz, rfl, sz0, sz1, hq⟩
  obtain rfl := hq.symm
  go_wp2_with fail
  refine (next_any (sz + 3) HS0.out (by omega) (by omega) (by omega)).mono ?_
  rintro e w2 ⟨r, rfl, r0, r1, s2, bt⟩
  obtain ⟨k0, rfl⟩ := Int.eq_ofNat_of_zero_le r0
  have HS2 : Hid (Src w2 b a len cap 1) := s2
  have HO2 : Hid (OwnQ w2 w.heap.size (.slice (some ⟨w.heap.size, 0, none⟩) 0 0) []) := own_at HO0.out fun j hj => bt.block j (own_lt HO0.out hj).2 (by have := (own_lt HO0.out hj).1; omega)
  have HB2 : Hid (But b w w2) := (But.of_below B0).trans bt
  have hk0 : k0 ≤ 22 := by omega
  clear s2 bt HS0 HO0 B0 hW0 r0 r1 sz0 sz1
  go_wp2
  go_loopw [3, 4] (fun v i wr => ∃ (k : Nat) (l : List P2), k ≤ 22 ∧ i = .int .i64 k ∧ OwnQ wr w.heap.size v l ∧ l.length + k ≤ 22 ∧ Src wr b a len cap (1 + 2 * (22 - k)) ∧ But b w wr) (fun _ i _ => (intOf i).toNat)
  case atStart => exact ⟨k0, [], hk0, rfl, HO2.out, by simpa using hk0, HS2.out.mono (by omega), HB2.out⟩
  case round =>
    clear HS2 HO2 HB2
    obtain ⟨k, l, hk, rfl, ho, hlk, hsr, hbt⟩ := hrel
    have HO : Hid (OwnQ wr w.heap.size u3 l) := ho
    have HS : Hid (Src wr b a len cap (1 + 2 * (22 - k))) := hsr
    have HB : Hid (But b w wr) := hbt
    obtain ⟨av, cv, rfl⟩ := own_shp ho
    clear ho hsr hbt
    by_cases h0 : k = 0
    · subst h0
      go_wp2
      go_ret
      exact ⟨_, l, rfl, HO.out, by omega, HB.out⟩
    · have hk0I : (0 : Int) < (k : Int) := by omega
      have hlI : (l.length : Int) < 200 := by omega
      go_wp2_with fail
      refine reg43 wr b w.heap.size a len cap (1 + 2 * (22 - k)) _ l _ _ _ _ _ _ _ _ _ _ _ _ _ _ _ _ _ _ _ _ _ _ _ _ _ _ _ _ _ _ HS.out HO.out (by omega) (by omega) ⟨hbl, HB.out.size⟩ HC.out ?_
      intro t0_ t1_ t2_ t3_ t4_ t5_ t6_ t7_ t8_ t9_ t10_ t11_ p w3 ho3 hs3 hk3
      have HN : Hid (OwnQ w3 w.heap.size t11_ (l ++ [p]) ∧ Src w3 b a len cap (1 + 2 * (22 - (k - 1))) ∧ But b w w3) := ⟨ho3, (show 1 + 2 * (22 - (k - 1)) = 1 + 2 * (22 - k) + 2 by omega) ▸ hs3, hk3.but HB.out (fun j hj => by
        rcases hj with e | e
        · exact .inl e
        · exact .inr (own_lt HO.out e).1)⟩
      clear ho3 hs3 hk3 HO HS HB
      go_wp2
      go_roundw
      case rel => exact ⟨k - 1, l ++ [p], by omega, by go_num, HN.out.1, by simp; omega, HN.out.2.1, HN.out.2.2⟩
      case measure => simp [intOf]; omega

theorem actsOf_any {w : World} {a : Option Addr} {cap : Nat} {l : List UInt8} (h : ReadL w a l) (hlen : l.length ≤ 1048576) : Calls Try.prog 10 #[.slice a l.length cap] w fun e w' => ∃ v acts, e = .returned v ∧ OwnQ w' w.heap.size v acts ∧ acts.length ≤ 200 ∧ Below w.heap.size w w' := by
  go_enter Try.func10, Try.ntmps10
  go_wp2_with fail
  refine (source_any h (by omega)).mono ?_
  rintro e w1 ⟨rfl, hs, hz, b1⟩
  clear h
  go_wp2_with fail
  refine (acts_any hs).mono ?_
  rintro e w2 ⟨v, acts, rfl, ho, hl, hb⟩
  have hB : Below w.heap.size w w2 := hb.below b1 (Nat.le_refl _) b1.size
  have HO : Hid (OwnQ w2 w1.heap.size v acts) := ho
  clear ho hs hb
  go_wp2
  go_ret
  exact ⟨_, acts, rfl, own_mono HO.out (by omega), hl, hB⟩
end Go.Proofs.Ytaklphoplfofbaa
namespace Go.Proofs.Ytaklphoplfofbaa

/-- The pages of epoch k are still needed. -/
def needed (e : Int) (qs : List Int) (k : Int) : Prop := e - 1 ≤ k ∨ ∃ q ∈ qs, q ≤ k
theorem needed_up {e : Int} {qs : List Int} {k j : Int} (h : needed e qs k) (hj : k ≤ j) : needed e qs j := by
  rcases h with h | ⟨q, hq, h⟩
  · exact .inl (by omega)
  · exact .inr ⟨q, hq, by omega⟩
theorem relP_mem {e : Int} {qs : List Int} {ps : List P2} {p : P2} : p ∈ relP e qs ps ↔ p ∈ ps ∧ needed e qs p.2 := by
  unfold relP needed
  rw [List.mem_filter]
  simp only [Bool.or_eq_true, decide_eq_true_eq, List.any_eq_true]
/-- The pages of each epoch from 0 on, behind the first i acts. -/
def epN (t : Nat) (acts : List P2) : Nat → List (List Int)
  | 0 => [[]]
  | i + 1 => if (nthP acts i).1 = 1 ∧ (stN t acts (i + 1)).c = 0 then epN t acts i ++ [(stN t acts (i + 1)).pg] else epN t acts i
def nthE (E : List (List Int)) (k : Nat) : List Int := E.getD k []
/-- What is needed is of now, or is held. -/
def EInv (e : Int) (ss : List Int) (ps : List P2) (qs : List Int) (E : List (List Int)) : Prop :=
  (E.length : Int) = e + 1 ∧ ∀ k : Nat, k < E.length → needed e qs k → ∀ p ∈ nthE E k, p ∈ ss ∨ ∃ j : Int, (p, j) ∈ ps ∧ (k : Int) ≤ j
theorem nthE_snoc (E : List (List Int)) (l : List Int) (k : Nat) : nthE (E ++ [l]) k = if k < E.length then nthE E k else if k = E.length then l else [] := by
  unfold nthE
  rw [List.getD_eq_getElem?_getD, List.getD_eq_getElem?_getD]
  by_cases h : k < E.length
  · rw [if_pos h, List.getElem?_append_left h]
  · rw [if_neg h]
    by_cases h2 : k = E.length
    · subst h2; simp
    · rw [if_neg h2, List.getElem?_eq_none (by simp; omega)]
      rfl
theorem mer_mem {e : Int} {ss : List Int} {ps : List P2} {p : P2} : p ∈ mer e ss ps ↔ (∃ s ∈ ss, p = (s, e)) ∨ p ∈ ps := by
  rw [(mer_perm e ss ps).mem_iff]
  unfold kvOf
  rw [List.mem_append, List.mem_map]
  constructor
  · rintro (⟨a, ha, rfl⟩ | h)
    · exact .inl ⟨a, ha, rfl⟩
    · exact .inr h
  · rintro (⟨a, ha, rfl⟩ | h)
    · exact .inl ⟨a, ha, rfl⟩
    · exact .inr h

theorem einv_step (t : Nat) (e : Int) (ss : List Int) (ps : List P2) (qs : List Int) (E : List (List Int)) (k n : Int) (h : EInv e ss ps qs E) :
    EInv (stp t e ss ps qs k n).e (stp t e ss ps qs k n).ss (stp t e ss ps qs k n).ps (stp t e ss ps qs k n).qs (if k = 1 ∧ (stp t e ss ps qs k n).c = 0 then E ++ [(stp t e ss ps qs k n).pg] else E) := by
  obtain ⟨hl, hi⟩ := h
  by_cases k1 : k = 1
  · subst k1
    by_cases hn : 0 ≤ n ∧ n ≤ 64
    · by_cases hf : (freeK (usedB ss ps) t).length < n.toNat ∨ e = 1000000
      · have E1 : stp t e ss ps qs 1 n = ⟨e, ss, ps, qs, 7, []⟩ := by unfold stp; rw [if_pos rfl, if_pos hn, if_pos hf]
        rw [E1, if_neg (fun h => absurd (show (7 : Int) = 0 from h.2) (by decide))]
        exact ⟨hl, hi⟩
      · have E1 : stp t e ss ps qs 1 n = ⟨e + 1, (freeK (usedB ss ps) t).take n.toNat, relP (e + 1) qs (mer e ss ps), qs, 0, (freeK (usedB ss ps) t).take n.toNat⟩ := by unfold stp; rw [if_pos rfl, if_pos hn, if_neg hf]
        rw [E1, if_pos ⟨rfl, rfl⟩]
        refine ⟨by rw [List.length_append]; simp; omega, fun j hj hN p hp => ?_⟩
        rw [nthE_snoc] at hp
        by_cases hjl : j < E.length
        · rw [if_pos hjl] at hp
          have hN' : needed e qs (j : Int) := by
            rcases hN with hN | hN
            · exact .inl (by dsimp only at hN; omega)
            · exact .inr hN
          refine .inr ?_
          rcases hi j hjl hN' p hp with hs | ⟨i, hi', hji⟩
          · refine ⟨e, ?_, by omega⟩
            exact relP_mem.mpr ⟨mer_mem.mpr (.inl ⟨p, hs, rfl⟩), .inl (by dsimp only; omega)⟩
          · exact ⟨i, relP_mem.mpr ⟨mer_mem.mpr (.inr hi'), needed_up hN hji⟩, hji⟩
        · rw [if_neg hjl] at hp
          by_cases hje : j = E.length
          · rw [if_pos hje] at hp
            exact .inl hp
          · rw [if_neg hje] at hp
            cases hp
    · have E1 : stp t e ss ps qs 1 n = ⟨e, ss, ps, qs, 4, []⟩ := by unfold stp; rw [if_pos rfl, if_neg hn]
      rw [E1, if_neg (fun h => absurd (show (4 : Int) = 0 from h.2) (by decide))]
      exact ⟨hl, hi⟩
  rw [if_neg (fun h => k1 h.1)]
  by_cases k2 : k = 2
  · subst k2
    by_cases hq : 4 ≤ qs.length
    · have E1 : stp t e ss ps qs 2 n = ⟨e, ss, ps, qs, 7, []⟩ := by unfold stp; rw [if_neg (by decide), if_pos rfl, if_pos hq]
      rw [E1]
      exact ⟨hl, hi⟩
    · have E1 : stp t e ss ps qs 2 n = ⟨e, ss, ps, qs ++ [e], 0, ss⟩ := by unfold stp; rw [if_neg (by decide), if_pos rfl, if_neg hq]
      rw [E1]
      refine ⟨hl, fun j hj hN p hp => hi j hj ?_ p hp⟩
      rcases hN with hN | ⟨q, hq, hN⟩
      · exact .inl hN
      · rcases List.mem_append.mp hq with hq | hq
        · exact .inr ⟨q, hq, hN⟩
        · have e1 : q = e := by simpa using hq
          exact .inl (by omega)
  by_cases k3 : k = 3
  · subst k3
    by_cases hn : 0 ≤ n ∧ n < qs.length
    · have E1 : stp t e ss ps qs 3 n = ⟨e, ss, relP e (qs.eraseIdx n.toNat) ps, qs.eraseIdx n.toNat, 0, []⟩ := by unfold stp; rw [if_neg (by decide), if_neg (by decide), if_pos rfl, if_pos hn]
      rw [E1]
      refine ⟨hl, fun j hj hN p hp => ?_⟩
      have hN' : needed e qs (j : Int) := by
        rcases hN with hN | ⟨q, hq, hN⟩
        · exact .inl hN
        · exact .inr ⟨q, List.mem_of_mem_eraseIdx hq, hN⟩
      rcases hi j hj hN' p hp with hs | ⟨i, hi', hji⟩
      · exact .inl hs
      · exact .inr ⟨i, relP_mem.mpr ⟨hi', needed_up hN hji⟩, hji⟩
    · have E1 : stp t e ss ps qs 3 n = ⟨e, ss, ps, qs, 5, []⟩ := by unfold stp; rw [if_neg (by decide), if_neg (by decide), if_pos rfl, if_neg hn]
      rw [E1]
      exact ⟨hl, hi⟩
  · have E1 : stp t e ss ps qs k n = ⟨e, ss, ps, qs, 3, []⟩ := by unfold stp; rw [if_neg k1, if_neg k2, if_neg k3]
    rw [E1]
    exact ⟨hl, hi⟩
theorem ep_inv (t : Nat) (acts : List P2) : ∀ i, EInv (stN t acts i).e (stN t acts i).ss (stN t acts i).ps (stN t acts i).qs (epN t acts i)
  | 0 => ⟨rfl, fun k hk _ p hp => by
      have e0 : k = 0 := by
        have : (epN t acts 0).length = 1 := rfl
        omega
      subst e0
      cases hp⟩
  | i + 1 => einv_step t _ _ _ _ _ _ _ (ep_inv t acts i)
/-- What a commit gives is none of what is needed. -/
theorem commit_new (t : Nat) (e : Int) (ss : List Int) (ps : List P2) (qs : List Int) (E : List (List Int)) (n : Int) (h : EInv e ss ps qs E) : ∀ k : Nat, k < E.length → needed e qs k → ∀ p ∈ (stp t e ss ps qs 1 n).pg, p ∉ nthE E k := by
  intro k hk hN p hp hpe
  by_cases hn : 0 ≤ n ∧ n ≤ 64
  · by_cases hf : (freeK (usedB ss ps) t).length < n.toNat ∨ e = 1000000
    · have E1 : stp t e ss ps qs 1 n = ⟨e, ss, ps, qs, 7, []⟩ := by unfold stp; rw [if_pos rfl, if_pos hn, if_pos hf]
      rw [E1] at hp
      cases hp
    · have E1 : stp t e ss ps qs 1 n = ⟨e + 1, (freeK (usedB ss ps) t).take n.toNat, relP (e + 1) qs (mer e ss ps), qs, 0, (freeK (usedB ss ps) t).take n.toNat⟩ := by unfold stp; rw [if_pos rfl, if_pos hn, if_neg hf]
      rw [E1] at hp
      have hu := (freeK_mem _ _ p (List.mem_of_mem_take hp)).2
      unfold usedB at hu
      rw [Bool.or_eq_false_iff, List.any_eq_false, List.any_eq_false] at hu
      rcases h.2 k hk hN p hpe with hs | ⟨j, hj, _⟩
      · exact hu.1 p hs (by simp)
      · exact hu.2 _ hj (by simp)
  · have E1 : stp t e ss ps qs 1 n = ⟨e, ss, ps, qs, 4, []⟩ := by unfold stp; rw [if_pos rfl, if_neg hn]
    rw [E1] at hp
    cases hp
theorem stp_zero {t : Nat} {e : Int} {ss : List Int} {ps : List P2} {qs : List Int} {k n : Int} (hc : (stp t e ss ps qs k n).c = 0) (hk : k ≠ 1) : (k = 2 ∧ (stp t e ss ps qs k n).qs = qs ++ [e]) ∨ (k = 3 ∧ (0 ≤ n ∧ n < qs.length) ∧ (stp t e ss ps qs k n).qs = qs.eraseIdx n.toNat) := by
  by_cases k2 : k = 2
  · subst k2
    by_cases hq : 4 ≤ qs.length
    · have E1 : stp t e ss ps qs 2 n = ⟨e, ss, ps, qs, 7, []⟩ := by unfold stp; rw [if_neg (by decide), if_pos rfl, if_pos hq]
      rw [E1] at hc
      exact absurd (show (7 : Int) = 0 from hc) (by decide)
    · have E1 : stp t e ss ps qs 2 n = ⟨e, ss, ps, qs ++ [e], 0, ss⟩ := by unfold stp; rw [if_neg (by decide), if_pos rfl, if_neg hq]
      rw [E1]
      exact .inl ⟨rfl, rfl⟩
  by_cases k3 : k = 3
  · subst k3
    by_cases hn : 0 ≤ n ∧ n < qs.length
    · have E1 : stp t e ss ps qs 3 n = ⟨e, ss, relP e (qs.eraseIdx n.toNat) ps, qs.eraseIdx n.toNat, 0, []⟩ := by unfold stp; rw [if_neg (by decide), if_neg (by decide), if_pos rfl, if_pos hn]
      rw [E1]
      exact .inr ⟨rfl, hn, rfl⟩
    · have E1 : stp t e ss ps qs 3 n = ⟨e, ss, ps, qs, 5, []⟩ := by unfold stp; rw [if_neg (by decide), if_neg (by decide), if_pos rfl, if_neg hn]
      rw [E1] at hc
      exact absurd (show (5 : Int) = 0 from hc) (by decide)
  · have E1 : stp t e ss ps qs k n = ⟨e, ss, ps, qs, 3, []⟩ := by unfold stp; rw [if_neg hk, if_neg k2, if_neg k3]
    rw [E1] at hc
    exact absurd (show (3 : Int) = 0 from hc) (by decide)
/-- With a code, or by a commit, the pins stay. -/
theorem stp_qs {t : Nat} {e : Int} {ss : List Int} {ps : List P2} {qs : List Int} {k n : Int} (h : (stp t e ss ps qs k n).c ≠ 0 ∨ k = 1) : (stp t e ss ps qs k n).qs = qs := by
  unfold stp at h ⊢
  split at h <;> rename_i h1
  · rw [if_pos h1]
    split
    · split <;> rfl
    · rfl
  · rw [if_neg h1]
    split at h <;> rename_i h2
    · rw [if_pos h2]
      split at h <;> rename_i h3
      · rw [if_pos h3]
      · exact absurd rfl (h.resolve_right h1)
    · rw [if_neg h2]
      split at h <;> rename_i h3
      · rw [if_pos h3]
        split at h <;> rename_i h4
        · exact absurd rfl (h.resolve_right h1)
        · rw [if_neg h4]
      · rw [if_neg h3]

theorem filt_len (m : Int) : ∀ L : List Int, (L.filter (fun x => decide (x < m + 1))).length = (L.filter (fun x => decide (x < m))).length + L.count m
  | [] => rfl
  | x :: L => by
    have ih := filt_len m L
    rw [List.count_cons]
    rcases (show x < m ∨ x = m ∨ m < x by omega) with c | c | c
    · rw [List.filter_cons_of_pos (by simp; omega), List.filter_cons_of_pos (by simp; omega), List.length_cons, List.length_cons, ih, if_neg (by simp; omega)]
      omega
    · rw [List.filter_cons_of_pos (by simp; omega), List.filter_cons_of_neg (by simp; omega), List.length_cons, ih, if_pos (by simp; omega)]
      omega
    · rw [List.filter_cons_of_neg (by simp; omega), List.filter_cons_of_neg (by simp; omega), ih, if_neg (by simp; omega)]
      rfl
theorem free_count (u : Int → Bool) (L : List Int) (hn : L.Nodup) (hz : ∀ x ∈ L, 0 ≤ x) (hu : ∀ x, u x = true ↔ x ∈ L) : ∀ m : Nat, (freeK u m).length + (L.filter (fun x => decide (x < (m : Int)))).length = m
  | 0 => by
    have : L.filter (fun x => decide (x < ((0 : Nat) : Int))) = [] := by
      rw [List.filter_eq_nil_iff]
      intro x hx
      have := hz x hx
      simp
      omega
    rw [this]
    rfl
  | m + 1 => by
    have ih := free_count u L hn hz hu m
    have e : ((m + 1 : Nat) : Int) = (m : Int) + 1 := by omega
    rw [e, filt_len]
    unfold freeK
    by_cases hm : (m : Int) ∈ L
    · rw [if_pos ((hu _).mpr hm), hn.count, if_pos hm]
      omega
    · have : ¬ u (m : Int) = true := fun c => hm ((hu _).mp c)
      rw [if_neg this, List.count_eq_zero_of_not_mem hm, List.length_append]
      simp only [List.length_cons, List.length_nil]
      omega
theorem all_pages {t : Nat} {e : Int} {ss : List Int} {ps : List P2} {qs : List Int} (h : OkSp t e ss ps qs) : (freeK (usedB ss ps) t).length + ss.length + ps.length = t := by
  have hn : (ss ++ ps.map (·.1)).Nodup := by
    rw [List.nodup_append]
    refine ⟨List.Pairwise.imp (fun h => by omega) (riseI_pw h.2.2.1), ?_, fun a ha b hb => ?_⟩
    · rw [List.Nodup, List.pairwise_map]
      exact List.Pairwise.imp (fun h => by omega) (riseP_pw h.2.2.2.1)
    · obtain ⟨p, hp, rfl⟩ := List.mem_map.mp hb
      exact ok_ne h a ha p hp
  have hall : ∀ x ∈ ss ++ ps.map (·.1), 0 ≤ x ∧ x < (t : Int) := fun x hx => by
    rcases List.mem_append.mp hx with hx | hx
    · exact ok_ss h x hx
    · obtain ⟨p, hp, rfl⟩ := List.mem_map.mp hx
      exact (ok_ps h p hp).1
  have := free_count (usedB ss ps) (ss ++ ps.map (·.1)) hn (fun x hx => (hall x hx).1) (fun x => by
    unfold usedB
    rw [Bool.or_eq_true, List.any_eq_true, List.any_eq_true, List.mem_append, List.mem_map]
    constructor
    · rintro (⟨y, hy, e⟩ | ⟨y, hy, e⟩)
      · exact .inl (by have : y = x := by simpa using e
                       exact this ▸ hy)
      · exact .inr ⟨y, hy, by simpa using e⟩
    · rintro (hx | ⟨y, hy, e⟩)
      · exact .inl ⟨x, hx, by simp⟩
      · exact .inr ⟨y, hy, by simpa using e⟩) t
  have e : (ss ++ ps.map (·.1)).filter (fun x => decide (x < (t : Int))) = ss ++ ps.map (·.1) := by
    rw [List.filter_eq_self]
    intro x hx
    simpa using (hall x hx).2
  rw [e, List.length_append, List.length_map] at this
  omega
/-- Where the law begins to look. -/
theorem from_needed {e : Int} {qs : List Int} {k : Nat} (h : max 0 (qs.foldl min (e - 1)) ≤ (k : Int)) : needed e qs k := (fold_min (k : Int) qs (e - 1)).mp (by omega)
end Go.Proofs.Ytaklphoplfofbaa
namespace Go.Proofs.Ytaklphoplfofbaa
open Go.RowKit

set_option maxHeartbeats 1000000 in
theorem same_rows (a1 a2 : Option Addr) (c1 c2 : Nat) (ss : List Int) (w : World) (h1 : RowI w a1 ss) (h2 : RowI w a2 ss) (hlen : ss.length ≤ 1048576) :
    Calls Try.prog 13 #[.slice a1 ss.length c1, .slice a2 ss.length c2] w fun e w' => e = .returned (.bool true) ∧ Below w.heap.size w w' := by
  have H1 : Hid (RowI w a1 ss) := h1
  have H2 : Hid (RowI w a2 ss) := h2
  clear h1 h2
  generalize hL : ss.length = len at *
  have HL : Hid (ss.length = len) := hL
  clear hL
  go_enter Try.func13, Try.ntmps13
  go_wp2
  go_loopw [5] (fun i wr => ∃ k : Nat, k ≤ len ∧ i = .int .i64 k ∧ Below w.heap.size w wr) (fun i _ => len - (intOf i).toNat)
  case atStart => exact ⟨0, by omega, rfl, Below.refl _ _⟩
  case round =>
    obtain ⟨k, hk, rfl, hbl⟩ := hrel
    by_cases hlt : k < len
    · obtain ⟨b1, o1, rfl, hlb1, hc1⟩ := (H1.out.below hbl) k (by rw [HL.out]; exact hlt)
      obtain ⟨b2, o2, rfl, hlb2, hc2⟩ := (H2.out.below hbl) k (by rw [HL.out]; exact hlt)
      go_wp2_with fail
      go_quiet (fail)
      go_wp2
      go_roundw
      case rel => exact ⟨k + 1, by omega, by go_num, below_drewN hbl _⟩
      case measure => simp [intOf]; omega
    · go_wp2
      go_ret
      exact ⟨rfl, hbl⟩


theorem same_read (v v' : Value) (l : List Int) (w : World) (h : ReadI w v l) (h' : ReadI w v' l) (hl : l.length ≤ 1048576) : Calls Try.prog 13 #[v, v'] w fun e w' => e = .returned (.bool true) ∧ Below w.heap.size w w' := by
  obtain ⟨a, c, rfl, r⟩ := h.row
  obtain ⟨a', c', rfl, r'⟩ := h'.row
  exact same_rows a a' c c' l w r r' hl

set_option maxRecDepth 100000 in
set_option maxHeartbeats 1000000 in
theorem hasnt_rows (a : Option Addr) (c : Nat) (l : List Int) (x : Int) (w : World) (h : RowI w a l) (hlen : l.length ≤ 1048576) (hx : x ∉ l) :
    Calls Try.prog 15 #[.slice a l.length c, .int .i64 x] w fun e w' => e = .returned (.bool false) ∧ w' = w := by
  have H : Hid (RowI w a l) := h
  have HX : Hid (∀ i, i < l.length → ¬ nthI l i = x) := fun i hi e => hx (by rw [← e, nthI_get hi]; exact List.getElem_mem hi)
  clear h hx
  generalize hL : l.length = len at *
  have HL : Hid (l.length = len) := hL
  clear hL
  go_enter Try.func15, Try.ntmps15
  go_wp2
  go_loop [5] (fun i => ∃ k : Nat, k ≤ len ∧ i = .int .i64 k) (fun i => len - (intOf i).toNat)
  case atStart => exact ⟨0, by omega, rfl⟩
  case round =>
    obtain ⟨k, hk, rfl⟩ := hrel
    by_cases hlt : k < len
    · obtain ⟨b, off, rfl, hlb, hc⟩ := H.out k (by rw [HL.out]; exact hlt)
      have hne := HX.out k hlt
      generalize nthI l k = y at *
      go_wp2
      go_round
      case rel => exact ⟨k + 1, by omega, by go_num⟩
      case measure => simp [intOf]; omega
    · obtain rfl : k = len := by omega
      go_wp2
      go_ret
      exact ⟨rfl, rfl⟩
theorem hasnt_read (v : Value) (l : List Int) (x : Int) (w : World) (h : ReadI w v l) (hl : l.length ≤ 1048576) (hx : x ∉ l) : Calls Try.prog 15 #[v, .int .i64 x] w fun e w' => e = .returned (.bool false) ∧ w' = w := by
  obtain ⟨a, c, rfl, r⟩ := h.row
  exact hasnt_rows a c l x w r hl hx
theorem OwnQ.row {w : World} {B : Nat} {v : Value} {l : List P2} (h : OwnQ w B v l) : ∃ a cap, v = .slice a l.length cap ∧ RowP w a l := by
  rcases h.2 with ⟨rfl, hn⟩ | ⟨g, cap, cur, rfl, hB, hh, hc, hm, hs, ht⟩
  · exact ⟨none, 0, by rw [hn], fun i hi => by omega⟩
  · refine ⟨_, cap, rfl, fun i hi => ⟨g, 0, rfl, slab_lt hh, ?_⟩⟩
    obtain ⟨g0, g1⟩ := cellsP_get l i hi
    have key : ∀ j u, j < l.length * 2 → (cellsP l)[j]? = some u → w.cell? ⟨g, 0 + j, none⟩ = some u := fun j u hj hu => by
      rw [slab_cell hh, Nat.zero_add]
      have := congrArg (fun q => q[j]?) ht
      rw [List.getElem?_take_of_lt hj, hu] at this
      rw [← Array.getElem?_toList, this]
    refine ⟨key _ _ (by omega) g0, ?_⟩
    rw [Nat.add_assoc]
    exact key _ _ (by omega) g1
/-- v owns the lists es. -/
abbrev OwnV (w : World) (B : Nat) (v : Value) (es : List Value) : Prop := w.ownsRow B 26 1 v es.length es
def nthV (es : List Value) (i : Nat) : Value := es.getD i (.slice none 0 0)
def RowV (w : World) (a : Option Addr) (es : List Value) : Prop := ∀ i, i < es.length → ∃ b off, a = some ⟨b, off, none⟩ ∧ b < w.heap.size ∧ w.cell? ⟨b, off + i, none⟩ = some (nthV es i)
theorem RowV.below {w w' : World} {a : Option Addr} {es : List Value} (h : RowV w a es) (hb : Below w.heap.size w w') : RowV w' a es := fun i hi => by
  obtain ⟨b, off, e, hlt, h0⟩ := h i hi
  exact ⟨b, off, e, Nat.lt_of_lt_of_le hlt hb.size, (hb.cell (p := ⟨b, off + i, none⟩) hlt).trans h0⟩
theorem OwnV.row {w : World} {B : Nat} {v : Value} {es : List Value} (h : OwnV w B v es) : ∃ a cap, v = .slice a es.length cap ∧ RowV w a es := by
  rcases h.2 with ⟨rfl, hn⟩ | ⟨g, cap, cur, rfl, hB, hh, hc, hm, hs, ht⟩
  · exact ⟨none, 0, by rw [hn], fun i hi => by omega⟩
  · refine ⟨_, cap, rfl, fun i hi => ⟨g, 0, rfl, slab_lt hh, ?_⟩⟩
    rw [slab_cell hh, Nat.zero_add]
    have := congrArg (fun q => q[i]?) ht
    rw [List.getElem?_take_of_lt (by omega)] at this
    rw [← Array.getElem?_toList, this]
    unfold nthV
    rw [List.getD_eq_getElem?_getD, List.getElem?_eq_getElem hi]
    rfl
theorem nthV_snoc (l : List Value) (p : Value) (i : Nat) (h : i ≤ l.length) : nthV (l ++ [p]) i = if i < l.length then nthV l i else p := by
  unfold nthV
  rw [List.getD_eq_getElem?_getD, List.getD_eq_getElem?_getD]
  by_cases hl : i < l.length
  · rw [if_pos hl, List.getElem?_append_left hl]
  · obtain rfl : i = l.length := by omega
    rw [if_neg hl]
    simp
theorem info26 : (Try.prog.info? 26).map (fun i => (i.zero, i.size, i.bytes)) = some (some (.slice none 0 0), 1, 24) := by kernel_rfl
end Go.Proofs.Ytaklphoplfofbaa
namespace Go.Proofs.Ytaklphoplfofbaa
open Go.ChangeShapes Go.WideShapes Go.ChangeAt Go.RowKit Go.Joins

theorem open_bytes {H : Type} {enc : TypeId × Value → H} {W : World} {a : Option Addr} {len cap : Nat} {d : DataW H} {p : List MemPlace}
    (h : DataW.Trod enc Try.prog W 0 (fun _ => true) true 22 (.slice a len cap) d p) : ∃ l : List UInt8, l.length = len ∧ ReadL W a l ∧ l.length ≤ maxLen := by
  obtain ⟨fuel, hf⟩ := h
  rcases open_ints Try.underlying22 Try.underlying5 (by kernel_rfl) hf with ⟨hcs, _⟩ | ⟨x, ln, c, zs, hcs, _, hl, hm, hz, _, hcell, hwz⟩
  · simp [Value.cells] at hcs
    obtain ⟨rfl, rfl, rfl⟩ := hcs
    exact ⟨[], rfl, fun i hi => absurd hi (Nat.not_lt_zero _), Nat.zero_le _⟩
  · simp [Value.cells] at hcs
    obtain ⟨rfl, rfl, rfl⟩ := hcs
    have hz' : zs.length = cap := by simpa using hz
    refine ⟨(zs.take len).map fun z => UInt8.ofNat z.toNat, by simp; omega, fun i hi => ?_, by simp; omega⟩
    have hi' : i < len := by simp at hi; omega
    have hlt : i < zs.length := by omega
    have hc := hcell i hlt
    obtain ⟨b, off, spot⟩ := x
    have hs : spot = none := by simpa [Addr.add] using World.cell?_spot (hcell 0 (by omega))
    subst hs
    have hb := World.block_lt_of_cell? W _ hc
    rw [add_plain] at hc hb
    refine ⟨b, off, rfl, hb, ?_⟩
    rw [hc]
    have hmem : zs.getD i 0 ∈ zs := by rw [List.getD_eq_getElem?_getD, List.getElem?_eq_getElem hlt]; exact List.getElem_mem _
    have hbd := bounds_u8 (hwz _ hmem)
    have e : ((zs.take len).map fun z => UInt8.ofNat z.toNat).getD i 0 = UInt8.ofNat (zs.getD i 0).toNat := by
      rw [List.getD_eq_getElem?_getD, List.getElem?_map, List.getElem?_take, if_pos hi', List.getD_eq_getElem?_getD, List.getElem?_eq_getElem hlt]
      rfl
    unfold byU
    rw [e]
    generalize zs.getD i 0 = z at *
    congr 2
    have e2 : (UInt8.ofNat z.toNat).toNat = z.toNat % 256 := UInt8.toNat_ofNat'
    rw [e2]
    omega
end Go.Proofs.Ytaklphoplfofbaa
