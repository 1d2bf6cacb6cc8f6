/- A value drawn from a source of choices is a right value. -/
import Derived.Test.YthdilgggjkekaaaSource
import Derived.Test.YthdilgggjkekaaaArA
namespace Go.Proofs.Ythdilgggjkekaaa
open Go.RowKit

/-- A block that holds numbers alone. -/
theorem int_at {b : Nat} {w w1 : World} {C : Array Value} {ty : TypeId} {i : Nat} (hB : But b (w.alloc (.cells C ty)) w1) (hb : b < w.heap.size) (hC : ∀ x ∈ C, ∃ v : Int, x = .int .i64 v ∧ In64 v) (hi : i < C.size) :
    ∃ v : Int, w1.cell? ⟨w.heap.size, i, none⟩ = some (.int .i64 v) ∧ In64 v := by
  obtain ⟨v, hv, hi64⟩ := hC C[i] (Array.getElem_mem hi)
  refine ⟨v, ?_, hi64⟩
  rw [hB.cell (p := ⟨w.heap.size, i, none⟩) (by simp) (by simp; omega), World.cell?_alloc_at _ _ _ _ rfl, Array.getElem?_eq_getElem hi, hv]

/-- A new block that holds short texts alone. -/
theorem str_at {w : World} {C : Array Value} {ty : TypeId} {i : Nat} (hC : ∀ x ∈ C, ∃ t : ByteArray, x = .string t ∧ t.size ≤ 8) (hi : i < C.size) :
    ∃ t : ByteArray, (w.alloc (.cells C ty)).cell? ⟨w.heap.size, i, none⟩ = some (.string t) ∧ t.size ≤ 8 := by
  obtain ⟨t, hv, ht⟩ := hC C[i] (Array.getElem_mem hi)
  exact ⟨t, by rw [World.cell?_alloc_at _ _ _ _ rfl, Array.getElem?_eq_getElem hi, hv], ht⟩

theorem odd_any {w : World} {b : Nat} {a : Option Addr} {len cap m : Nat} (h : Src w b a len cap m) (hm : m ≤ 100000) :
    Calls Try.prog 32 #[.pointer (some ⟨b, 0, none⟩)] w fun e w' => ∃ r : Int, e = .returned (.int .i64 r) ∧ In64 r ∧ Src w' b a len cap (m + 1) ∧ But b w w' := by
  have hl := h.lt
  go_enter Try.func32, Try.ntmps32
  go_wp2_with fail
  refine (next_any 12 (h.below ((Below.refl _ _).alloc (Nat.le_refl _) _)) hm (by omega) (by omega)).mono ?_
  rintro e w1 ⟨r, rfl, r0, r1, hs, hb⟩
  obtain ⟨k, rfl⟩ := Int.eq_ofNat_of_zero_le r0
  obtain ⟨v, hv, hvi⟩ := int_at (i := k) hb hl (by intro x hx; simp at hx; rcases hx with rfl | rfl | rfl | rfl | rfl | rfl | rfl | rfl | rfl | rfl | rfl | rfl <;> exact ⟨_, rfl, by decide⟩) (by simp; omega)
  have HV : Hid (In64 v) := hvi
  clear hvi
  have hB := (But.of_below (b := b) ((Below.refl w.heap.size w).alloc (Nat.le_refl _) _)).trans hb
  clear h
  go_wp2
  go_ret
  exact ⟨v, rfl, HV.out, hs, hB⟩

theorem pick_any {w : World} {b : Nat} {a : Option Addr} {len cap m : Nat} (h : Src w b a len cap m) (hm : m ≤ 100000) (sb n : Nat) (h1 : 1 < n) (h2 : n ≤ 256) (hne : sb ≠ b) (hlt : sb < w.heap.size)
    (hstr : ∀ i, i < n → ∃ t : ByteArray, w.cell? ⟨sb, i, none⟩ = some (.string t) ∧ t.size ≤ 8) :
    Calls Try.prog 43 #[.pointer (some ⟨b, 0, none⟩), .slice (some ⟨sb, 0, none⟩) n n] w fun e w' => ∃ t : ByteArray, e = .returned (.string t) ∧ t.size ≤ 8 ∧ Src w' b a len cap (m + 1) ∧ But b w w' := by
  have hz : ((n : Int) == 0) = false := beq_eq_false_iff_ne.2 (by omega)
  have HS : Hid (∀ i, i < n → ∃ t : ByteArray, w.cell? ⟨sb, i, none⟩ = some (.string t) ∧ t.size ≤ 8) := hstr
  clear hstr
  go_enter Try.func43, Try.ntmps43
  go_wp2_with fail
  refine (next_any (n : Int) h hm (by omega) (by omega)).mono ?_
  rintro e w1 ⟨r, rfl, r0, r1, hs, hb⟩
  obtain ⟨k, rfl⟩ := Int.eq_ofNat_of_zero_le r0
  obtain ⟨t, hv, ht⟩ := HS.out k (by omega)
  have hc : w1.cell? ⟨sb, k, none⟩ = some (.string t) := (hb.cell (p := ⟨sb, k, none⟩) hlt hne).trans hv
  clear h
  go_wp2
  go_ret
  exact ⟨t, rfl, ht, hs, hb⟩

theorem word_any {w : World} {b : Nat} {a : Option Addr} {len cap m : Nat} (h : Src w b a len cap m) (hm : m ≤ 100000) :
    Calls Try.prog 33 #[.pointer (some ⟨b, 0, none⟩)] w fun e w' => ∃ t : ByteArray, e = .returned (.string t) ∧ t.size ≤ 8 ∧ Src w' b a len cap (m + 1) ∧ But b w w' := by
  have hl := h.lt
  go_enter Try.func33, Try.ntmps33
  go_wp2_with fail
  refine (pick_any (h.below ((Below.refl _ _).alloc (Nat.le_refl _) _)) hm w.heap.size 10 (by omega) (by omega) (by omega) (by simp) ?_).mono ?_
  · exact fun i hi => str_at (by intro x hx; simp at hx; rcases hx with rfl | rfl | rfl | rfl | rfl | rfl | rfl | rfl | rfl | rfl <;> exact ⟨_, rfl, by decide⟩) (by simpa using hi)
  rintro e w1 ⟨t, rfl, ht, hs, hb⟩
  have hB := (But.of_below (b := b) ((Below.refl w.heap.size w).alloc (Nat.le_refl _) _)).trans hb
  go_wp2
  go_ret
  exact ⟨t, rfl, ht, hs, hB⟩

theorem okV_null : okV 0 0 ⟨#[]⟩ = true := by simp [okV, ByteArray.toList_eq]
theorem okV_bool (r : Int) (h0 : 0 ≤ r) (h1 : r < 2) : okV 1 r ⟨#[]⟩ = true := by
  have h : inB r 0 1 = true := decide_eq_true ⟨h0, by omega⟩
  simp [okV, ByteArray.toList_eq, h]
theorem okV_int (r : Int) : okV 2 r ⟨#[]⟩ = true := by simp [okV, ByteArray.toList_eq]
theorem okV_text (t : ByteArray) (h : t.size ≤ 8) : okV 3 0 t = true := by simp [okV]; omega
theorem okV_bytes (t : ByteArray) (h : t.size ≤ 8) : okV 4 0 t = true := by simp [okV]; omega

/-- A store into the result's block, which lies behind w. -/
theorem But.res {b : Nat} {w w1 : World} (h : But b w w1) (o : Nat) (v : Value) : But b w (w1.setCell ⟨w.heap.size, o, none⟩ v) :=
  ⟨h.os, h.tape, h.output, by simpa [World.setCell] using h.size, fun k hk hkb => (Below.heap_setCell _ _ _ _ (by simp; omega)).trans (h.block k hk hkb)⟩
theorem Src.res {w w1 : World} {b : Nat} {a : Option Addr} {len cap m : Nat} (h : Src w1 b a len cap m) (hb : b < w.heap.size) (o : Nat) (v : Value) (hcode : 0 < len → ∀ x, a = some x → x.block < w.heap.size) : Src (w1.setCell ⟨w.heap.size, o, none⟩ v) b a len cap m := by
  obtain ⟨k, seed, hk, h1, h2, h3, h4⟩ := h.ks
  have hc : ∀ p : Addr, p.block ≠ w.heap.size → (w1.setCell ⟨w.heap.size, o, none⟩ v).cell? p = w1.cell? p := fun p hp => World.cell?_of_block (Below.heap_setCell _ _ _ _ hp)
  have hf : ∀ p : Addr, p.block ≠ w.heap.size → (w1.setCell ⟨w.heap.size, o, none⟩ v).frozen? p = w1.frozen? p := fun p hp => World.frozen?_of_block (Below.heap_setCell _ _ _ _ hp)
  refine ⟨(hc ⟨b, 0, none⟩ (by simp; omega)).trans h.c0, ⟨k, seed, hk, (hc ⟨b, 1, none⟩ (by simp; omega)).trans h1, (hc ⟨b, 2, none⟩ (by simp; omega)).trans h2, h3, h4⟩, (hf ⟨b, 1, none⟩ (by simp; omega)).trans h.f1, (hf ⟨b, 2, none⟩ (by simp; omega)).trans h.f2, h.lenle, fun i hi => ?_⟩
  obtain ⟨cb, off, c, e, hne, hlt, h0, h5, hcc⟩ := h.code i hi
  have := hcode (by omega) _ e
  exact ⟨cb, off, c, e, hne, by simpa [World.setCell] using hlt, h0, h5, (hc ⟨cb, off + i, none⟩ (by simp at this ⊢; omega)).trans hcc⟩

/-- The three cells of the result's block, behind what a draw leaves. -/
theorem res_cells {b : Nat} {w w1 : World} {c0 c1 c2 : Value} {ty : TypeId} (hb : But b (w.alloc (.cells #[c0, c1, c2] ty)) w1) (hl : b < w.heap.size) :
    w1.cell? ⟨w.heap.size, 0, none⟩ = some c0 ∧ w1.cell? ⟨w.heap.size, 1, none⟩ = some c1 ∧ w1.cell? ⟨w.heap.size, 2, none⟩ = some c2 ∧ (∀ o, w1.frozen? ⟨w.heap.size, o, none⟩ = false) ∧ w.heap.size < w1.heap.size ∧ But b w w1 := by
  have hc : ∀ o, w1.cell? ⟨w.heap.size, o, none⟩ = #[c0, c1, c2][o]? := fun o =>
    (hb.cell (p := ⟨w.heap.size, o, none⟩) (by simp) (by simp; omega)).trans (World.cell?_alloc_at _ _ _ _ rfl)
  refine ⟨hc 0, hc 1, hc 2, fun o => ?_, by have := hb.size; simp at this; omega, (But.of_below (b := b) ((Below.refl w.heap.size w).alloc (Nat.le_refl _) _)).trans hb⟩
  rw [hb.frozen (p := ⟨w.heap.size, o, none⟩) (by simp) (by simp; omega)]; go_simp

/-- The bytes of a slice can be read. -/
def Code (w : World) (a : Option Addr) (len : Nat) : Prop :=
  ∀ i, i < len → ∃ cb off c, a = some ⟨cb, off, none⟩ ∧ cb < w.heap.size ∧ (0 : Int) ≤ c ∧ c ≤ 255 ∧ w.cell? ⟨cb, off + i, none⟩ = some (.int .u8 c)
theorem Code.below {w w' : World} {a : Option Addr} {len B : Nat} (h : Code w a len) (hb : Below B w w') (hB : ∀ x, a = some x → 0 < len → x.block < B) : Code w' a len := fun i hi => by
  obtain ⟨cb, off, c, e, hlt, h0, h5, hc⟩ := h i hi
  have := hB _ e (by omega)
  exact ⟨cb, off, c, e, Nat.lt_of_lt_of_le hlt hb.size, h0, h5, (hb.cell (p := ⟨cb, off + i, none⟩) this).trans hc⟩
theorem Code.lt {w : World} {a : Option Addr} {len : Nat} (h : Code w a len) : 0 < len → ∀ x, a = some x → x.block < w.heap.size := fun hl x hx => by
  obtain ⟨cb, off, c, e, hlt, _⟩ := h 0 hl
  rw [hx] at e
  cases e
  exact hlt

theorem source_any {w : World} {a : Option Addr} {len cap : Nat} (h : Code w a len) (hlen : len ≤ 4194304) :
    Calls Try.prog 8 #[.slice a len cap] w fun e w' => e = .returned (.pointer (some ⟨w.heap.size, 0, none⟩)) ∧ Src w' w.heap.size a len cap 0 ∧ Below w.heap.size w w' := by
  have HC : Hid (Code w a len) := h
  clear h
  go_enter Try.func8, Try.ntmps8
  go_wp2
  go_ret
  have hB : Below w.heap.size w (w.alloc (.cells #[.slice a len cap, .int .i64 0, .int .i64 ((len : Int) % 1000)] 40)) := (Below.refl _ _).alloc (Nat.le_refl _) _
  refine ⟨rfl, ⟨by go_simp, ⟨0, (len : Int) % 1000, by omega, by go_simp, by go_simp, by omega, by omega⟩, by go_simp, by go_simp, hlen, fun i hi => ?_⟩, hB⟩
  obtain ⟨cb, off, c, e, hlt, h0, h5, hc⟩ := HC.out i hi
  exact ⟨cb, off, c, e, by omega, by simp; omega, h0, h5, (hB.cell (p := ⟨cb, off + i, none⟩) hlt).trans hc⟩

end Go.Proofs.Ythdilgggjkekaaa
