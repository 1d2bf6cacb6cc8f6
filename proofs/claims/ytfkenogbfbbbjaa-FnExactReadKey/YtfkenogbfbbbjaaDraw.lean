/- A value drawn from a source of choices is a right value. -/
import Derived.Test.YtfkenogbfbbbjaaSource
namespace Go.Proofs.Ytfkenogbfbbbjaa
open Go.RowKit

/-- A block that holds numbers alone. -/
theorem int_at {b : Nat} {w w1 : World} {C : Array Value} {ty : TypeId} {i : Nat} (hB : But b (w.alloc (.cells C ty)) w1) (hb : b < w.heap.size) (hC : ∀ x ∈ C, ∃ v : Int, x = .int .i64 v) (hi : i < C.size) :
    ∃ v : Int, w1.cell? ⟨w.heap.size, i, none⟩ = some (.int .i64 v) := by
  obtain ⟨v, hv⟩ := hC C[i] (Array.getElem_mem hi)
  refine ⟨v, ?_⟩
  rw [hB.cell (p := ⟨w.heap.size, i, none⟩) (by simp) (by simp; omega), World.cell?_alloc_at _ _ _ _ rfl, Array.getElem?_eq_getElem hi, hv]

/-- A new block that holds short texts alone. -/
theorem str_at {w : World} {C : Array Value} {ty : TypeId} {i : Nat} (hC : ∀ x ∈ C, ∃ t : ByteArray, x = .string t ∧ t.size ≤ 8) (hi : i < C.size) :
    ∃ t : ByteArray, (w.alloc (.cells C ty)).cell? ⟨w.heap.size, i, none⟩ = some (.string t) ∧ t.size ≤ 8 := by
  obtain ⟨t, hv, ht⟩ := hC C[i] (Array.getElem_mem hi)
  exact ⟨t, by rw [World.cell?_alloc_at _ _ _ _ rfl, Array.getElem?_eq_getElem hi, hv], ht⟩

theorem odd_any {w : World} {b : Nat} {a : Option Addr} {len cap m : Nat} (h : Src w b a len cap m) (hm : m ≤ 100000) :
    Calls Try.prog 79 #[.pointer (some ⟨b, 0, none⟩)] w fun e w' => ∃ r : Int, e = .returned (.int .i64 r) ∧ Src w' b a len cap (m + 1) ∧ But b w w' := by
  have hl := h.lt
  go_enter Try.func79, Try.ntmps79
  go_wp2_with fail
  refine (next_any 12 (h.below ((Below.refl _ _).alloc (Nat.le_refl _) _)) hm (by omega) (by omega)).mono ?_
  rintro e w1 ⟨r, rfl, r0, r1, hs, hb⟩
  obtain ⟨k, rfl⟩ := Int.eq_ofNat_of_zero_le r0
  obtain ⟨v, hv⟩ := int_at (i := k) hb hl (by intro x hx; simp at hx; rcases hx with rfl | rfl | rfl | rfl | rfl | rfl | rfl | rfl | rfl | rfl | rfl | rfl <;> exact ⟨_, rfl⟩) (by simp; omega)
  have hB := (But.of_below (b := b) ((Below.refl w.heap.size w).alloc (Nat.le_refl _) _)).trans hb
  clear h
  go_wp2
  go_ret
  exact ⟨v, rfl, hs, hB⟩

theorem pick_any {w : World} {b : Nat} {a : Option Addr} {len cap m : Nat} (h : Src w b a len cap m) (hm : m ≤ 100000) (sb n : Nat) (h1 : 1 < n) (h2 : n ≤ 256) (hne : sb ≠ b) (hlt : sb < w.heap.size)
    (hstr : ∀ i, i < n → ∃ t : ByteArray, w.cell? ⟨sb, i, none⟩ = some (.string t) ∧ t.size ≤ 8) :
    Calls Try.prog 106 #[.pointer (some ⟨b, 0, none⟩), .slice (some ⟨sb, 0, none⟩) n n] w fun e w' => ∃ t : ByteArray, e = .returned (.string t) ∧ t.size ≤ 8 ∧ Src w' b a len cap (m + 1) ∧ But b w w' := by
  have hz : ((n : Int) == 0) = false := beq_eq_false_iff_ne.2 (by omega)
  have HS : Hid (∀ i, i < n → ∃ t : ByteArray, w.cell? ⟨sb, i, none⟩ = some (.string t) ∧ t.size ≤ 8) := hstr
  clear hstr
  go_enter Try.func106, Try.ntmps106
  go_wp2_with fail
  refine (next_any (n : Int) h hm (by omega) (by omega)).mono ?_
  rintro e w1 ⟨r, rfl, r0, r1, hs, hb⟩
  obtain ⟨k, rfl⟩ := Int.eq_ofNat_of_zero_le r0
  obtain ⟨t, hv, ht⟩ := HS.out k (by omega)
  have hc : w1.cell? ⟨sb, k, none⟩ = some (.string t) := (hb.cell (p := ⟨sb, k, none⟩) hlt hne).trans hv
  clear h
  go_wp2
  go_ret
  exact ⟨t, rfl, ht, hs, hb⟩

theorem word_any {w : World} {b : Nat} {a : Option Addr} {len cap m : Nat} (h : Src w b a len cap m) (hm : m ≤ 100000) :
    Calls Try.prog 80 #[.pointer (some ⟨b, 0, none⟩)] w fun e w' => ∃ t : ByteArray, e = .returned (.string t) ∧ t.size ≤ 8 ∧ Src w' b a len cap (m + 1) ∧ But b w w' := by
  have hl := h.lt
  go_enter Try.func80, Try.ntmps80
  go_wp2_with fail
  refine (pick_any (h.below ((Below.refl _ _).alloc (Nat.le_refl _) _)) hm w.heap.size 10 (by omega) (by omega) (by omega) (by simp) ?_).mono ?_
  · exact fun i hi => str_at (by intro x hx; simp at hx; rcases hx with rfl | rfl | rfl | rfl | rfl | rfl | rfl | rfl | rfl | rfl <;> exact ⟨_, rfl, by decide⟩) (by simpa using hi)
  rintro e w1 ⟨t, rfl, ht, hs, hb⟩
  have hB := (But.of_below (b := b) ((Below.refl w.heap.size w).alloc (Nat.le_refl _) _)).trans hb
  go_wp2
  go_ret
  exact ⟨t, rfl, ht, hs, hB⟩

theorem okV_null : okV 0 0 ⟨#[]⟩ = true := by simp [okV, ByteArray.toList_eq]
theorem okV_bool (r : Int) (h0 : 0 ≤ r) (h1 : r < 2) : okV 1 r ⟨#[]⟩ = true := by
  have h : inB r 0 1 = true := decide_eq_true ⟨h0, by omega⟩
  simp [okV, ByteArray.toList_eq, h]
theorem okV_int (r : Int) : okV 2 r ⟨#[]⟩ = true := by simp [okV, ByteArray.toList_eq]
theorem okV_text (t : ByteArray) (h : t.size ≤ 8) : okV 3 0 t = true := by simp [okV]; omega
theorem okV_bytes (t : ByteArray) (h : t.size ≤ 8) : okV 4 0 t = true := by simp [okV]; omega

/-- A store into the result's block, which lies behind w. -/
theorem But.res {b : Nat} {w w1 : World} (h : But b w w1) (o : Nat) (v : Value) : But b w (w1.setCell ⟨w.heap.size, o, none⟩ v) :=
  ⟨h.os, h.tape, h.output, by simpa [World.setCell] using h.size, fun k hk hkb => (Below.heap_setCell _ _ _ _ (by simp; omega)).trans (h.block k hk hkb)⟩
theorem Src.res {w w1 : World} {b : Nat} {a : Option Addr} {len cap m : Nat} (h : Src w1 b a len cap m) (hb : b < w.heap.size) (o : Nat) (v : Value) (hcode : 0 < len → ∀ x, a = some x → x.block < w.heap.size) : Src (w1.setCell ⟨w.heap.size, o, none⟩ v) b a len cap m := by
  obtain ⟨k, seed, hk, h1, h2, h3, h4⟩ := h.ks
  have hc : ∀ p : Addr, p.block ≠ w.heap.size → (w1.setCell ⟨w.heap.size, o, none⟩ v).cell? p = w1.cell? p := fun p hp => World.cell?_of_block (Below.heap_setCell _ _ _ _ hp)
  have hf : ∀ p : Addr, p.block ≠ w.heap.size → (w1.setCell ⟨w.heap.size, o, none⟩ v).frozen? p = w1.frozen? p := fun p hp => World.frozen?_of_block (Below.heap_setCell _ _ _ _ hp)
  refine ⟨(hc ⟨b, 0, none⟩ (by simp; omega)).trans h.c0, ⟨k, seed, hk, (hc ⟨b, 1, none⟩ (by simp; omega)).trans h1, (hc ⟨b, 2, none⟩ (by simp; omega)).trans h2, h3, h4⟩, (hf ⟨b, 1, none⟩ (by simp; omega)).trans h.f1, (hf ⟨b, 2, none⟩ (by simp; omega)).trans h.f2, h.lenle, fun i hi => ?_⟩
  obtain ⟨cb, off, c, e, hne, hlt, h0, h5, hcc⟩ := h.code i hi
  have := hcode (by omega) _ e
  exact ⟨cb, off, c, e, hne, by simpa [World.setCell] using hlt, h0, h5, (hc ⟨cb, off + i, none⟩ (by simp at this ⊢; omega)).trans hcc⟩

/-- The three cells of the result's block, behind what a draw leaves. -/
theorem res_cells {b : Nat} {w w1 : World} {c0 c1 c2 : Value} {ty : TypeId} (hb : But b (w.alloc (.cells #[c0, c1, c2] ty)) w1) (hl : b < w.heap.size) :
    w1.cell? ⟨w.heap.size, 0, none⟩ = some c0 ∧ w1.cell? ⟨w.heap.size, 1, none⟩ = some c1 ∧ w1.cell? ⟨w.heap.size, 2, none⟩ = some c2 ∧ (∀ o, w1.frozen? ⟨w.heap.size, o, none⟩ = false) ∧ w.heap.size < w1.heap.size ∧ But b w w1 := by
  have hc : ∀ o, w1.cell? ⟨w.heap.size, o, none⟩ = #[c0, c1, c2][o]? := fun o =>
    (hb.cell (p := ⟨w.heap.size, o, none⟩) (by simp) (by simp; omega)).trans (World.cell?_alloc_at _ _ _ _ rfl)
  refine ⟨hc 0, hc 1, hc 2, fun o => ?_, by have := hb.size; simp at this; omega, (But.of_below (b := b) ((Below.refl w.heap.size w).alloc (Nat.le_refl _) _)).trans hb⟩
  rw [hb.frozen (p := ⟨w.heap.size, o, none⟩) (by simp) (by simp; omega)]; go_simp

set_option maxHeartbeats 1000000 in
theorem value_any {w : World} {b : Nat} {a : Option Addr} {len cap m : Nat} (h : Src w b a len cap m) (hm : m ≤ 90000) (hcode : 0 < len → ∀ x, a = some x → x.block < w.heap.size) :
    Calls Try.prog 49 #[.pointer (some ⟨b, 0, none⟩)] w fun e w' => ∃ (k n : Int) (t : ByteArray), e = .returned (VV k n t) ∧ okV k n t = true ∧ t.size ≤ 8 ∧ Src w' b a len cap (m + 5) ∧ But b w w' := by
  have hl := h.lt
  have HC : Hid (0 < len → ∀ x, a = some x → x.block < w.heap.size) := hcode
  clear hcode
  go_enter Try.func49, Try.ntmps49
  go_wp2_with fail
  refine (next_any 6 (h.below ((Below.refl _ _).alloc (Nat.le_refl _) _)) (by omega) (by omega) (by omega)).mono ?_
  rintro e w1 ⟨r, rfl, r0, r1, hs, hb⟩
  clear h
  obtain ⟨k0, k1, k2, hf, hz, hB⟩ := res_cells hb hl
  rcases (show r = 0 ∨ r = 1 ∨ (r = 2 ∨ r = 3) ∨ r = 4 ∨ r = 5 by omega) with rfl | rfl | hr | rfl | rfl
  · go_wp2
    refine bodyPost_ret (v := VV 0 0 ⟨#[]⟩) (by simp [results, Try.results49, go_sem, k0, k1, k2]) rfl ⟨0, 0, ⟨#[]⟩, rfl, okV_null, by decide, ?_, ?_⟩
    · repeat (first | exact hs.mono (by omega) | refine Src.res ?_ hl _ _ HC.out)
    · repeat (first | exact hB | refine But.res ?_ _ _)
  · go_wp2_with fail
    refine (next_any 2 hs (by omega) (by omega) (by omega)).mono ?_
    rintro e w2 ⟨q, rfl, q0, q1, hs2, hb2⟩
    clear k0 k1 k2 hf hz hB hs
    obtain ⟨k0, k1, k2, hf, hz, hB⟩ := res_cells (hb.trans hb2) hl
    clear hb hb2
    go_wp2
    refine bodyPost_ret (v := VV 1 q ⟨#[]⟩) (by simp [results, Try.results49, go_sem, k0, k1, k2]) rfl ⟨1, q, ⟨#[]⟩, rfl, okV_bool q q0 q1, by decide, ?_, ?_⟩
    · repeat (first | exact hs2.mono (by omega) | refine Src.res ?_ hl _ _ HC.out)
    · repeat (first | exact hB | refine But.res ?_ _ _)
  · have hr0 : (r == 0) = false := beq_eq_false_iff_ne.2 (by omega)
    have hr1 : (r == 1) = false := beq_eq_false_iff_ne.2 (by omega)
    rcases hr with rfl | rfl
    all_goals
      go_wp2_with fail
      refine (next_any 10 hs (by omega) (by omega) (by omega)).mono ?_
      rintro e w2 ⟨q2, rfl, q20, q21, hs2, hb2⟩
      go_wp2_with fail
      refine (next_any 10 hs2 (by omega) (by omega) (by omega)).mono ?_
      rintro e w3 ⟨q3, rfl, q30, q31, hs3, hb3⟩
      go_wp2_with fail
      refine (odd_any hs3 (by omega)).mono ?_
      rintro e w4 ⟨q4, rfl, hs4, hb4⟩
      go_wp2_with fail
      refine (next_any 3 (hs4.below ((Below.refl _ _).alloc (Nat.le_refl _) _)) (by omega) (by omega) (by omega)).mono ?_
      rintro e w5 ⟨q5, rfl, q50, q51, hs5, hb5⟩
      obtain ⟨j, rfl⟩ := Int.eq_ofNat_of_zero_le q50
      obtain ⟨v, hv⟩ := int_at (i := j) hb5 hs4.lt (by intro x hx; simp at hx; rcases hx with rfl | rfl | rfl <;> exact ⟨_, rfl⟩) (by simp; omega)
      have hbb := (((hb.trans hb2).trans hb3).trans hb4).trans ((But.of_below (b := b) ((Below.refl w4.heap.size w4).alloc (Nat.le_refl _) _)).trans hb5)
      clear k0 k1 k2 hf hz hB hs hs2 hs3 hs4 hb2 hb3 hb4 hb5
      obtain ⟨k0, k1, k2, hf, hz, hB⟩ := res_cells hbb hl
      clear hb hbb
      go_wp2
      refine bodyPost_ret (v := VV 2 v ⟨#[]⟩) (by simp [results, Try.results49, go_sem, k0, k1, k2]) rfl ⟨2, v, ⟨#[]⟩, rfl, okV_int v, by decide, ?_, ?_⟩
      · repeat (first | exact hs5.mono (by omega) | refine Src.res ?_ hl _ _ HC.out)
      · repeat (first | exact hB | refine But.res ?_ _ _)
  · go_wp2_with fail
    refine (word_any hs (by omega)).mono ?_
    rintro e w2 ⟨t, rfl, ht, hs2, hb2⟩
    clear k0 k1 k2 hf hz hB hs
    obtain ⟨k0, k1, k2, hf, hz, hB⟩ := res_cells (hb.trans hb2) hl
    clear hb hb2
    go_wp2
    refine bodyPost_ret (v := VV 3 0 t) (by simp [results, Try.results49, go_sem, k0, k1, k2]) rfl ⟨3, 0, t, rfl, okV_text t ht, ht, ?_, ?_⟩
    · repeat (first | exact hs2.mono (by omega) | refine Src.res ?_ hl _ _ HC.out)
    · repeat (first | exact hB | refine But.res ?_ _ _)
  · go_wp2_with fail
    refine (word_any hs (by omega)).mono ?_
    rintro e w2 ⟨t, rfl, ht, hs2, hb2⟩
    clear k0 k1 k2 hf hz hB hs
    obtain ⟨k0, k1, k2, hf, hz, hB⟩ := res_cells (hb.trans hb2) hl
    clear hb hb2
    go_wp2
    refine bodyPost_ret (v := VV 4 0 t) (by simp [results, Try.results49, go_sem, k0, k1, k2]) rfl ⟨4, 0, t, rfl, okV_bytes t ht, ht, ?_, ?_⟩
    · repeat (first | exact hs2.mono (by omega) | refine Src.res ?_ hl _ _ HC.out)
    · repeat (first | exact hB | refine But.res ?_ _ _)

/-- The bytes of a slice can be read. -/
def Code (w : World) (a : Option Addr) (len : Nat) : Prop :=
  ∀ i, i < len → ∃ cb off c, a = some ⟨cb, off, none⟩ ∧ cb < w.heap.size ∧ (0 : Int) ≤ c ∧ c ≤ 255 ∧ w.cell? ⟨cb, off + i, none⟩ = some (.int .u8 c)
theorem Code.below {w w' : World} {a : Option Addr} {len B : Nat} (h : Code w a len) (hb : Below B w w') (hB : ∀ x, a = some x → 0 < len → x.block < B) : Code w' a len := fun i hi => by
  obtain ⟨cb, off, c, e, hlt, h0, h5, hc⟩ := h i hi
  have := hB _ e (by omega)
  exact ⟨cb, off, c, e, Nat.lt_of_lt_of_le hlt hb.size, h0, h5, (hb.cell (p := ⟨cb, off + i, none⟩) this).trans hc⟩
theorem Code.lt {w : World} {a : Option Addr} {len : Nat} (h : Code w a len) : 0 < len → ∀ x, a = some x → x.block < w.heap.size := fun hl x hx => by
  obtain ⟨cb, off, c, e, hlt, _⟩ := h 0 hl
  rw [hx] at e
  cases e
  exact hlt

theorem source_any {w : World} {a : Option Addr} {len cap : Nat} (h : Code w a len) (hlen : len ≤ 4194304) :
    Calls Try.prog 48 #[.slice a len cap] w fun e w' => e = .returned (.pointer (some ⟨w.heap.size, 0, none⟩)) ∧ Src w' w.heap.size a len cap 0 ∧ Below w.heap.size w w' := by
  have HC : Hid (Code w a len) := h
  clear h
  go_enter Try.func48, Try.ntmps48
  go_wp2
  go_ret
  have hB : Below w.heap.size w (w.alloc (.cells #[.slice a len cap, .int .i64 0, .int .i64 ((len : Int) % 1000)] 92)) := (Below.refl _ _).alloc (Nat.le_refl _) _
  refine ⟨rfl, ⟨by go_simp, ⟨0, (len : Int) % 1000, by omega, by go_simp, by go_simp, by omega, by omega⟩, by go_simp, by go_simp, hlen, fun i hi => ?_⟩, hB⟩
  obtain ⟨cb, off, c, e, hlt, h0, h5, hc⟩ := HC.out i hi
  exact ⟨cb, off, c, e, by omega, by simp; omega, h0, h5, (hB.cell (p := ⟨cb, off + i, none⟩) hlt).trans hc⟩

theorem valueOf_any {w : World} {a : Option Addr} {len cap : Nat} (h : Code w a len) (hlen : len ≤ 4194304) :
    Calls Try.prog 14 #[.slice a len cap] w fun e w' => ∃ (k n : Int) (t : ByteArray), e = .returned (VV k n t) ∧ okV k n t = true ∧ t.size ≤ 8 ∧ Below w.heap.size w w' := by
  have hw : ∀ o, Code (w.alloc o) a len := fun o => h.below ((Below.refl _ _).alloc (Nat.le_refl _) o) (fun x e hl => h.lt hl x e)
  have HC : Hid (∀ o, Code (w.alloc o) a len) := hw
  have HL : Hid (0 < len → ∀ x, a = some x → x.block < w.heap.size) := h.lt
  clear hw h
  go_enter Try.func14, Try.ntmps14
  go_wp2_with fail
  refine (source_any (HC.out _) hlen).mono ?_
  rintro e w1 ⟨rfl, hs, hb⟩
  go_wp2_with fail
  have hs' : Src w1 (w.heap.size + 1) a len cap 0 := by simpa using hs
  clear hs
  have hz : w.heap.size + 1 < w1.heap.size := hs'.lt
  refine (value_any hs' (Nat.zero_le _) (fun hl x e => Nat.lt_of_lt_of_le (HL.out hl x e) (by omega))).mono ?_
  rintro e w2 ⟨k, n, t, rfl, hok, ht, hs2, hb2⟩
  clear hs' hs2
  have hB : Below (w.heap.size + 1) (w.alloc (.cells #[.int .i64 0, .int .i64 0, .string ⟨#[]⟩] 24)) w2 := hb2.below (hb.mono (by simp)) (Nat.le_refl _) (by omega)
  have hc : ∀ o, w2.cell? ⟨w.heap.size, o, none⟩ = #[Value.int .i64 0, .int .i64 0, .string ⟨#[]⟩][o]? := fun o => (hB.cell (p := ⟨w.heap.size, o, none⟩) (by simp)).trans (World.cell?_alloc_at _ _ _ _ rfl)
  have k0 := hc 0
  have k1 := hc 1
  have k2 := hc 2
  have hf : ∀ o, w2.frozen? ⟨w.heap.size, o, none⟩ = false := fun o => (hB.frozen (p := ⟨w.heap.size, o, none⟩) (by simp)).trans (by go_simp)
  have hBw : Below w.heap.size w w2 := ((Below.refl _ _).alloc (Nat.le_refl _) _).trans (hB.mono (by omega))
  have HO : Hid (okV k n t = true) := hok
  clear hok hc hb hb2 hB
  go_wp2
  refine bodyPost_ret (v := VV k n t) (by simp [results, Try.results14, go_sem, k0, k1, k2]) rfl ⟨k, n, t, rfl, HO.out, ht, ?_⟩
  exact ((hBw.setCell (p := ⟨w.heap.size, 0, none⟩) (Nat.le_refl _) _).setCell (p := ⟨w.heap.size, 1, none⟩) (Nat.le_refl _) _).setCell (p := ⟨w.heap.size, 2, none⟩) (Nat.le_refl _) _
end Go.Proofs.Ytfkenogbfbbbjaa
