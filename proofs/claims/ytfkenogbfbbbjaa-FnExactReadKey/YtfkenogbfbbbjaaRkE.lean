/- The specification's reader: a cell of a key. -/
import Derived.Test.YtfkenogbfbbbjaaRkD
namespace Go.Proofs.Ytfkenogbfbbbjaa
open Go.RowKit

/-- A cell of a key as the specification reads it at byte o: its value, and the reader behind it. -/
def kCell (f : Nat → Int) (n o : Nat) : V3 × Nat × Bool :=
  if f o = 1 then ((1, (oneR f n (o + 1, false)).1, ⟨#[]⟩), (oneR f n (o + 1, false)).2)
  else if f o = 2 then ((2, int8 (takeF f n 8 (o + 1, false)), ⟨#[]⟩), takeS n 8 (o + 1, false))
  else if f o = 3 ∨ f o = 4 then ((f o, 0, ⟨(ktGo f n (o + 1) []).1.toArray⟩), (ktGo f n (o + 1) []).2)
  else ((f o, 0, ⟨#[]⟩), o + 1, false)
/-- Block b has three cells of a value. -/
abbrev BlkV (w : World) (b : Nat) (k v : Int) (t : ByteArray) : Prop := w.heap[b]? = some (.cells #[.int .i64 k, .int .i64 v, .string t] 24 (0, 0))
theorem BlkV.lt {w : World} {b : Nat} {k v : Int} {t : ByteArray} (h : BlkV w b k v t) : b < w.heap.size := by
  have h2 : w.heap[b]? = some (.cells #[.int .i64 k, .int .i64 v, .string t] 24 (0, 0)) := h
  rcases Nat.lt_or_ge b w.heap.size with h' | h'
  · exact h'
  · rw [Array.getElem?_eq_none h'] at h2; cases h2
theorem BlkV.but {w w' : World} {b rb : Nat} {k v : Int} {t : ByteArray} (h : BlkV w b k v t) (hB : But rb w w') (hne : b ≠ rb) : BlkV w' b k v t :=
  (hB.block b h.lt hne).trans h
theorem blk_new (w : World) (k v : Int) (t : ByteArray) : BlkV (w.alloc (.cells #[.int .i64 k, .int .i64 v, .string t] 24)) w.heap.size k v t := by
  show (w.heap.push _)[w.heap.size]? = _
  simp
theorem blk_old {w : World} {b : Nat} {k v : Int} {t : ByteArray} (h : BlkV w b k v t) (o : Obj) : BlkV (w.alloc o) b k v t := by
  have hb := h.lt
  show (w.heap.push _)[b]? = _
  rw [Array.getElem?_push, if_neg (by omega)]
  exact h

set_option maxRecDepth 100000 in
set_option maxHeartbeats 4000000 in
theorem keyValue_any (rb b off n c o : Nat) (f : Nat → Int) (w : World) (h : Rdr w rb (some ⟨b, off, none⟩) n c (o, false)) (hr : ReadB w (some ⟨b, off, none⟩) n f) (hf : Bys f n) (hne : b ≠ rb) (hn : n ≤ 65536) (hc : n ≤ c) (ho : o < n) :
    Calls Try.prog 70 #[.pointer (some ⟨rb, 0, none⟩)] w fun e w' => e = .returned (VV (kCell f n o).1.1 (kCell f n o).1.2.1 (kCell f n o).1.2.2) ∧ Rdr w' rb (some ⟨b, off, none⟩) n c (kCell f n o).2 ∧ But rb w w' := by
  have HR0 : Hid (Rdr w rb (some ⟨b, off, none⟩) n c (o, false)) := h
  have HB0 : Hid (ReadB w (some ⟨b, off, none⟩) n f) := hr
  have HF : Hid (Bys f n) := hf
  have hrb : rb < w.heap.size := h.lt
  obtain ⟨v0, v1⟩ := hf o ho
  clear h hr hf
  have HNE : Hid (∀ p : Addr, some (⟨b, off, none⟩ : Addr) = some p → p.block ≠ rb) := fun p e => by cases e; exact hne
  have K0 : But rb w (w.alloc (.cells #[.int .i64 0, .int .i64 0, .string ⟨#[]⟩] 24)) := but_alloc (But.refl _ _) _
  have R0 : Hid (Rdr (w.alloc (.cells #[.int .i64 0, .int .i64 0, .string ⟨#[]⟩] 24)) rb (some ⟨b, off, none⟩) n c (o, false)) := HR0.out.below ((Below.refl _ _).alloc (Nat.le_refl _) _)
  have Q0 := blk_new w 0 0 ⟨#[]⟩
  have HQ0 : Hid (BlkV (w.alloc (.cells #[.int .i64 0, .int .i64 0, .string ⟨#[]⟩] 24)) w.heap.size 0 0 ⟨#[]⟩) := Q0
  have hwr : w.heap.size ≠ rb := by omega
  clear Q0
  go_enter Try.func70, Try.ntmps70
  go_wp2_with fail
  refine (one_any rb _ n c f (o, false) _ R0.out (readB_but HB0.out K0 hne) HF.out HNE.out hn (by simp only; omega)).mono ?_
  rw [oneR_go f ho]
  rintro e w2 ⟨rfl, hR2, hK2⟩
  have KK2 := K0.trans hK2
  have HR2 : Hid (Rdr w2 rb (some ⟨b, off, none⟩) n c (o + 1, false)) := hR2
  have HQ2 : Hid (BlkV w2 w.heap.size 0 0 ⟨#[]⟩) := HQ0.out.but hK2 hwr
  have s2 : w.heap.size < w2.heap.size := by have := hK2.size; simp at this; omega
  obtain ⟨k, hk⟩ : ∃ k, f o = k := ⟨_, rfl⟩
  have HKo : Hid (f o = k) := hk
  rw [hk] at v0 v1 ⊢
  clear hk hR2 hK2 K0 R0 HQ0
  have K3 : Hid (But rb w (w2.alloc (.cells #[.int .i64 k, .int .i64 0, .string ⟨#[]⟩] 24))) := but_alloc KK2 _
  have R3 : Hid (Rdr (w2.alloc (.cells #[.int .i64 k, .int .i64 0, .string ⟨#[]⟩] 24)) rb (some ⟨b, off, none⟩) n c (o + 1, false)) := HR2.out.below ((Below.refl _ _).alloc (Nat.le_refl _) _)
  have Q3 : Hid (BlkV (w2.alloc (.cells #[.int .i64 k, .int .i64 0, .string ⟨#[]⟩] 24)) w.heap.size 0 0 ⟨#[]⟩) := blk_old HQ2.out _
  have P3 : Hid (BlkV (w2.alloc (.cells #[.int .i64 k, .int .i64 0, .string ⟨#[]⟩] 24)) w2.heap.size k 0 ⟨#[]⟩) := blk_new _ _ _ _
  have hxr : w2.heap.size ≠ rb := by omega
  clear KK2 HR2 HQ2
  by_cases q1 : k = 1
  · subst q1
    have E : Hid (kCell f n o = ((1, (oneR f n (o + 1, false)).1, ⟨#[]⟩), (oneR f n (o + 1, false)).2)) := by show _ = _; unfold kCell; rw [if_pos HKo.out]
    go_wp2_with fail
    refine (one_any rb _ n c f (o + 1, false) _ R3.out (readB_but HB0.out K3.out hne) HF.out HNE.out hn (by simp only; omega)).mono ?_
    generalize oneR f n (o + 1, false) = p at *
    obtain ⟨y, s⟩ := p
    rintro e w4 ⟨rfl, hR4, hK4⟩
    have HR4 : Hid (Rdr w4 rb (some ⟨b, off, none⟩) n c s) := hR4
    have HK4 : Hid (But rb w w4) := K3.out.trans hK4
    have Q4 := Q3.out.but hK4 hwr
    have P4 := P3.out.but hK4 hxr
    have y0 : w4.cell? ⟨w2.heap.size, 0, none⟩ = some (.int .i64 1) := by simp [World.cell?, P4]
    have y1 : w4.cell? ⟨w2.heap.size, 1, none⟩ = some (.int .i64 0) := by simp [World.cell?, P4]
    have y2 : w4.cell? ⟨w2.heap.size, 2, none⟩ = some (.string ⟨#[]⟩) := by simp [World.cell?, P4]
    have yf : ∀ o, w4.frozen? ⟨w2.heap.size, o, none⟩ = false := fun o => by simp [World.frozen?, P4]
    have x0 : w4.cell? ⟨w.heap.size, 0, none⟩ = some (.int .i64 0) := by simp [World.cell?, Q4]
    have x1 : w4.cell? ⟨w.heap.size, 1, none⟩ = some (.int .i64 0) := by simp [World.cell?, Q4]
    have x2 : w4.cell? ⟨w.heap.size, 2, none⟩ = some (.string ⟨#[]⟩) := by simp [World.cell?, Q4]
    have xf : ∀ o, w4.frozen? ⟨w.heap.size, o, none⟩ = false := fun o => by simp [World.frozen?, Q4]
    have nn : w2.heap.size ≠ w.heap.size := by omega
    clear hR4 hK4 Q4 P4 K3 R3 Q3 P3
    go_wp2
    exact bodyPost_ret (v := VV 1 y ⟨#[]⟩) (by go_simp; simp [results, Try.f70, go_sem, x0, x1, x2]) rfl (by rw [E.out]; exact ⟨rfl, ((((HR4.out.other hxr.symm).other hwr.symm).other hwr.symm).other hwr.symm), (but_set (but_set (but_set (but_set HK4.out (Nat.le_of_lt s2)) (Nat.le_refl _)) (Nat.le_refl _)) (Nat.le_refl _))⟩)
  by_cases q2 : k = 2
  · subst q2
    have E : Hid (kCell f n o = ((2, int8 (takeF f n 8 (o + 1, false)), ⟨#[]⟩), takeS n 8 (o + 1, false))) := by show _ = _; unfold kCell; rw [if_neg (by rw [HKo.out]; omega), if_pos HKo.out]
    go_wp2_with fail
    refine (take_any rb b off n c 8 f (o + 1, false) _ R3.out (readB_but HB0.out K3.out hne) hne hn hc (by omega) (by simp only; omega)).mono ?_
    rintro e w4 ⟨a8, c8, rfl, hRB, hR4, hK4⟩
    rw [takeN_8] at hRB ⊢
    have HRB : Hid (ReadB w4 a8 8 (takeF f n 8 (o + 1, false))) := hRB
    have HBy : Hid (Bys (takeF f n 8 (o + 1, false)) 8) := by have := takeF_bys (k := 8) (s := (o + 1, false)) HF.out; rw [takeN_8] at this; exact this
    clear hRB
    go_wp2_with fail
    refine (l01Of_any a8 c8 _ w4 HRB.out HBy.out).mono ?_
    rintro e w4' ⟨rfl, hq⟩
    obtain rfl := hq.symm
    clear HRB HBy
    generalize int8 (takeF f n 8 (o + 1, false)) = y at *
    generalize takeS n 8 (o + 1, false) = s at *
    have HR4 : Hid (Rdr w4 rb (some ⟨b, off, none⟩) n c s) := hR4
    have HK4 : Hid (But rb w w4) := K3.out.trans hK4
    have Q4 := Q3.out.but hK4 hwr
    have P4 := P3.out.but hK4 hxr
    have y0 : w4.cell? ⟨w2.heap.size, 0, none⟩ = some (.int .i64 2) := by simp [World.cell?, P4]
    have y1 : w4.cell? ⟨w2.heap.size, 1, none⟩ = some (.int .i64 0) := by simp [World.cell?, P4]
    have y2 : w4.cell? ⟨w2.heap.size, 2, none⟩ = some (.string ⟨#[]⟩) := by simp [World.cell?, P4]
    have yf : ∀ o, w4.frozen? ⟨w2.heap.size, o, none⟩ = false := fun o => by simp [World.frozen?, P4]
    have x0 : w4.cell? ⟨w.heap.size, 0, none⟩ = some (.int .i64 0) := by simp [World.cell?, Q4]
    have x1 : w4.cell? ⟨w.heap.size, 1, none⟩ = some (.int .i64 0) := by simp [World.cell?, Q4]
    have x2 : w4.cell? ⟨w.heap.size, 2, none⟩ = some (.string ⟨#[]⟩) := by simp [World.cell?, Q4]
    have xf : ∀ o, w4.frozen? ⟨w.heap.size, o, none⟩ = false := fun o => by simp [World.frozen?, Q4]
    have nn : w2.heap.size ≠ w.heap.size := by omega
    clear hR4 hK4 Q4 P4 K3 R3 Q3 P3
    go_wp2
    exact bodyPost_ret (v := VV 2 y ⟨#[]⟩) (by go_simp; simp [results, Try.f70, go_sem, x0, x1, x2]) rfl (by rw [E.out]; exact ⟨rfl, ((((HR4.out.other hxr.symm).other hwr.symm).other hwr.symm).other hwr.symm), (but_set (but_set (but_set (but_set HK4.out (Nat.le_of_lt s2)) (Nat.le_refl _)) (Nat.le_refl _)) (Nat.le_refl _))⟩)
  by_cases q3 : k = 3
  · subst q3
    have E : Hid (kCell f n o = ((3, 0, ⟨(ktGo f n (o + 1) []).1.toArray⟩), (ktGo f n (o + 1) []).2)) := by show _ = _; unfold kCell; rw [if_neg (by rw [HKo.out]; omega), if_neg (by rw [HKo.out]; omega), if_pos (by rw [HKo.out]; omega), HKo.out]
    go_wp2_with fail
    refine (keyText_any rb b off n c (o + 1) f _ R3.out (readB_but HB0.out K3.out hne) HF.out hne hn (by omega)).mono ?_
    generalize ktGo f n (o + 1) [] = p at *
    obtain ⟨tl, s⟩ := p
    rintro e w4 ⟨rfl, hR4, hK4⟩
    have HR4 : Hid (Rdr w4 rb (some ⟨b, off, none⟩) n c s) := hR4
    have HK4 : Hid (But rb w w4) := K3.out.trans hK4
    have Q4 := Q3.out.but hK4 hwr
    have P4 := P3.out.but hK4 hxr
    simp only at E
    generalize (⟨tl.toArray⟩ : ByteArray) = t at *
    have y0 : w4.cell? ⟨w2.heap.size, 0, none⟩ = some (.int .i64 3) := by simp [World.cell?, P4]
    have y1 : w4.cell? ⟨w2.heap.size, 1, none⟩ = some (.int .i64 0) := by simp [World.cell?, P4]
    have y2 : w4.cell? ⟨w2.heap.size, 2, none⟩ = some (.string ⟨#[]⟩) := by simp [World.cell?, P4]
    have yf : ∀ o, w4.frozen? ⟨w2.heap.size, o, none⟩ = false := fun o => by simp [World.frozen?, P4]
    have x0 : w4.cell? ⟨w.heap.size, 0, none⟩ = some (.int .i64 0) := by simp [World.cell?, Q4]
    have x1 : w4.cell? ⟨w.heap.size, 1, none⟩ = some (.int .i64 0) := by simp [World.cell?, Q4]
    have x2 : w4.cell? ⟨w.heap.size, 2, none⟩ = some (.string ⟨#[]⟩) := by simp [World.cell?, Q4]
    have xf : ∀ o, w4.frozen? ⟨w.heap.size, o, none⟩ = false := fun o => by simp [World.frozen?, Q4]
    have nn : w2.heap.size ≠ w.heap.size := by omega
    clear hR4 hK4 Q4 P4 K3 R3 Q3 P3
    go_wp2
    exact bodyPost_ret (v := VV 3 0 t) (by go_simp; simp [results, Try.f70, go_sem, x0, x1, x2]) rfl (by rw [E.out]; exact ⟨rfl, ((((HR4.out.other hxr.symm).other hwr.symm).other hwr.symm).other hwr.symm), (but_set (but_set (but_set (but_set HK4.out (Nat.le_of_lt s2)) (Nat.le_refl _)) (Nat.le_refl _)) (Nat.le_refl _))⟩)
  by_cases q4 : k = 4
  · subst q4
    have E : Hid (kCell f n o = ((4, 0, ⟨(ktGo f n (o + 1) []).1.toArray⟩), (ktGo f n (o + 1) []).2)) := by show _ = _; unfold kCell; rw [if_neg (by rw [HKo.out]; omega), if_neg (by rw [HKo.out]; omega), if_pos (by rw [HKo.out]; omega), HKo.out]
    go_wp2_with fail
    refine (keyText_any rb b off n c (o + 1) f _ R3.out (readB_but HB0.out K3.out hne) HF.out hne hn (by omega)).mono ?_
    generalize ktGo f n (o + 1) [] = p at *
    obtain ⟨tl, s⟩ := p
    rintro e w4 ⟨rfl, hR4, hK4⟩
    have HR4 : Hid (Rdr w4 rb (some ⟨b, off, none⟩) n c s) := hR4
    have HK4 : Hid (But rb w w4) := K3.out.trans hK4
    have Q4 := Q3.out.but hK4 hwr
    have P4 := P3.out.but hK4 hxr
    simp only at E
    generalize (⟨tl.toArray⟩ : ByteArray) = t at *
    have y0 : w4.cell? ⟨w2.heap.size, 0, none⟩ = some (.int .i64 4) := by simp [World.cell?, P4]
    have y1 : w4.cell? ⟨w2.heap.size, 1, none⟩ = some (.int .i64 0) := by simp [World.cell?, P4]
    have y2 : w4.cell? ⟨w2.heap.size, 2, none⟩ = some (.string ⟨#[]⟩) := by simp [World.cell?, P4]
    have yf : ∀ o, w4.frozen? ⟨w2.heap.size, o, none⟩ = false := fun o => by simp [World.frozen?, P4]
    have x0 : w4.cell? ⟨w.heap.size, 0, none⟩ = some (.int .i64 0) := by simp [World.cell?, Q4]
    have x1 : w4.cell? ⟨w.heap.size, 1, none⟩ = some (.int .i64 0) := by simp [World.cell?, Q4]
    have x2 : w4.cell? ⟨w.heap.size, 2, none⟩ = some (.string ⟨#[]⟩) := by simp [World.cell?, Q4]
    have xf : ∀ o, w4.frozen? ⟨w.heap.size, o, none⟩ = false := fun o => by simp [World.frozen?, Q4]
    have nn : w2.heap.size ≠ w.heap.size := by omega
    clear hR4 hK4 Q4 P4 K3 R3 Q3 P3
    go_wp2
    exact bodyPost_ret (v := VV 4 0 t) (by go_simp; simp [results, Try.f70, go_sem, x0, x1, x2]) rfl (by rw [E.out]; exact ⟨rfl, ((((HR4.out.other hxr.symm).other hwr.symm).other hwr.symm).other hwr.symm), (but_set (but_set (but_set (but_set HK4.out (Nat.le_of_lt s2)) (Nat.le_refl _)) (Nat.le_refl _)) (Nat.le_refl _))⟩)
  have E : Hid (kCell f n o = ((k, 0, ⟨#[]⟩), o + 1, false)) := by show _ = _; unfold kCell; rw [if_neg (by rw [HKo.out]; exact q1), if_neg (by rw [HKo.out]; exact q2), if_neg (by rw [HKo.out]; omega), HKo.out]
  have Q4 := Q3.out
  have P4 := P3.out
  obtain ⟨w4, hw4⟩ : ∃ w4, w2.alloc (.cells #[.int .i64 k, .int .i64 0, .string ⟨#[]⟩] 24) = w4 := ⟨_, rfl⟩
  have HR4 : Hid (Rdr w4 rb (some ⟨b, off, none⟩) n c (o + 1, false)) := hw4 ▸ R3.out
  have HK4 : Hid (But rb w w4) := hw4 ▸ K3.out
  rw [hw4] at Q4 P4
  have y0 : w4.cell? ⟨w2.heap.size, 0, none⟩ = some (.int .i64 k) := by simp [World.cell?, P4]
  have y1 : w4.cell? ⟨w2.heap.size, 1, none⟩ = some (.int .i64 0) := by simp [World.cell?, P4]
  have y2 : w4.cell? ⟨w2.heap.size, 2, none⟩ = some (.string ⟨#[]⟩) := by simp [World.cell?, P4]
  have yf : ∀ o, w4.frozen? ⟨w2.heap.size, o, none⟩ = false := fun o => by simp [World.frozen?, P4]
  have x0 : w4.cell? ⟨w.heap.size, 0, none⟩ = some (.int .i64 0) := by simp [World.cell?, Q4]
  have x1 : w4.cell? ⟨w.heap.size, 1, none⟩ = some (.int .i64 0) := by simp [World.cell?, Q4]
  have x2 : w4.cell? ⟨w.heap.size, 2, none⟩ = some (.string ⟨#[]⟩) := by simp [World.cell?, Q4]
  have xf : ∀ o, w4.frozen? ⟨w.heap.size, o, none⟩ = false := fun o => by simp [World.frozen?, Q4]
  have nn : w2.heap.size ≠ w.heap.size := by omega
  clear Q4 P4 K3 R3 Q3 P3
  go_wp2
  exact bodyPost_ret (v := VV k 0 ⟨#[]⟩) (by go_simp; simp [results, Try.f70, go_sem, x0, x1, x2]) rfl (by rw [E.out]; exact ⟨rfl, (((((HR4.out.other hxr.symm).other hxr.symm).other hwr.symm).other hwr.symm).other hwr.symm), (but_set (but_set (but_set (but_set (but_set HK4.out (Nat.le_of_lt s2)) (Nat.le_of_lt s2)) (Nat.le_refl _)) (Nat.le_refl _)) (Nat.le_refl _))⟩)
end Go.Proofs.Ytfkenogbfbbbjaa
