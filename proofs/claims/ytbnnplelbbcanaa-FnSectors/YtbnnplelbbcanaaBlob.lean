/- A drawn source of choices, and greater choices out of it (towards FnSectors). -/
import Derived.Test.YtbnnplelbbcanaaSrc
import Derived.Test.YtbnnplelbbcanaaPagB
namespace Go.Proofs.Ytbnnplelbbcanaa
open Go.RowKit

theorem source_any {w : World} {a : Option Addr} {cap : Nat} {l : List UInt8} (h : ReadL w a l) (hlen : l.length ≤ 4194304) :
    Calls Try.prog 25 #[.slice a l.length cap] w fun e w' => e = .returned (.pointer (some ⟨w.heap.size, 0, none⟩)) ∧ Src w' w.heap.size a l.length cap 0 ∧ w'.heap.size = w.heap.size + 1 ∧ Below w.heap.size w w' := by
  have HC : Hid (ReadL w a l) := h
  clear h
  obtain ⟨len, hl⟩ : ∃ n, l.length = n := ⟨_, rfl⟩
  have HL : Hid (l.length = len) := hl
  rw [hl] at hlen ⊢
  clear hl
  go_enter Try.func25, Try.ntmps25
  go_wp2
  go_ret
  have hB : Below w.heap.size w (w.alloc (.cells #[.slice a len cap, .int .i64 0, .int .i64 ((len : Int) % 1000)] 66)) := (Below.refl _ _).alloc (Nat.le_refl _) _
  refine ⟨rfl, ⟨by go_simp, ⟨0, (len : Int) % 1000, by omega, by go_simp, by go_simp, by omega, by omega⟩, by go_simp, by go_simp, hlen, fun i hi => ?_⟩, by simp, hB⟩
  obtain ⟨cb, off, e, hlt, hc⟩ := HC.out i (by rw [HL.out]; exact hi)
  exact ⟨cb, off, byU l i, e, by omega, by simp; omega, (byU_bd l i).1, (byU_bd l i).2, (hB.cell (p := ⟨cb, off + i, none⟩) hlt).trans hc⟩

theorem next_big {w : World} {b : Nat} {a : Option Addr} {len cap m : Nat} (n : Int) (h : Src w b a len cap m) (hm : m ≤ 90000) (h1 : 256 < n) (h2 : n ≤ 1000000) :
    Calls Try.prog 43 #[.pointer (some ⟨b, 0, none⟩), .int .i64 n] w fun e w' => ∃ r : Int, e = .returned (.int .i64 r) ∧ 0 ≤ r ∧ r < n ∧ Src w' b a len cap (m + 3) ∧ But b w w' := by
  go_enter Try.func43, Try.ntmps43
  go_wp2_with fail
  refine (byte_any h (by omega)).mono ?_
  rintro e w1 ⟨r1, rfl, r10, r11, hs1, hb1⟩
  go_wp2_with fail
  refine (byte_any hs1 (by omega)).mono ?_
  rintro e w2 ⟨r2, rfl, r20, r21, hs2, hb2⟩
  go_wp2_with fail
  refine (byte_any hs2 (by omega)).mono ?_
  rintro e w3 ⟨r3, rfl, r30, r31, hs3, hb3⟩
  have hbb := (hb1.trans hb2).trans hb3
  clear hb1 hb2 hb3 hs1 hs2 h
  go_wp2
  go_ret
  exact ⟨(r1 * 65536 + r2 * 256 + r3) % n, by go_num, Int.emod_nonneg _ (by omega), Int.emod_lt_of_pos _ (by omega), hs3, hbb⟩

theorem Src.belowB {w0 w w' : World} {b B : Nat} {a : Option Addr} {len cap m m0 : Nat} (h : Src w b a len cap m) (h0 : Src w0 b a len cap m0) (hb : Below B w w') (hB : b < B) (h0B : w0.heap.size ≤ B) : Src w' b a len cap m := by
  obtain ⟨k, seed, hk, h1, h2, h3, h4⟩ := h.ks
  refine ⟨(hb.cell (p := ⟨b, 0, none⟩) hB).trans h.c0, ⟨k, seed, hk, (hb.cell (p := ⟨b, 1, none⟩) hB).trans h1, (hb.cell (p := ⟨b, 2, none⟩) hB).trans h2, h3, h4⟩, (hb.frozen (p := ⟨b, 1, none⟩) hB).trans h.f1, (hb.frozen (p := ⟨b, 2, none⟩) hB).trans h.f2, h.lenle, fun i hi => ?_⟩
  obtain ⟨cb, off, c, e, hne, hlt, h5, h6, hc⟩ := h.code i hi
  obtain ⟨cb', off', c', e', _, hlt', _⟩ := h0.code i hi
  rw [e] at e'
  cases e'
  exact ⟨cb, off, c, e, hne, Nat.lt_of_lt_of_le hlt hb.size, h5, h6, (hb.cell (p := ⟨cb, off + i, none⟩) (Nat.lt_of_lt_of_le hlt' h0B)).trans hc⟩
theorem OwnL.but {w w' : World} {B b : Nat} {v : Value} {l : List UInt8} (h : OwnL w B v l) (hb : But b w w') (hB : b < B) : OwnL w' B v l := by
  obtain ⟨g, cap, cur, fz, rfl, hBg, hh, r⟩ := h
  exact ⟨g, cap, cur, fz, rfl, hBg, (hb.block g (slab_lt hh) (by omega)).trans hh, r⟩
theorem But.belowB {w w1 w2 : World} {b B : Nat} (h : But b w w1) (hb : Below B w1 w2) (hB : w.heap.size ≤ B) : But b w w2 :=
  ⟨hb.os.trans h.os, hb.tape.trans h.tape, hb.output.trans h.output, Nat.le_trans h.size hb.size, fun k hk hne => (hb.block k (Nat.lt_of_lt_of_le hk hB)).trans (h.block k hk hne)⟩

/-- How long a drawn blob is. -/
def sevenN (r1 r2 : Int) (k : Nat) : Int := [0, 1, 26, 27, 28, r1, r2].getD k 0
theorem seven_bd {r1 r2 : Int} (h1 : 0 ≤ r1) (h2 : r1 < 120) (h3 : 0 ≤ r2) (h4 : r2 < 400) (k : Nat) (hk : k < 7) : 0 ≤ sevenN r1 r2 k ∧ sevenN r1 r2 k ≤ 400 := by
  have : k = 0 ∨ k = 1 ∨ k = 2 ∨ k = 3 ∨ k = 4 ∨ k = 5 ∨ k = 6 := by omega
  rcases this with rfl | rfl | rfl | rfl | rfl | rfl | rfl <;> simp [sevenN] <;> omega

set_option maxRecDepth 100000 in
set_option maxHeartbeats 4000000 in
theorem blob_any {w : World} {b : Nat} {a : Option Addr} {len cap m : Nat} (h : Src w b a len cap m) (hm : m ≤ 80000) :
    Calls Try.prog 26 #[.pointer (some ⟨b, 0, none⟩)] w fun e w' => ∃ t : ByteArray, e = .returned (.string t) ∧ t.size ≤ 400 ∧ But b w w' := by
  have H0 : Hid (Src w b a len cap m) := h
  have hbl := h.lt
  go_enter Try.func26, Try.ntmps26
  go_wp2_with fail
  refine (next_any 120 h (by omega) (by omega) (by omega)).mono ?_
  rintro e w1 ⟨r1, rfl, r10, r11, hs1, hb1⟩
  clear h
  go_wp2_with fail
  refine (next_big 400 hs1 (by omega) (by omega) (by omega)).mono ?_
  rintro e w2 ⟨r2, rfl, r20, r21, hs2, hb2⟩
  have hb02 := hb1.trans hb2
  have z2 := hb02.size
  have hs3 : Src (w2.alloc (.cells #[.int .i64 0, .int .i64 1, .int .i64 26, .int .i64 27, .int .i64 28, .int .i64 r1, .int .i64 r2] 3)) b a len cap (m + 1 + 3) := hs2.below ((Below.refl _ _).alloc (Nat.le_refl _) _)
  have HS3 : Hid (Src (w2.alloc (.cells #[.int .i64 0, .int .i64 1, .int .i64 26, .int .i64 27, .int .i64 28, .int .i64 r1, .int .i64 r2] 3)) b a len cap (m + 1 + 3)) := hs3
  have HB3 : Hid (But b w (w2.alloc (.cells #[.int .i64 0, .int .i64 1, .int .i64 26, .int .i64 27, .int .i64 28, .int .i64 r1, .int .i64 r2] 3))) := hb02.belowB ((Below.refl w2.heap.size w2).alloc (Nat.le_refl _) _) z2
  have HC3 : Hid (∀ k, k < 7 → (w2.alloc (.cells #[.int .i64 0, .int .i64 1, .int .i64 26, .int .i64 27, .int .i64 28, .int .i64 r1, .int .i64 r2] 3)).cell? ⟨w2.heap.size, k, none⟩ = some (.int .i64 (sevenN r1 r2 k))) := fun k hk => by
    rw [slab_cell (heap_new' _ _ _ rfl)]
    have : k = 0 ∨ k = 1 ∨ k = 2 ∨ k = 3 ∨ k = 4 ∨ k = 5 ∨ k = 6 := by omega
    rcases this with rfl | rfl | rfl | rfl | rfl | rfl | rfl <;> rfl
  clear hs1 hs2 hs3 hb1 hb2 hb02
  go_wp2_with fail
  refine (next_any 7 HS3.out (by omega) (by omega) (by omega)).mono ?_
  rintro e w4 ⟨r3, rfl, r30, r31, hs4, hb4⟩
  obtain ⟨k3, rfl⟩ := Int.eq_ofNat_of_zero_le r30
  have hk3 : k3 < 7 := by omega
  have hc4 := (hb4.cell (p := ⟨w2.heap.size, k3, none⟩) (by simp) (by show w2.heap.size ≠ b; omega)).trans (HC3.out k3 hk3)
  obtain ⟨n0, n1⟩ := seven_bd r10 r11 r20 r21 k3 hk3
  obtain ⟨n, hn⟩ := Int.eq_ofNat_of_zero_le n0
  rw [hn] at hc4 n1
  have hb04 := HB3.out.trans hb4
  have z4 := hb04.size
  have o5 : OwnL (w4.alloc (.cells #[] 5)) w4.heap.size (.slice (some ⟨w4.heap.size, 0, none⟩) 0 0) [] := OwnL.made w4 _ [] #[] (Nat.le_refl _) rfl (Nat.zero_le _)
  have HO5 : Hid (OwnL (w4.alloc (.cells #[] 5)) w4.heap.size (.slice (some ⟨w4.heap.size, 0, none⟩) 0 0) []) := o5
  have HS5 : Hid (Src (w4.alloc (.cells #[] 5)) b a len cap (m + 1 + 3 + 1)) := hs4.below ((Below.refl _ _).alloc (Nat.le_refl _) _)
  have HB5 : Hid (But b w (w4.alloc (.cells #[] 5))) := hb04.belowB ((Below.refl w4.heap.size w4).alloc (Nat.le_refl _) _) z4
  have hn4 : n ≤ 400 := by omega
  have hk3I : (k3 : Int) < 7 := by omega
  clear hs4 hb4 HB3 HC3 HS3 o5 hb04 hn n0 n1
  go_wp2
  go_loopw [4, 5] (fun v i wr => ∃ (k : Nat) (l : List UInt8), k ≤ n ∧ i = .int .i64 k ∧ l.length = k ∧ Hid (OwnL wr w4.heap.size v l) ∧ Hid (Src wr b a len cap (m + 5 + k)) ∧ Hid (But b w wr) ∧ w4.heap.size ≤ wr.heap.size) (fun _ i _ => n - (intOf i).toNat)
  case atStart => exact ⟨0, [], by omega, rfl, rfl, HO5, HS5, HB5, by simp⟩
  case round =>
    clear HO5 HS5 HB5 hc4
    obtain ⟨k, l, hk, rfl, hl, HO, HS, HB, hz⟩ := hrel
    by_cases hlt : k < n
    · have hltI : (k : Int) < (n : Int) := by omega
      go_wp2_with fail
      refine (next_any 4 HS.out (by omega) (by omega) (by omega)).mono ?_
      rintro e w6 ⟨r6, rfl, r60, r61, hs6, hb6⟩
      have z6 := hb6.size
      have ho6 := HO.out.but hb6 (by omega)
      obtain ⟨v7, w7, hr7, ho7, hb7⟩ := app1 (w := w6) (r6 * 60 + (k : Int) % 7) ho6 (Below.refl _ _) (by omega) (by omega)
      have e7 : (r6 * 60 + (k : Int) % 7) % 256 = r6 * 60 + (k : Int) % 7 := by omega
      rw [e7] at hr7
      have HO7 : Hid (OwnL w7 w4.heap.size v7 (l ++ [b8 (r6 * 60 + (k : Int) % 7)])) := ho7
      have HS7 : Hid (Src w7 b a len cap (m + 5 + k + 1)) := hs6.belowB H0.out hb7 (by omega) z4
      have HB7 : Hid (But b w w7) := (HB.out.trans hb6).belowB hb7 z4
      have hz7 : w4.heap.size ≤ w7.heap.size := by have := hb7.size; omega
      obtain ⟨g6, n6, c6, rfl, _, _, _⟩ := HO.out.open
      clear HO HS HB hs6 hb6 ho6 ho7 hb7
      go_wp2_with (at_builtin; refine Lib.wpList_append_run _ rfl _ _ _ _ rfl _ _ rfl rfl _ _ hr7 ?_)
      go_roundw
      case rel => exact ⟨k + 1, _, by omega, by go_num, by rw [List.length_append, hl]; rfl, HO7, HS7, HB7, hz7⟩
      case measure => simp [intOf]; omega
    · obtain ⟨g6, n6, c6, rfl, HN, _, HR⟩ := HO.out.open
      have hcv := conv_n wr g6 0 c6 n6 l HR.out HN
      have HT : Hid ((tx l).size ≤ 400) := by show _ ≤ _; rw [tx_size]; omega
      generalize tx l = T at *
      clear HO HS HR HN
      go_wp2
      go_ret
      exact ⟨T, rfl, HT.out, HB.out⟩

set_option maxRecDepth 100000 in
theorem blobOf_any {w : World} {a : Option Addr} {cap : Nat} {l : List UInt8} (h : ReadL w a l) (hlen : l.length ≤ 4194304) :
    Calls Try.prog 10 #[.slice a l.length cap] w fun e w' => ∃ t : ByteArray, e = .returned (.string t) ∧ t.size ≤ 400 ∧ Below w.heap.size w w' := by
  have H : Hid (ReadL w a l) := h
  clear h
  go_enter Try.func10, Try.ntmps10
  go_wp2_with fail
  refine (source_any H.out hlen).mono ?_
  rintro e w1 ⟨rfl, hs, hz, hb⟩
  go_wp2_with fail
  refine (blob_any hs (by omega)).mono ?_
  rintro e w2 ⟨t, rfl, ht, hb2⟩
  have B2 : Below w.heap.size w w2 := hb2.below hb (Nat.le_refl _) (by omega)
  clear hs hb hb2
  go_wp2
  go_ret
  exact ⟨t, rfl, ht, B2⟩
end Go.Proofs.Ytbnnplelbbcanaa
