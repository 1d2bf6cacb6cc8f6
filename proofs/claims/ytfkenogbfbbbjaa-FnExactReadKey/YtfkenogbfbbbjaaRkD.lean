/- The specification's reader: a key's text. -/
import Derived.Test.YtfkenogbfbbbjaaRkA
import Derived.Test.YtfkenogbfbbbjaaRdI
import Derived.Test.YtfkenogbfbbbjaaL01
namespace Go.Proofs.Ytfkenogbfbbbjaa
open Go.RowKit

/-- A key's text as the specification reads it: the text, and the reader behind it. -/
def ktGo (f : Nat → Int) (n o : Nat) (acc : List UInt8) : List UInt8 × Nat × Bool :=
  if o < n then
    (if f o = 0 then
      (if o + 1 < n then
        (if f (o + 1) = 1 then (acc, o + 2, false)
        else if f (o + 1) = 255 then ktGo f n (o + 2) (acc ++ [0])
        else (acc ++ [0], o + 2, true))
      else (acc ++ [0], o + 1, true))
    else ktGo f n (o + 1) (acc ++ [byt (f o)]))
  else (acc ++ [0], o, true)
termination_by n - o
theorem ktGo_end {f : Nat → Int} {n o : Nat} (acc : List UInt8) (h : ¬ o < n) : ktGo f n o acc = (acc ++ [0], o, true) := by rw [ktGo, if_neg h]
theorem ktGo_byte {f : Nat → Int} {n o : Nat} (acc : List UInt8) (h : o < n) (h0 : ¬ f o = 0) : ktGo f n o acc = ktGo f n (o + 1) (acc ++ [byt (f o)]) := by rw [ktGo, if_pos h, if_neg h0]
theorem ktGo_stop {f : Nat → Int} {n o : Nat} (acc : List UInt8) (h : o < n) (h0 : f o = 0) (h1 : o + 1 < n) (h2 : f (o + 1) = 1) : ktGo f n o acc = (acc, o + 2, false) := by rw [ktGo, if_pos h, if_pos h0, if_pos h1, if_pos h2]
theorem ktGo_zero {f : Nat → Int} {n o : Nat} (acc : List UInt8) (h : o < n) (h0 : f o = 0) (h1 : o + 1 < n) (h2 : f (o + 1) = 255) : ktGo f n o acc = ktGo f n (o + 2) (acc ++ [0]) := by
  rw [ktGo, if_pos h, if_pos h0, if_pos h1, if_neg (by omega), if_pos h2]
theorem ktGo_bad {f : Nat → Int} {n o : Nat} (acc : List UInt8) (h : o < n) (h0 : f o = 0) (h1 : o + 1 < n) (h2 : ¬ f (o + 1) = 1) (h3 : ¬ f (o + 1) = 255) : ktGo f n o acc = (acc ++ [0], o + 2, true) := by
  rw [ktGo, if_pos h, if_pos h0, if_pos h1, if_neg h2, if_neg h3]
theorem ktGo_cut {f : Nat → Int} {n o : Nat} (acc : List UInt8) (h : o < n) (h0 : f o = 0) (h1 : ¬ o + 1 < n) : ktGo f n o acc = (acc ++ [0], o + 1, true) := by
  rw [ktGo, if_pos h, if_pos h0, if_neg h1]
theorem cells_snoc (l : List UInt8) (x : UInt8) : Lib.byteCells (l ++ [x]) = Lib.byteCells l ++ [.int .u8 (x.toNat : Int)] := by
  show List.map _ _ = _
  rw [List.map_append]
  rfl
theorem own_empty5 {u : World} {B : Nat} (hB : B ≤ u.heap.size) : (u.alloc (.cells #[] 5)).ownsRow B 5 1 (.slice (some ⟨u.heap.size, 0, none⟩) 0 0) 0 [] :=
  ⟨rfl, .inr ⟨u.heap.size, 0, #[], rfl, hB, by show (u.heap.push _)[u.heap.size]? = _; simp, Nat.le_refl _, by decide, rfl, rfl⟩⟩

theorem own_readL {w : World} {B : Nat} {v : Value} {l : List UInt8} (h : w.ownsRow B 5 1 v l.length (Lib.byteCells l)) : ∃ a cap, v = .slice a l.length cap ∧ ReadB w a l.length (fun i => ((l.getD i 0).toNat : Int)) := by
  rcases h.2 with ⟨rfl, hn⟩ | ⟨g, cap, cur, rfl, hB, hh, hc, hm, hs, ht⟩
  · exact ⟨none, 0, by rw [hn], fun i hi => by omega⟩
  · refine ⟨_, cap, rfl, fun i hi => ⟨g, 0, rfl, own_lt h g rfl, ?_⟩⟩
    have := congrArg (fun q => q[i]?) ht
    simp only [Nat.mul_one] at this
    rw [List.getElem?_take_of_lt hi] at this
    show World.cell? w ⟨g, 0 + i, none⟩ = _
    rw [Nat.zero_add]
    have e1 : w.cell? ⟨g, i, none⟩ = cur[i]? := by simp [World.cell?, hh]
    rw [e1, ← Array.getElem?_toList, this]
    unfold Lib.byteCells
    show _ = some (Value.int .u8 ((l.getD i 0).toNat : Int))
    rw [List.getElem?_map, List.getElem?_eq_getElem hi, List.getD_eq_getElem?_getD, List.getElem?_eq_getElem hi]
    rfl
theorem txt_list (l : List UInt8) : txt (fun i => ((l.getD i 0).toNat : Int)) l.length = ⟨l.toArray⟩ := by
  unfold txt strOfNums
  congr 1
  apply Array.toList_inj.1
  apply List.ext_getElem?
  intro i
  by_cases hi : i < l.length
  · simp [hi, List.getD_eq_getElem?_getD]
  · simp [hi]
/-- How much is left to read. -/
def mz (rb n : Nat) (w : World) : Nat := match w.cell? ⟨rb, 1, none⟩, w.cell? ⟨rb, 2, none⟩ with | some (.int _ q), some (.bool bad) => (if bad then 0 else 1 + (n - q.toNat)) | _, _ => 0
theorem mz_is {w : World} {rb n c : Nat} {a : Option Addr} {q : Nat} {bad : Bool} (h : Rdr w rb a n c (q, bad)) : mz rb n w = if bad then 0 else 1 + (n - q) := by
  unfold mz
  rw [h.c1, h.c2]
  simp

set_option maxRecDepth 100000 in
set_option maxHeartbeats 4000000 in
theorem keyText_any (rb b off n c o : Nat) (f : Nat → Int) (w : World) (h : Rdr w rb (some ⟨b, off, none⟩) n c (o, false)) (hr : ReadB w (some ⟨b, off, none⟩) n f) (hf : Bys f n) (hne : b ≠ rb) (hn : n ≤ 65536) (ho : o ≤ n) :
    Calls Try.prog 94 #[.pointer (some ⟨rb, 0, none⟩)] w fun e w' => e = .returned (.string ⟨(ktGo f n o []).1.toArray⟩) ∧ Rdr w' rb (some ⟨b, off, none⟩) n c (ktGo f n o []).2 ∧ But rb w w' := by
  have HR0 : Hid (Rdr w rb (some ⟨b, off, none⟩) n c (o, false)) := h
  have HB0 : Hid (ReadB w (some ⟨b, off, none⟩) n f) := hr
  have HF : Hid (Bys f n) := hf
  have hrb : rb < w.heap.size := h.lt
  clear h hr hf
  obtain ⟨i0, hi, hz0, hz1, hz2⟩ := info_parts info5
  have HNE : Hid (∀ p : Addr, some (⟨b, off, none⟩ : Addr) = some p → p.block ≠ rb) := fun p e => by cases e; exact hne
  have K0 : But rb w (w.alloc (.cells #[] 5)) := but_alloc (But.refl _ _) _
  have R0 : Rdr (w.alloc (.cells #[] 5)) rb (some ⟨b, off, none⟩) n c (o, false) := HR0.out.below ((Below.refl _ _).alloc (Nat.le_refl _) _)
  have O0 : (w.alloc (.cells #[] 5)).ownsRow w.heap.size 5 1 (.slice (some ⟨w.heap.size, 0, none⟩) 0 0) 0 [] := own_empty5 (Nat.le_refl _)
  have z2 := R0.c2
  go_enter Try.func94, Try.ntmps94
  go_wp2
  clear z2
  go_loopw [3, 4, 5] (fun v _ _ wr => ∃ (q : Nat) (bad : Bool) (l : List UInt8), q ≤ n ∧ l.length ≤ q + 1 ∧ wr.ownsRow w.heap.size 5 1 v l.length (Lib.byteCells l) ∧ Hid (Rdr wr rb (some ⟨b, off, none⟩) n c (q, bad)) ∧ Hid (But rb w wr) ∧ ((bad = false ∧ l.length ≤ q ∧ ktGo f n o [] = ktGo f n q l) ∨ (bad = true ∧ ktGo f n o [] = (l, q, true)))) (fun _ _ _ wr => mz rb n wr)
  case atStart => exact ⟨o, false, [], ho, Nat.zero_le _, O0, R0, K0, .inl ⟨rfl, Nat.zero_le _, rfl⟩⟩
  case round =>
    clear R0 O0 K0
    obtain ⟨q, bad, l, hq, hl, hO, HR, HK, hcase⟩ := hrel
    have HO : Hid (wr.ownsRow w.heap.size 5 1 u3 l.length (Lib.byteCells l)) := hO
    have z2 := HR.out.c2
    clear hO
    rcases hcase with ⟨rfl, hlq, hE⟩ | ⟨rfl, hE⟩
    · have HE : Hid (ktGo f n o [] = ktGo f n q l) := hE
      clear hE
      have hB1 := readB_but HB0.out HK.out hne
      go_wp2_with fail
      refine (one_any rb _ n c f (q, false) wr HR.out hB1 HF.out HNE.out hn hq).mono ?_
      clear z2
      by_cases hlt : q < n
      · rw [oneR_go f hlt]
        rintro e w1 ⟨rfl, hR1, hK1⟩
        have KK1 := HK.out.trans hK1
        have HR1 : Hid (Rdr w1 rb (some ⟨b, off, none⟩) n c (q + 1, false)) := hR1
        have HO1 : Hid (w1.ownsRow w.heap.size 5 1 u3 l.length (Lib.byteCells l)) := own_but HO.out hK1 hrb
        obtain ⟨v0, v1⟩ := HF.out q hlt
        obtain ⟨v, hv⟩ : ∃ v, f q = v := ⟨_, rfl⟩
        have HV : Hid (f q = v) := hv
        rw [hv] at v0 v1 ⊢
        clear hv hB1 hR1 hK1
        by_cases hz : v = 0
        · subst hz
          have hB2 := readB_but HB0.out KK1 hne
          go_wp2_with fail
          refine (one_any rb _ n c f (q + 1, false) w1 HR1.out hB2 HF.out HNE.out hn (by omega)).mono ?_
          by_cases hlt2 : q + 1 < n
          · rw [oneR_go f hlt2]
            rintro e w2 ⟨rfl, hR2, hK2⟩
            have KK2 := KK1.trans hK2
            have HR2 : Hid (Rdr w2 rb (some ⟨b, off, none⟩) n c (q + 1 + 1, false)) := hR2
            have HO2 : Hid (w2.ownsRow w.heap.size 5 1 u3 l.length (Lib.byteCells l)) := own_but HO1.out hK2 hrb
            obtain ⟨y0, y1⟩ := HF.out (q + 1) hlt2
            obtain ⟨y, hy⟩ : ∃ y, f (q + 1) = y := ⟨_, rfl⟩
            have HY : Hid (f (q + 1) = y) := hy
            rw [hy] at y0 y1 ⊢
            clear hy hB2 hR2 hK2
            by_cases q1 : y = 1
            · subst q1
              have E : Hid (ktGo f n o [] = (l, q + 2, false)) := by show _ = _; rw [HE.out, ktGo_stop l hlt HV.out hlt2 HY.out]
              obtain ⟨a3, c3, e3, hr3⟩ := own_readL HO2.out
              have hcv := conv_text w2 a3 l.length c3 _ hr3
              rw [txt_list] at hcv
              rw [e3] at *
              obtain ⟨ln, hln⟩ : ∃ ln, l.length = ln := ⟨_, rfl⟩
              rw [hln] at hcv ⊢
              clear hr3
              go_wp2
              go_ret
              rw [E.out]
              exact ⟨rfl, HR2.out, KK2⟩
            · by_cases q2 : y = 255
              · subst q2
                have HW : Hid ((w2).ownsRow w.heap.size 5 1 u3 l.length (Lib.byteCells l)) := HO2.out
                have HRW : Hid (Rdr (w2) rb (some ⟨b, off, none⟩) n c (q + 1 + 1, false)) := HR2.out
                have HKW : Hid (But rb w (w2)) := KK2
                have S1 : w.heap.size ≤ (w2).heap.size := HKW.out.size
                have L1 : l.length ≤ 70000 := by omega
                go_wp2_with (at_builtin; refine wpList_append_own _ rfl _ _ 22 rfl w.heap.size 5 i0 (.int .u8 0) 1 1 Try.underlying22 hi hz0 hz1 hz2 rfl (by decide) _ _ _ rfl (HW.out.alloc _) ⟨(w2).heap.size, 0, none⟩ 1 1 [.int .u8 0] rfl rfl (cell_one_new _ _ _) (one1 _) ?m1 ?m2 ?m3 ?_)
                case m1 => unfold maxLen; omega
                case m2 => omega
                case m3 => first | exact S1 | exact Nat.le_trans S1 ((Below.refl _ _).alloc (Nat.le_refl _) _).size | omega | (simp; omega)
                intro v' w3 ho3 g3 _
                have HO3 : Hid (w3.ownsRow w.heap.size 5 1 v' (l ++ [0]).length (Lib.byteCells (l ++ [0]))) := by
                  show World.ownsRow _ _ _ _ _ _ _
                  rw [cells_snoc, List.length_append]
                  exact ho3
                have HR3 : Hid (Rdr w3 rb (some ⟨b, off, none⟩) n c (q + 1 + 1, false)) := (HRW.out.below ((Below.refl _ _).alloc (Nat.le_refl _) _)).grown hrb (HW.out.alloc _) g3
                have HK3 : Hid (But rb w w3) := but_grown (but_alloc HKW.out _) (HW.out.alloc _) g3
                have M0 := mz_is HR.out
                have M3 := mz_is HR3.out
                clear ho3 g3
                go_wp2
                go_roundw
                case rel => exact ⟨q + 1 + 1, false, l ++ [0], by omega, by rw [List.length_append]; show _ + 1 ≤ _; omega, HO3.out, HR3.out, HK3.out, .inl ⟨rfl, by rw [List.length_append]; show _ + 1 ≤ _; omega, by rw [HE.out]; exact ktGo_zero l hlt HV.out hlt2 HY.out⟩⟩
                case measure => simp only [M0, M3]; simp; omega
              · have zz := HR2.out.c2
                have ff := HR2.out.free 2
                have HW : Hid ((w2.setCell ⟨rb, 2, none⟩ (.bool true)).ownsRow w.heap.size 5 1 u3 l.length (Lib.byteCells l)) := own_set HO2.out (fun g hg => by have := own_ge HO2.out g hg; omega)
                have HRW : Hid (Rdr (w2.setCell ⟨rb, 2, none⟩ (.bool true)) rb (some ⟨b, off, none⟩) n c (q + 1 + 1, true)) := HR2.out.bad
                have HKW : Hid (But rb w (w2.setCell ⟨rb, 2, none⟩ (.bool true))) := KK2.setCell _ _
                have S1 : w.heap.size ≤ (w2.setCell ⟨rb, 2, none⟩ (.bool true)).heap.size := HKW.out.size
                have L1 : l.length ≤ 70000 := by omega
                go_wp2_with (at_builtin; refine wpList_append_own _ rfl _ _ 22 rfl w.heap.size 5 i0 (.int .u8 0) 1 1 Try.underlying22 hi hz0 hz1 hz2 rfl (by decide) _ _ _ rfl (HW.out.alloc _) ⟨w2.heap.size, 0, none⟩ 1 1 [.int .u8 0] rfl rfl (news_one (by simp [World.setCell])) (one1 _) ?m1 ?m2 ?m3 ?_)
                case m1 => unfold maxLen; omega
                case m2 => omega
                case m3 => first | exact S1 | exact Nat.le_trans S1 ((Below.refl _ _).alloc (Nat.le_refl _) _).size | omega | (simp; omega)
                intro v' w3 ho3 g3 _
                have HO3 : Hid (w3.ownsRow w.heap.size 5 1 v' (l ++ [0]).length (Lib.byteCells (l ++ [0]))) := by
                  show World.ownsRow _ _ _ _ _ _ _
                  rw [cells_snoc, List.length_append]
                  exact ho3
                have HR3 : Hid (Rdr w3 rb (some ⟨b, off, none⟩) n c (q + 1 + 1, true)) := (HRW.out.below ((Below.refl _ _).alloc (Nat.le_refl _) _)).grown hrb (HW.out.alloc _) g3
                have HK3 : Hid (But rb w w3) := but_grown (but_alloc HKW.out _) (HW.out.alloc _) g3
                have M0 := mz_is HR.out
                have M3 := mz_is HR3.out
                clear ho3 g3
                go_wp2
                go_roundw
                case rel => exact ⟨q + 1 + 1, true, l ++ [0], by omega, by rw [List.length_append]; show _ + 1 ≤ _; omega, HO3.out, HR3.out, HK3.out, .inr ⟨rfl, by rw [HE.out]; exact ktGo_bad l hlt HV.out hlt2 (by rw [HY.out]; exact q1) (by rw [HY.out]; exact q2)⟩⟩
                case measure => simp only [M0, M3]; simp; omega
          · rw [oneR_end f (by omega)]
            rintro e w2 ⟨rfl, hR2, hK2⟩
            have KK2 := KK1.trans hK2
            have HR2 : Hid (Rdr w2 rb (some ⟨b, off, none⟩) n c (q + 1, true)) := hR2
            have HO2 : Hid (w2.ownsRow w.heap.size 5 1 u3 l.length (Lib.byteCells l)) := own_but HO1.out hK2 hrb
            have zz := HR2.out.c2
            have ff := HR2.out.free 2
            clear hB2 hR2 hK2
            have HW : Hid ((w2.setCell ⟨rb, 2, none⟩ (.bool true)).ownsRow w.heap.size 5 1 u3 l.length (Lib.byteCells l)) := own_set HO2.out (fun g hg => by have := own_ge HO2.out g hg; omega)
            have HRW : Hid (Rdr (w2.setCell ⟨rb, 2, none⟩ (.bool true)) rb (some ⟨b, off, none⟩) n c (q + 1, true)) := HR2.out.bad
            have HKW : Hid (But rb w (w2.setCell ⟨rb, 2, none⟩ (.bool true))) := KK2.setCell _ _
            have S1 : w.heap.size ≤ (w2.setCell ⟨rb, 2, none⟩ (.bool true)).heap.size := HKW.out.size
            have L1 : l.length ≤ 70000 := by omega
            go_wp2_with (at_builtin; refine wpList_append_own _ rfl _ _ 22 rfl w.heap.size 5 i0 (.int .u8 0) 1 1 Try.underlying22 hi hz0 hz1 hz2 rfl (by decide) _ _ _ rfl (HW.out.alloc _) ⟨w2.heap.size, 0, none⟩ 1 1 [.int .u8 0] rfl rfl (news_one (by simp [World.setCell])) (one1 _) ?m1 ?m2 ?m3 ?_)
            case m1 => unfold maxLen; omega
            case m2 => omega
            case m3 => first | exact S1 | exact Nat.le_trans S1 ((Below.refl _ _).alloc (Nat.le_refl _) _).size | omega | (simp; omega)
            intro v' w3 ho3 g3 _
            have HO3 : Hid (w3.ownsRow w.heap.size 5 1 v' (l ++ [0]).length (Lib.byteCells (l ++ [0]))) := by
              show World.ownsRow _ _ _ _ _ _ _
              rw [cells_snoc, List.length_append]
              exact ho3
            have HR3 : Hid (Rdr w3 rb (some ⟨b, off, none⟩) n c (q + 1, true)) := (HRW.out.below ((Below.refl _ _).alloc (Nat.le_refl _) _)).grown hrb (HW.out.alloc _) g3
            have HK3 : Hid (But rb w w3) := but_grown (but_alloc HKW.out _) (HW.out.alloc _) g3
            have M0 := mz_is HR.out
            have M3 := mz_is HR3.out
            clear ho3 g3
            go_wp2
            go_roundw
            case rel => exact ⟨q + 1, true, l ++ [0], by omega, by rw [List.length_append]; show _ + 1 ≤ _; omega, HO3.out, HR3.out, HK3.out, .inr ⟨rfl, by rw [HE.out]; exact ktGo_cut l hlt HV.out hlt2⟩⟩
            case measure => simp only [M0, M3]; simp; omega
        · have hvp : 0 < v := by omega
          have hwv : IntKind.u8.wrap v = v := by simp [IntKind.wrap, IntKind.signed, IntKind.bits]; omega
          have hb8 : ((byt v).toNat : Int) = v := byt_nat v0 v1
          have HW : Hid ((w1).ownsRow w.heap.size 5 1 u3 l.length (Lib.byteCells l)) := HO1.out
          have HRW : Hid (Rdr (w1) rb (some ⟨b, off, none⟩) n c (q + 1, false)) := HR1.out
          have HKW : Hid (But rb w (w1)) := KK1
          have S1 : w.heap.size ≤ (w1).heap.size := HKW.out.size
          have L1 : l.length ≤ 70000 := by omega
          go_wp2_with (at_builtin; refine wpList_append_own _ rfl _ _ 22 rfl w.heap.size 5 i0 (.int .u8 0) 1 1 Try.underlying22 hi hz0 hz1 hz2 rfl (by decide) _ _ _ rfl (HW.out.alloc _) ⟨(w1).heap.size, 0, none⟩ 1 1 [.int .u8 v] rfl rfl (cell_one_new _ _ _) (one1 _) ?m1 ?m2 ?m3 ?_)
          case m1 => unfold maxLen; omega
          case m2 => omega
          case m3 => first | exact S1 | exact Nat.le_trans S1 ((Below.refl _ _).alloc (Nat.le_refl _) _).size | omega | (simp; omega)
          intro v' w3 ho3 g3 _
          have HO3 : Hid (w3.ownsRow w.heap.size 5 1 v' (l ++ [byt v]).length (Lib.byteCells (l ++ [byt v]))) := by
            show World.ownsRow _ _ _ _ _ _ _
            rw [cells_snoc, List.length_append]
            rw [hb8]
            exact ho3
          have HR3 : Hid (Rdr w3 rb (some ⟨b, off, none⟩) n c (q + 1, false)) := (HRW.out.below ((Below.refl _ _).alloc (Nat.le_refl _) _)).grown hrb (HW.out.alloc _) g3
          have HK3 : Hid (But rb w w3) := but_grown (but_alloc HKW.out _) (HW.out.alloc _) g3
          have M0 := mz_is HR.out
          have M3 := mz_is HR3.out
          clear ho3 g3
          go_wp2
          go_roundw
          case rel => exact ⟨q + 1, false, l ++ [byt v], by omega, by rw [List.length_append]; show _ + 1 ≤ _; omega, HO3.out, HR3.out, HK3.out, .inl ⟨rfl, by rw [List.length_append]; show _ + 1 ≤ _; omega, by rw [HE.out, ktGo_byte l hlt (by rw [HV.out]; exact hz), HV.out]⟩⟩
          case measure => simp only [M0, M3]; simp; omega
      · rw [oneR_end f (by omega)]
        rintro e w1 ⟨rfl, hR1, hK1⟩
        have KK1 := HK.out.trans hK1
        have HR1 : Hid (Rdr w1 rb (some ⟨b, off, none⟩) n c (q, true)) := hR1
        have HO1 : Hid (w1.ownsRow w.heap.size 5 1 u3 l.length (Lib.byteCells l)) := own_but HO.out hK1 hrb
        have hB2 := readB_but HB0.out KK1 hne
        clear hB1 hR1 hK1
        go_wp2_with fail
        refine (one_any rb _ n c f (q, true) w1 HR1.out hB2 HF.out HNE.out hn hq).mono ?_
        rw [oneR_bad f n q]
        rintro e w2 ⟨rfl, hR2, hK2⟩
        have KK2 := KK1.trans hK2
        have HR2 : Hid (Rdr w2 rb (some ⟨b, off, none⟩) n c (q, true)) := hR2
        have HO2 : Hid (w2.ownsRow w.heap.size 5 1 u3 l.length (Lib.byteCells l)) := own_but HO1.out hK2 hrb
        have zz := HR2.out.c2
        have ff := HR2.out.free 2
        clear hB2 hR2 hK2
        have HW : Hid ((w2.setCell ⟨rb, 2, none⟩ (.bool true)).ownsRow w.heap.size 5 1 u3 l.length (Lib.byteCells l)) := own_set HO2.out (fun g hg => by have := own_ge HO2.out g hg; omega)
        have HRW : Hid (Rdr (w2.setCell ⟨rb, 2, none⟩ (.bool true)) rb (some ⟨b, off, none⟩) n c (q, true)) := HR2.out.bad
        have HKW : Hid (But rb w (w2.setCell ⟨rb, 2, none⟩ (.bool true))) := KK2.setCell _ _
        have S1 : w.heap.size ≤ (w2.setCell ⟨rb, 2, none⟩ (.bool true)).heap.size := HKW.out.size
        have L1 : l.length ≤ 70000 := by omega
        go_wp2_with (at_builtin; refine wpList_append_own _ rfl _ _ 22 rfl w.heap.size 5 i0 (.int .u8 0) 1 1 Try.underlying22 hi hz0 hz1 hz2 rfl (by decide) _ _ _ rfl (HW.out.alloc _) ⟨w2.heap.size, 0, none⟩ 1 1 [.int .u8 0] rfl rfl (news_one (by simp [World.setCell])) (one1 _) ?m1 ?m2 ?m3 ?_)
        case m1 => unfold maxLen; omega
        case m2 => omega
        case m3 => first | exact S1 | exact Nat.le_trans S1 ((Below.refl _ _).alloc (Nat.le_refl _) _).size | omega | (simp; omega)
        intro v' w3 ho3 g3 _
        have HO3 : Hid (w3.ownsRow w.heap.size 5 1 v' (l ++ [0]).length (Lib.byteCells (l ++ [0]))) := by
          show World.ownsRow _ _ _ _ _ _ _
          rw [cells_snoc, List.length_append]
          exact ho3
        have HR3 : Hid (Rdr w3 rb (some ⟨b, off, none⟩) n c (q, true)) := (HRW.out.below ((Below.refl _ _).alloc (Nat.le_refl _) _)).grown hrb (HW.out.alloc _) g3
        have HK3 : Hid (But rb w w3) := but_grown (but_alloc HKW.out _) (HW.out.alloc _) g3
        have M0 := mz_is HR.out
        have M3 := mz_is HR3.out
        clear ho3 g3
        go_wp2
        go_roundw
        case rel => exact ⟨q, true, l ++ [0], by omega, by rw [List.length_append]; show _ + 1 ≤ _; omega, HO3.out, HR3.out, HK3.out, .inr ⟨rfl, by rw [HE.out]; exact ktGo_end l hlt⟩⟩
        case measure => simp only [M0, M3]; simp; omega
    · have E : Hid (ktGo f n o [] = (l, q, true)) := hE
      clear hE
      obtain ⟨a3, c3, e3, hr3⟩ := own_readL HO.out
      have hcv := conv_text wr a3 l.length c3 _ hr3
      rw [txt_list] at hcv
      subst e3
      clear hr3
      go_wp2
      go_ret
      rw [E.out]
      exact ⟨rfl, HR.out, HK.out⟩
end Go.Proofs.Ytfkenogbfbbbjaa
