/- Bytes of hexadecimal digits as both sides read them. -/
import Derived.Test.YtipddjgoohnalaaRvF
namespace Go.Proofs.Ytipddjgoohnalaa
open Go.RowKit

theorem tmod2 (n : Nat) : Int.tmod (n : Int) 2 = ((n % 2 : Nat) : Int) := by
  rw [Int.tmod_eq_emod_of_nonneg (by omega)]
  omega
/-- Bytes of hexadecimal digits. -/
def hexV (s : ByteArray) : Option ByteArray := (hx (byteAt s) s.size 0 []).map strOf
theorem hexV_odd {s : ByteArray} (h : s.size % 2 = 1) : hexV s = none := by unfold hexV; rw [hx_odd _ _ s.size 0 [] (by omega) (by omega)]; rfl

set_option maxRecDepth 100000 in
set_option maxHeartbeats 4000000 in
theorem l01Plain_any (s : ByteArray) (w : World) (hs : s.size ≤ 65536) :
    Calls Try.prog 99 #[.string s] w fun e w' => e = .returned (TxR (hexV s)) ∧ Below w.heap.size w w' := by
  have htm := tmod2 s.size
  by_cases hodd : s.size % 2 = 1
  · have H : Hid (hexV s = none) := hexV_odd hodd
    rw [hodd] at htm
    go_enter Try.func99, Try.ntmps99
    go_wp2
    go_ret2
    rw [H.out]
    exact ⟨rfl, Below.refl _ _⟩
  have heven : s.size % 2 = 0 := by omega
  rw [heven] at htm
  obtain ⟨i0, hi, hz0, hz1, hz2⟩ := info_parts info5
  have B0 : Below w.heap.size w (w.alloc (.cells #[] 5)) := (Below.refl _ _).alloc (Nat.le_refl _) _
  have O0 : (w.alloc (.cells #[] 5)).ownsRow w.heap.size 5 1 (.slice (some ⟨w.heap.size, 0, none⟩) 0 0) 0 [] := own_empty5 (Nat.le_refl _)
  go_enter Try.func99, Try.ntmps99
  go_wp2
  go_loopw [4, 5] (fun v i wr => ∃ (k : Nat) (l : List UInt8), k ≤ s.size ∧ k % 2 = 0 ∧ l.length ≤ k ∧ i = .int .i64 k ∧ wr.ownsRow w.heap.size 5 1 v l.length (Lib.byteCells l) ∧ Hid (hx (byteAt s) s.size 0 [] = hx (byteAt s) s.size k l) ∧ Below w.heap.size w wr) (fun _ i _ => s.size - (intOf i).toNat)
  case atStart => exact ⟨0, [], by omega, rfl, Nat.zero_le _, rfl, O0, rfl, B0⟩
  case round =>
    clear O0 B0
    obtain ⟨k, l, hk, hk2, hl, rfl, hO, HG, hbl⟩ := hrel
    have HO : Hid (wr.ownsRow w.heap.size 5 1 u4 l.length (Lib.byteCells l)) := hO
    clear hO
    have hS1 : w.heap.size ≤ wr.heap.size := hbl.size
    by_cases hlt : k < s.size
    · have hlt1 : k + 1 < s.size := by omega
      have hltI : (k : Int) < (s.size : Int) := by omega
      have hlt1I : (k : Int) + 1 < (s.size : Int) := by omega
      have hb := byteAt_eq s k hlt
      have hb1 := byteAt_eq s (k + 1) hlt1
      obtain ⟨v0, v1⟩ := byteAt_bd s k
      obtain ⟨u0, u1⟩ := byteAt_bd s (k + 1)
      obtain ⟨v, hv⟩ : ∃ v : Int, ((s[k]'hlt).toNat : Int) = v := ⟨_, rfl⟩
      obtain ⟨u, hu⟩ : ∃ u : Int, ((s[k + 1]'hlt1).toNat : Int) = u := ⟨_, rfl⟩
      rw [hv] at hb
      rw [hu] at hb1
      rw [hb] at v0 v1
      rw [hb1] at u0 u1
      have HBd : Hid (nib v < 0 ∨ nib u < 0 → hx (byteAt s) s.size 0 [] = none) := fun h => by rw [HG.out, hx_bad l hlt1 (by rw [hb, hb1]; exact h)]
      have HGo : Hid (¬ (nib v < 0 ∨ nib u < 0) → hx (byteAt s) s.size 0 [] = hx (byteAt s) s.size (k + 2) (l ++ [byt (16 * nib v + nib u)])) := fun h => by rw [HG.out, hx_go l hlt1 (by rw [hb, hb1]; exact h), hb, hb1]
      obtain ⟨n0, n1⟩ := nib_bd v
      obtain ⟨m0, m1⟩ := nib_bd u
      clear hb hb1 HG
      go_wp2_with fail
      refine (l01Nibble_any v _ v0 v1).mono ?_
      rintro e w' ⟨rfl, hq⟩
      obtain rfl := hq.symm
      go_wp2_with fail
      refine (l01Nibble_any u _ u0 u1).mono ?_
      rintro e w' ⟨rfl, hq⟩
      obtain rfl := hq.symm
      generalize nib v = x at *
      generalize nib u = y at *
      by_cases hx0 : x < 0
      · have HN : Hid (hexV s = none) := by show _ = _; unfold hexV; rw [HBd.out (.inl hx0)]; rfl
        clear HBd HGo
        go_wp2
        go_ret2
        rw [HN.out]
        exact ⟨rfl, hbl⟩
      by_cases hy0 : y < 0
      · have HN : Hid (hexV s = none) := by show _ = _; unfold hexV; rw [HBd.out (.inr hy0)]; rfl
        clear HBd HGo
        go_wp2
        go_ret2
        rw [HN.out]
        exact ⟨rfl, hbl⟩
      · have HG2 : Hid (hx (byteAt s) s.size 0 [] = hx (byteAt s) s.size (k + 2) (l ++ [byt (16 * x + y)])) := HGo.out (by omega)
        have hwr : IntKind.u8.wrap (16 * x + y) = 16 * x + y := by rw [IntKind.wrap_u8]; omega
        clear HBd HGo
        go_wp2_with (at_builtin; refine wpList_append_own _ rfl _ _ 22 rfl w.heap.size 5 i0 (.int .u8 0) 1 1 Try.underlying22 hi hz0 hz1 hz2 rfl (by decide) _ _ _ rfl (HO.out.alloc _) ⟨wr.heap.size, 0, none⟩ 1 1 [.int .u8 (16 * x + y)] rfl rfl (cell_one_new _ _ _) (one1 _) ?m1 ?m2 ?m3 ?_)
        case m1 => unfold maxLen; omega
        case m2 => omega
        case m3 => first | exact hS1 | exact Nat.le_trans hS1 ((Below.refl _ _).alloc (Nat.le_refl _) _).size | omega | (simp; omega)
        intro v' w3 ho3 g3 _
        have HO3 : Hid (w3.ownsRow w.heap.size 5 1 v' (l ++ [byt (16 * x + y)]).length (Lib.byteCells (l ++ [byt (16 * x + y)]))) := by
          show World.ownsRow _ _ _ _ _ _ _
          rw [cells_snoc, List.length_append, byt_nat (by omega) (by omega)]
          exact ho3
        have hB3 := grown_belowN (hbl.alloc hbl.size _) (hbl.alloc hbl.size _).size (HO.out.alloc _) g3
        clear ho3 g3
        go_wp2
        go_roundw
        case rel => exact ⟨k + 2, l ++ [byt (16 * x + y)], by omega, by omega, by rw [List.length_append]; show _ + 1 ≤ _; omega, by go_num, HO3.out, HG2, hB3⟩
        case measure => simp [intOf]; omega
    · have HN : Hid (hexV s = some (strOf l)) := by show _ = _; unfold hexV; rw [HG.out, hx_end l hlt]; rfl
      have hltI : ¬ (k : Int) < (s.size : Int) := by omega
      obtain ⟨a3, c3, e3, hr3⟩ := own_readL HO.out
      have hcv2 := conv_text wr a3 l.length c3 _ hr3
      rw [txt_list] at hcv2
      subst e3
      obtain ⟨ln, hln⟩ : ∃ ln, l.length = ln := ⟨_, rfl⟩
      rw [hln] at hcv2 ⊢
      clear hr3 HG
      go_wp2
      go_ret2
      rw [HN.out]
      exact ⟨rfl, hbl⟩

theorem or_fin : ∀ i j : Fin 16, bits .or .i64 ((i.val : Int) * 16) (j.val : Int) = 16 * (i.val : Int) + (j.val : Int) := by decide +kernel
theorem or_hex {x y : Int} (h0 : 0 ≤ x) (h1 : x ≤ 15) (g0 : 0 ≤ y) (g1 : y ≤ 15) : bits .or .i64 (x * 16) y = 16 * x + y := by
  have := or_fin ⟨x.toNat, by omega⟩ ⟨y.toNat, by omega⟩
  simp only at this
  have e1 : (x.toNat : Int) = x := by omega
  have e2 : (y.toNat : Int) = y := by omega
  rw [e1, e2] at this
  exact this
/-- What impl.unhex makes of a text. -/
def unhV (s : ByteArray) : Option ByteArray := (btw s).bind hexV

set_option maxRecDepth 100000 in
set_option maxHeartbeats 4000000 in
theorem unhex_any (s : ByteArray) (w : World) (hs : s.size ≤ 65536) :
    Calls Try.prog 102 #[.string s] w fun e w' => e = .returned (TxR (unhV s)) ∧ Below w.heap.size w w' := by
  have hbt := between_any s w hs
  obtain ⟨o, ho⟩ : ∃ o, btw s = o := ⟨_, rfl⟩
  rw [ho] at hbt
  cases o with
  | none =>
    have H : Hid (unhV s = none) := by show _ = _; unfold unhV; rw [ho]; rfl
    clear ho
    go_enter Try.func102, Try.ntmps102
    go_wp2_with fail
    refine hbt.mono ?_
    rintro e w' ⟨rfl, hq⟩
    obtain rfl := hq.symm
    clear hbt
    go_wp2
    go_ret2
    rw [H.out]
    exact ⟨rfl, Below.refl _ _⟩
  | some t =>
    have hts : t.size ≤ 65536 := Nat.le_trans (btw_size ho) hs
    have H : Hid (unhV s = hexV t) := by show _ = _; unfold unhV; rw [ho]; rfl
    clear ho
    have htm := tmod2 t.size
    by_cases hodd : t.size % 2 = 1
    · have HN : Hid (unhV s = none) := by show _ = _; rw [H.out]; exact hexV_odd hodd
      rw [hodd] at htm
      go_enter Try.func102, Try.ntmps102
      go_wp2_with fail
      refine hbt.mono ?_
      rintro e w' ⟨rfl, hq⟩
      obtain rfl := hq.symm
      clear hbt
      go_wp2
      go_ret2
      rw [HN.out]
      exact ⟨rfl, Below.refl _ _⟩
    have heven : t.size % 2 = 0 := by omega
    rw [heven] at htm
    have hF : Hid (Bld w.heap.size w.heap.size (Lib.byteCells []) (w.alloc (.cells #[.pointer none, .slice none 0 0] 67))) := Lib.fresh_isBuilder 67 5 w
    have hB0 : Below w.heap.size w (w.alloc (.cells #[.pointer none, .slice none 0 0] 67)) := (Below.refl _ _).alloc (Nat.le_refl _) _
    go_enter Try.func102, Try.ntmps102
    go_wp2_with fail
    refine hbt.mono ?_
    rintro e w' ⟨rfl, hq⟩
    obtain rfl := hq.symm
    clear hbt
    go_wp2
    go_loopw [7] (fun i wr => ∃ (k : Nat) (l : List UInt8), k ≤ t.size ∧ k % 2 = 0 ∧ l.length ≤ k ∧ i = .int .i64 k ∧ Hid (Bld w.heap.size w.heap.size (Lib.byteCells l) wr) ∧ Hid (hx (byteAt t) t.size 0 [] = hx (byteAt t) t.size k l) ∧ Below w.heap.size w wr) (fun i _ => t.size - (intOf i).toNat)
    case atStart => exact ⟨0, [], by omega, rfl, Nat.le_refl _, rfl, hF.out, rfl, hB0⟩
    case round =>
      clear hF hB0
      obtain ⟨k, l, hk, hk2, hl, rfl, HK, HG, hbl⟩ := hrel
      have hsz : w.heap.size ≤ wr.heap.size := hbl.size
      by_cases hlt : k < t.size
      · have hlt1 : k + 1 < t.size := by omega
        have hltI : (k : Int) < (t.size : Int) := by omega
        have hlt1I : (k : Int) + 1 < (t.size : Int) := by omega
        have hb := byteAt_eq t k hlt
        have hb1 := byteAt_eq t (k + 1) hlt1
        obtain ⟨v0, v1⟩ := byteAt_bd t k
        obtain ⟨u0, u1⟩ := byteAt_bd t (k + 1)
        obtain ⟨v, hv⟩ : ∃ v : Int, ((t[k]'hlt).toNat : Int) = v := ⟨_, rfl⟩
        obtain ⟨u, hu⟩ : ∃ u : Int, ((t[k + 1]'hlt1).toNat : Int) = u := ⟨_, rfl⟩
        rw [hv] at hb
        rw [hu] at hb1
        rw [hb] at v0 v1
        rw [hb1] at u0 u1
        have HBd : Hid (nib v < 0 ∨ nib u < 0 → hx (byteAt t) t.size 0 [] = none) := fun h => by rw [HG.out, hx_bad l hlt1 (by rw [hb, hb1]; exact h)]
        have HGo : Hid (¬ (nib v < 0 ∨ nib u < 0) → hx (byteAt t) t.size 0 [] = hx (byteAt t) t.size (k + 2) (l ++ [byt (16 * nib v + nib u)])) := fun h => by rw [HG.out, hx_go l hlt1 (by rw [hb, hb1]; exact h), hb, hb1]
        obtain ⟨n0, n1⟩ := nib_bd v
        obtain ⟨m0, m1⟩ := nib_bd u
        have HLB : Hid ((Lib.byteCells l).length ≤ 100000) := by show _ ≤ _; rw [Lib.byteCells_length]; omega
        clear hb hb1 HG
        go_wp2_with fail
        refine (indexByte_any v _ v0 v1).mono ?_
        rintro e w' ⟨rfl, hq⟩
        obtain rfl := hq.symm
        go_wp2_with fail
        refine (indexByte_any u _ u0 u1).mono ?_
        rintro e w' ⟨rfl, hq⟩
        obtain rfl := hq.symm
        generalize nib v = x at *
        generalize nib u = y at *
        by_cases hx0 : x < 0
        · have HN : Hid (unhV s = none) := by show _ = _; rw [H.out]; unfold hexV; rw [HBd.out (.inl hx0)]; rfl
          clear HBd HGo HK
          go_wp2
          go_ret2
          rw [HN.out]
          exact ⟨rfl, hbl⟩
        by_cases hy0 : y < 0
        · have HN : Hid (unhV s = none) := by show _ = _; rw [H.out]; unfold hexV; rw [HBd.out (.inr hy0)]; rfl
          clear HBd HGo HK
          go_wp2
          go_ret2
          rw [HN.out]
          exact ⟨rfl, hbl⟩
        · have HG2 : Hid (hx (byteAt t) t.size 0 [] = hx (byteAt t) t.size (k + 2) (l ++ [byt (16 * x + y)])) := HGo.out (by omega)
          have hor := or_hex (x := x) (y := y) (by omega) n1 (by omega) m1
          have hmd : (16 * x + y) % 256 = 16 * x + y := by omega
          have b0 : 0 ≤ 16 * x + y := by omega
          have b1 : 16 * x + y ≤ 255 := by omega
          clear HBd HGo
          go_wp2_with fail
          obtain ⟨q, hq⟩ : ∃ q, 16 * x + y = q := ⟨_, rfl⟩
          rw [hq] at b0 b1 HG2 hmd hor
          simp only [hq]
          refine (writeByte_any w.heap.size w.heap.size _ q wr HK.out HLB.out hsz).mono ?_
          rintro e w2 ⟨rfl, g2, d2⟩
          have Hn : Hid (Bld w.heap.size w.heap.size (Lib.byteCells (l ++ [byt q])) w2) := by
            have e1 : Lib.byteCells (l ++ [byt q]) = Lib.byteCells l ++ [.int .u8 q] := by
              show List.map _ _ = _
              rw [List.map_append]
              show _ ++ [Value.int .u8 ((byt q).toNat : Int)] = _
              rw [byt_nat b0 b1]
              rfl
            show Bld _ _ _ _
            rw [e1]
            exact g2
          have hB2 := hbl.trans d2
          clear g2 d2 hbl HK hor hmd hq
          go_wp2
          go_roundw
          case rel => exact ⟨k + 2, l ++ [byt q], by omega, by omega, by rw [List.length_append]; show _ + 1 ≤ _; omega, by go_num, Hn.out, HG2.out, hB2⟩
          case measure => simp [intOf]; omega
      · have HN : Hid (unhV s = some (strOf l)) := by show _ = _; rw [H.out]; unfold hexV; rw [HG.out, hx_end l hlt]; rfl
        have hltI : ¬ (k : Int) < (t.size : Int) := by omega
        go_wp2_with fail
        refine (Try.Builder_String_any w.heap.size w.heap.size l wr HK.out hsz).mono ?_
        rintro e w2 ⟨rfl, d2⟩
        have hB2 := hbl.trans d2
        clear d2 hbl HK HG
        go_wp2
        go_ret2
        rw [HN.out]
        exact ⟨rfl, hB2⟩
end Go.Proofs.Ytipddjgoohnalaa
