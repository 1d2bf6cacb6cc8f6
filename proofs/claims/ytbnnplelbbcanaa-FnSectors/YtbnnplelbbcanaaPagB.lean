/- The sector of a page: the program's. -/
import Derived.Test.YtbnnplelbbcanaaPagA
import Derived.Deep.RegionHeld3
namespace Go.Proofs.Ytbnnplelbbcanaa
open Go.RowKit

def tx (l : List UInt8) : ByteArray := ⟨l.toArray⟩
theorem tx_size (l : List UInt8) : (tx l).size = l.length := rfl
theorem tx_list (l : List UInt8) : (tx l).data.toList = l := rfl
theorem tx_of (s : ByteArray) : tx s.data.toList = s := rfl
theorem tx_add (l m : List UInt8) : tx l ++ tx m = tx (l ++ m) := by
  apply ByteArray.ext
  show (ByteArray.append (tx l) (tx m)).data = _
  simp [tx]
theorem conv_back (w : World) (b off cap : Nat) (l : List UInt8) (h : ReadL w (some ⟨b, off, none⟩) l) : (convert 22 9 (.slice (some ⟨b, off, none⟩) l.length cap)).run Try.prog w = .ok (.string (tx l)) w := by
  refine run_convert_bytes_back (P := Try.prog) w 22 9 5 ⟨b, off, none⟩ cap l Try.underlying22 Try.underlying5 Try.underlying9 (fun j hj => ?_)
  obtain ⟨b', off', e, _, hc⟩ := h j hj
  cases e
  rw [add_plain, hc]
  unfold byU
  rw [List.getD_eq_getElem?_getD, List.getElem?_eq_getElem hj]
  rfl

theorem conv_n (w : World) (b off cap n : Nat) (l : List UInt8) (h : ReadL w (some ⟨b, off, none⟩) l) (hn : Hid (l.length = n)) : (convert 22 9 (.slice (some ⟨b, off, none⟩) n cap)).run Try.prog w = .ok (.string (tx l)) w := by
  have e := hn.out
  subst e
  exact conv_back w b off cap l h
theorem OwnL.open {w : World} {B : Nat} {v : Value} {l : List UInt8} (h : OwnL w B v l) : ∃ g n cap, v = .slice (some ⟨g, 0, none⟩) n cap ∧ Hid (l.length = n) ∧ B ≤ g ∧ Hid (ReadL w (some ⟨g, 0, none⟩) l) := by
  obtain ⟨g, cap, e, hB, hr⟩ := h.read
  exact ⟨g, l.length, cap, e, rfl, hB, hr⟩
theorem implSum_n (a : Option Addr) (c n : Nat) (l : List UInt8) (w : World) (h : ReadL w a l) (hl : Hid (l.length = n)) (hn : n ≤ 65536) :
    Calls Try.prog 16 #[.slice a n c] w fun e w' => e = .returned (.int .i64 (sumL l)) ∧ Below w.heap.size w w' := by
  have e := hl.out
  subst e
  have := implPageSum_any a c l w h (by omega)
  rwa [if_neg (by omega)] at this
theorem specSum_n (a : Option Addr) (c n : Nat) (l : List UInt8) (w : World) (h : ReadL w a l) (hl : Hid (l.length = n)) (hn : n ≤ 65536) :
    Calls Try.prog 38 #[.slice a n c] w fun e w' => e = .returned (.int .i64 (sumL l)) ∧ w' = w := by
  have e := hl.out
  subst e
  exact l03Sum_any a c l w h (by omega)

/-- The sum of a page. -/
def psum (page epoch : Int) (body : List UInt8) : Nat := sumL ([b8 page] ++ num4 epoch ++ body)

theorem num4_len (n : Int) : (num4 n).length = 4 := rfl

set_option maxRecDepth 100000 in
set_option maxHeartbeats 4000000 in
theorem sumOfPage_any (page epoch : Int) (s : ByteArray) (w : World) (hs : s.size ≤ 1000) :
    Calls Try.prog 33 #[.int .i64 page, .int .i64 epoch, .string s] w fun e w' => e = .returned (.int .i64 (psum page epoch s.data.toList)) ∧ Below w.heap.size w w' := by
  have o0 : OwnL (w.alloc (.cells #[.int .u8 (page % 256)] 5)) w.heap.size (.slice (some ⟨w.heap.size, 0, none⟩) 1 1) [b8 page] := OwnL.made w _ [b8 page] _ (Nat.le_refl _) (by simp [cellsU, b8_nat]) (by unfold maxLen; show 1 ≤ _; omega)
  have B0 : Below w.heap.size w (w.alloc (.cells #[.int .u8 (page % 256)] 5)) := (Below.refl _ _).alloc (Nat.le_refl _) _
  have HO : Hid (OwnL (w.alloc (.cells #[.int .u8 (page % 256)] 5)) w.heap.size (.slice (some ⟨w.heap.size, 0, none⟩) 1 1) [b8 page]) := o0
  have HB0 : Hid (Below w.heap.size w (w.alloc (.cells #[.int .u8 (page % 256)] 5))) := B0
  clear o0 B0
  go_enter Try.func33, Try.ntmps33
  go_wp2_with fail
  refine (appendNumber4 _ [b8 page] epoch w.heap.size _ HO.out (by show 1 ≤ _; omega) (by simp)).mono ?_
  rintro e w1 ⟨v1, rfl, ho1, hb1⟩
  have hb1' := HB0.out.trans hb1
  have hsz1 : w.heap.size ≤ w1.heap.size := hb1'.size
  obtain ⟨v2, w2, hr, ho2, hg⟩ := run_app_text 22 s ho1 (by rw [List.length_append, num4_len]; show 1 + 4 + _ ≤ _; omega) hsz1
  have hb2 := ho1.grown hg hb1' (Nat.le_refl _) hsz1
  obtain ⟨g1, n1, c1, rfl, _, _, _⟩ := ho1.open
  obtain ⟨g2, n2, c2, rfl, HN, hg2, HR⟩ := ho2.open
  have hn2 : n2 ≤ 1005 := by rw [← HN.out, List.length_append, List.length_append, num4_len]; show 1 + 4 + s.size ≤ _; omega
  clear ho1 ho2 hg hb1 HO HB0 hb1'
  go_wp2_with (at_builtin; refine Lib.wpList_append_run _ rfl _ _ _ _ rfl _ _ rfl rfl _ _ hr ?_)
  refine (implSum_n _ _ _ _ w2 HR.out HN (by omega)).mono ?_
  rintro e w3 ⟨rfl, hb3⟩
  have hb := below_step hb2 (Nat.le_refl _) hb3
  obtain ⟨x, hx⟩ : ∃ x, sumL ([b8 page] ++ num4 epoch ++ s.data.toList) = x := ⟨_, rfl⟩
  have HX : Hid (psum page epoch s.data.toList = x) := hx
  rw [hx]
  clear hb2 hb3 HR HN hx
  go_wp2
  go_ret
  exact ⟨ret_int' (by rw [HX.out]), hb⟩

set_option maxRecDepth 100000 in
set_option maxHeartbeats 4000000 in
theorem withSum_any (s : ByteArray) (n : Int) (w : World) (hs : s.size ≤ 1000) :
    Calls Try.prog 45 #[.string s, .int .i64 n] w fun e w' => e = .returned (.string (tx (s.data.toList ++ num4 n))) ∧ Below w.heap.size w w' := by
  have hcv := Lib.run_convert_string_bytes (P := Try.prog) w 9 22 5 s Try.underlying9 Try.underlying22 Try.underlying5
  obtain ⟨W, hW⟩ : ∃ W, W = Lib.bytesWorld w 5 s := ⟨_, rfl⟩
  have hnew := Lib.bytesWorld_at_new w 5 s
  have hB : Below w.heap.size w W := by
    rw [hW]
    exact ⟨rfl, rfl, rfl, by rw [Lib.bytesWorld_size]; omega, fun k hk => Lib.bytesWorld_at_old w 5 s k hk⟩
  have hO : OwnL W w.heap.size (.slice (some ⟨w.heap.size, 0, none⟩) s.size (grownCap w s.size 0 5)) s.data.toList := by
    rw [hW]
    have hge := grownCap_ge w s.size 0 5
    have hle := grownCap_le_maxLen w s.size 0 5 (by unfold maxLen; omega)
    have hsz : (Lib.bytesCells w 5 s).size = grownCap w s.size 0 5 := by
      simp only [Lib.bytesCells, Array.size_append, Array.size_map, Array.size_replicate]
      show s.size + _ = _
      omega
    refine ⟨w.heap.size, _, _, _, rfl, Nat.le_refl _, hnew, .inr (by rw [hsz]; exact Nat.le_refl _), hge, hle, hsz, fun i hi => ?_⟩
    have hc := Lib.bytesWorld_cell w 5 s i hi
    rw [row_cell hnew] at hc
    exact hc
  rw [← hW] at hcv
  have HO : Hid (OwnL W w.heap.size (.slice (some ⟨w.heap.size, 0, none⟩) s.size (grownCap w s.size 0 5)) s.data.toList) := hO
  clear hO hnew hW
  generalize grownCap w s.size 0 5 = cc at *
  go_enter Try.func45, Try.ntmps45
  go_wp2_with fail
  refine (appendNumber4 _ s.data.toList n w.heap.size W HO.out hs hB.size).mono ?_
  rintro e w1 ⟨v1, rfl, ho1, hb1⟩
  have hb := hB.trans hb1
  obtain ⟨g, m, c, rfl, HN, hg, HR⟩ := ho1.open
  have hcv2 := conv_n w1 g 0 c m _ HR.out HN
  clear ho1 hb1 HO hcv hB HR HN
  obtain ⟨T, hT⟩ : ∃ T, tx (s.data.toList ++ num4 n) = T := ⟨_, rfl⟩
  have HT : Hid (tx (s.data.toList ++ num4 n) = T) := hT
  rw [hT] at hcv2
  clear hT
  go_wp2
  go_ret
  exact ⟨ret_val (congrArg Value.string HT.out.symm), hb⟩
end Go.Proofs.Ytbnnplelbbcanaa
