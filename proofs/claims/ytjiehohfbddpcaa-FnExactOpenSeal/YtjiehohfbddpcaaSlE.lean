/- What both SealBytes answer, whole. -/
import Derived.Test.YtjiehohfbddpcaaSlD
namespace Go.Proofs.Ytjiehohfbddpcaa
open Go.RowKit

theorem run_app_n {w : World} {B : Nat} {v : Value} {l : List UInt8} (ty : TypeId) (b off c n : Nat) (m : List UInt8) (h : OwnL w B v l) (hx : ReadL w (some ⟨b, off, none⟩) m) (hl : Hid (m.length = n)) (hn : l.length + n ≤ 1000000) (hB : B ≤ w.heap.size) :
    ∃ v' w', (Builtin.append_ #[22, 22] ty #[v, .slice (some ⟨b, off, none⟩) n c]).run Try.prog w = .ok v' w' ∧ OwnL w' B v' (l ++ m) ∧ w.grownBy w' v.ownBlock := by
  have e := hl.out
  subst e
  exact run_app_bytes ty b off c m h hx hn hB

theorem low_any (n : Int) (w : World) : Calls Try.prog 23 #[.int .i64 n] w fun e w' => ∃ v, e = .returned v ∧ OwnL w' w.heap.size v (low4 n) ∧ Below w.heap.size w w' := by
  have HO : Hid (OwnL (w.alloc (.cells #[.int .u8 (n % 256), .int .u8 (n / 256 % 256), .int .u8 (n / 65536 % 256), .int .u8 (n / 16777216 % 256)] 5)) w.heap.size (.slice (some ⟨w.heap.size, 0, none⟩) 4 4) (low4 n)) :=
    OwnL.made w w.heap.size (low4 n) _ (Nat.le_refl _) (by simp [cellsU, low4, b8_nat]) (by unfold maxLen; show 4 ≤ _; omega)
  go_enter Try.func23, Try.ntmps23
  go_wp2
  go_ret
  exact ⟨_, rfl, HO.out, (Below.refl _ _).alloc (Nat.le_refl _) _⟩

set_option maxRecDepth 100000 in
set_option maxHeartbeats 4000000 in
theorem l16Seal_any (b off c n : Nat) (l : List UInt8) (w : World) (h : ReadL w (some ⟨b, off, none⟩) l) (hl : Hid (l.length = n)) (hn : n ≤ 65526) :
    Calls Try.prog 13 #[.slice (some ⟨b, off, none⟩) n c] w fun e w' => ∃ v', e = .returned v' ∧ OwnL w' w.heap.size v' (sealL l) ∧ Below w.heap.size w w' := by
  have HR : Hid (ReadL w (some ⟨b, off, none⟩) l) := h
  have hcv := bk_run w w.heap.size rfl
  obtain ⟨w2, hw2⟩ : ∃ w2, w.alloc (.cells bkC 5 (2, 3)) = w2 := ⟨_, rfl⟩
  have O2 : Hid (OwnL w2 w.heap.size (.slice (some ⟨w.heap.size, 0, none⟩) 2 2) [66, 75]) := by rw [← hw2]; exact bk_own w _ (Nat.le_refl _)
  have B2 : Hid (Below w.heap.size w w2) := by rw [← hw2]; exact (Below.refl _ _).alloc (Nat.le_refl _) _
  rw [hw2] at hcv
  clear h hw2
  have HL0 : Hid ((sealB l).length = n + 6) := by show _ = _; rw [sealB_len, hl.out]
  go_enter Try.func13, Try.ntmps13
  go_wp2_with fail
  refine (l03Four_any n w2).mono ?_
  rintro e w3 ⟨v3, rfl, o3, b3⟩
  have O2' := O2.out.below b3
  have B3 := B2.out.trans (b3.mono B2.out.size)
  obtain ⟨g3, n3, c3, rfl, HN3, _, HR3⟩ := o3.open
  have hn3 : n3 = 4 := by rw [← HN3.out, num4_len]
  obtain ⟨v4, w4, hr4, o4, hg4⟩ := run_app_n 22 g3 0 c3 n3 _ O2' HR3.out HN3 (by rw [hn3]; show 2 + 4 ≤ _; omega) B3.size
  have B4 := O2'.grown hg4 B3 (Nat.le_refl _) B3.size
  obtain ⟨v5, w5, hr5, o5, hg5⟩ := run_app_n 22 b off c n l o4 (HR.out.below B4) hl (by rw [List.length_append, num4_len]; show 2 + 4 + n ≤ _; omega) B4.size
  have B5 : Hid (Below w.heap.size w w5) := o4.grown hg5 B4 (Nat.le_refl _) B4.size
  have e5 : [66, 75] ++ num4 n ++ l = sealB l := by unfold sealB; rw [hl.out]
  rw [e5] at o5
  obtain ⟨g4, n4, c4, rfl, _, _, _⟩ := o4.open
  have O5 : Hid (OwnL w5 w.heap.size v5 (sealB l)) := o5
  obtain ⟨g5, n5, c5, rfl, HN5, _, HR5⟩ := o5.open
  have hn5 : Hid (n5 = n + 6) := by show _ = _; rw [← HN5.out, HL0.out]
  clear o3 O2' B3 O2 B2 b3 hg4 B4 o4 hg5 o5 e5 hn3
  go_wp2_with (at_builtin; first | refine Lib.wpList_append_run _ rfl _ _ _ _ rfl _ _ rfl rfl _ _ hr4 ?_ | refine Lib.wpList_append_run _ rfl _ _ _ _ rfl _ _ rfl rfl _ _ hr5 ?_)
  refine (specSum_n (some ⟨g5, 0, none⟩) c5 n5 _ w5 HR5.out HN5 (by have := hn5.out; omega)).mono ?_
  rintro e w6 ⟨rfl, rfl⟩
  obtain ⟨x, hx⟩ : ∃ x : Int, ((sumL (sealB l) : Nat) : Int) = x := ⟨_, rfl⟩
  have HX : Hid (((sumL (sealB l) : Nat) : Int) = x) := hx
  rw [hx]
  clear hx hr4 hr5
  go_wp2_with fail
  refine (low_any x w6).mono ?_
  rintro e w7 ⟨v7, rfl, o7, b7⟩
  have O7 := O5.out.below b7
  have B7 := B5.out.trans (b7.mono B5.out.size)
  obtain ⟨g7, n7, c7, rfl, HN7, _, HR7⟩ := o7.open
  obtain ⟨v8, w8, hr8, o8, hg8⟩ := run_app_n 22 g7 0 c7 n7 _ O7 HR7.out HN7 (by rw [← HN7.out, low4_len, HL0.out]; omega) B7.size
  have B8 : Hid (Below w.heap.size w w8) := O7.grown hg8 B7 (Nat.le_refl _) B7.size
  have O8 : Hid (OwnL w8 w.heap.size v8 (sealL l)) := by
    have e : sealB l ++ low4 x = sealL l := by unfold sealL; rw [HX.out]
    rw [e] at o8
    exact o8
  clear o7 O7 B7 b7 o8 hg8 O5 B5
  go_wp2_with (at_builtin; refine Lib.wpList_append_run _ rfl _ _ _ _ rfl _ _ rfl rfl _ _ hr8 ?_)
  go_ret
  exact ⟨v8, by simp, O8.out, B8.out⟩

/-- A list of bytes that a call built, or none. -/
def OwnZ (w : World) (B : Nat) (v : Value) (l : List UInt8) : Prop := OwnL w B v l ∨ (l = [] ∧ ∃ a, v = .slice a 0 0)
def sealA (l : List UInt8) : List UInt8 := if 65526 < l.length then [] else sealL l
def sealC (l : List UInt8) : Int := if 65526 < l.length then 2 else 0

set_option maxRecDepth 100000 in
theorem specSeal_any (b off c n : Nat) (l : List UInt8) (w : World) (h : ReadL w (some ⟨b, off, none⟩) l) (hl : Hid (l.length = n)) (hn : n ≤ 1048576) :
    Calls Try.prog 5 #[.slice (some ⟨b, off, none⟩) n c] w fun e w' => ∃ v', e = .returned (.tuple #[v', .int .i64 (sealC l)]) ∧ OwnZ w' w.heap.size v' (sealA l) ∧ Below w.heap.size w w' := by
  by_cases hc : 65526 < n
  · have HA : Hid (sealA l = [] ∧ sealC l = 2) := by unfold sealA sealC; rw [hl.out, if_pos hc, if_pos hc]; exact ⟨rfl, rfl⟩
    rw [HA.out.1, HA.out.2]
    have hcI : (65526 : Int) < (n : Int) := by omega
    clear h
    go_enter Try.func5, Try.ntmps5
    go_wp2
    exact bodyPost_ret (by simp [results, Try.results5, go_sem]; rfl) rfl ⟨_, rfl, .inr ⟨rfl, _, rfl⟩, (Below.refl _ _).alloc (Nat.le_refl _) _⟩
  · have HA : Hid (sealA l = sealL l ∧ sealC l = 0) := by unfold sealA sealC; rw [hl.out, if_neg hc, if_neg hc]; exact ⟨rfl, rfl⟩
    rw [HA.out.1, HA.out.2]
    have hcI : ¬ (65526 : Int) < (n : Int) := by omega
    go_enter Try.func5, Try.ntmps5
    go_wp2_with fail
    refine (l16Seal_any b off c n l w h hl (by omega)).mono ?_
    rintro e w1 ⟨v1, rfl, o1, b1⟩
    have O1 : Hid (OwnL w1 w.heap.size v1 (sealL l)) := o1
    clear o1 h
    go_wp2
    exact bodyPost_ret (v := .tuple #[v1, .int .i64 0]) (by simp [results, Try.results5, go_sem]) rfl ⟨v1, rfl, .inl O1.out, b1⟩
set_option maxRecDepth 100000 in
theorem implSeal_all (b off c n : Nat) (l : List UInt8) (w : World) (h : ReadL w (some ⟨b, off, none⟩) l) (hl : Hid (l.length = n)) (hn : n ≤ 1048576) :
    Calls Try.prog 7 #[.slice (some ⟨b, off, none⟩) n c] w fun e w' => ∃ v', e = .returned (.tuple #[v', .int .i64 (sealC l)]) ∧ OwnZ w' w.heap.size v' (sealA l) ∧ Below w.heap.size w w' := by
  by_cases hc : 65526 < n
  · have HA : Hid (sealA l = [] ∧ sealC l = 2) := by unfold sealA sealC; rw [hl.out, if_pos hc, if_pos hc]; exact ⟨rfl, rfl⟩
    rw [HA.out.1, HA.out.2]
    have hcI : (65526 : Int) < (n : Int) := by omega
    clear h
    go_enter Try.func7, Try.ntmps7
    go_wp2
    exact bodyPost_ret (v := .tuple #[.slice none 0 0, .int .i64 2]) (by simp [results, Try.results7, go_sem]) rfl ⟨_, rfl, .inr ⟨rfl, _, rfl⟩, Below.refl _ _⟩
  · have HA : Hid (sealA l = sealL l ∧ sealC l = 0) := by unfold sealA sealC; rw [hl.out, if_neg hc, if_neg hc]; exact ⟨rfl, rfl⟩
    rw [HA.out.1, HA.out.2]
    exact (implSeal_any b off c n l w h hl (by omega)).mono fun e w' ⟨v', he, ho, hb⟩ => ⟨v', he, .inl ho, hb⟩
end Go.Proofs.Ytjiehohfbddpcaa
