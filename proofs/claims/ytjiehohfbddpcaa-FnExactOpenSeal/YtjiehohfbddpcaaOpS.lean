/- The law on OpenSeal. -/
import Derived.Test.YtjiehohfbddpcaaSlL
import Derived.Test.YtjiehohfbddpcaaOpE
namespace Go.Proofs.Ytjiehohfbddpcaa
open Go.RowKit

theorem opL_len (l : List UInt8) (h : l.length ≤ 1048576) : (opL l).length ≤ 1048576 := by
  unfold opL
  repeat' split
  all_goals first | exact Nat.zero_le _ | (rw [List.length_take, List.length_drop]; omega)
set_option maxRecDepth 100000 in
set_option maxHeartbeats 4000000 in
theorem lawOpen (a : Option Addr) (cap n : Nat) (l : List UInt8) (w : World) (h : ReadL w a l) (hl : Hid (l.length = n)) (hm : n ≤ maxLen) :
    Calls Try.prog 4 #[.slice a n cap] w fun e w' => e = .returned (.bool true) ∧ Below w.heap.size w w' := by
  have H0 : Hid (ReadU w.heap.size w a l) := ReadU.of h
  clear h
  unfold maxLen at hm
  by_cases hx : 1048576 < n
  · have hxI : (1048576 : Int) < (n : Int) := by omega
    go_enter Try.func4, Try.ntmps4
    go_wp2
    go_ret
    exact ⟨rfl, Below.refl _ _⟩
  have hxI : ¬ (1048576 : Int) < (n : Int) := by omega
  have HN : Hid (n ≤ 1048576) := by show _ ≤ _; omega
  clear hx hm
  go_enter Try.func4, Try.ntmps4
  go_wp2_with fail
  refine (toB_n a cap n l w (H0.out.read (Nat.le_refl _)) hl HN.out).mono ?_
  rintro e w1 ⟨g1, rfl, O1, B1⟩
  have B1 : Hid (Below w.heap.size w w1) := B1
  have R1 : Hid (ReadL w1 (some ⟨g1, 0, none⟩) l) := OwnZ.read (.inl O1)
  clear O1
  go_wp2_with fail
  refine (specOpen_all g1 0 n l w1 R1.out hl HN.out).mono ?_
  rintro e w2 ⟨v2, rfl, Z2, b2⟩
  have B2 : Hid (Below w.heap.size w w2) := below_step B1.out (Nat.le_refl _) b2
  obtain ⟨a2, n2, c2, rfl, N2, R2'⟩ := Z2.open
  have R2 : Hid (ReadU w2.heap.size w2 a2 (opL l)) := ReadU.of R2'.out
  have HN2 : Hid (n2 ≤ 1048576) := by show _ ≤ _; rw [← N2.out]; exact opL_len l (by rw [hl.out]; exact HN.out)
  clear Z2 b2 B1 R1 R2'
  obtain ⟨cc, hcc⟩ : ∃ cc, opC l = cc := ⟨_, rfl⟩
  have HC : Hid (opC l = cc) := hcc
  rw [hcc]
  clear hcc
  go_wp2_with fail
  refine (toB_n a cap n l w2 ((H0.out.keep B2.out).read B2.out.size) hl HN.out).mono ?_
  rintro e w3 ⟨g3, rfl, O3, b3⟩
  have B3 : Hid (Below w.heap.size w w3) := below_step B2.out (Nat.le_refl _) b3
  have R3 : Hid (ReadU w2.heap.size w3 a2 (opL l)) := R2.out.keep b3
  have S3 : Hid (w2.heap.size ≤ w3.heap.size) := b3.size
  have O3 : Hid (OwnL w3 w2.heap.size (.slice (some ⟨g3, 0, none⟩) n n) l) := O3
  have G3 : Hid (w2.heap.size ≤ g3 ∧ g3 < w3.heap.size) := by
    obtain ⟨q, _, _, _, e, hq, hh, _⟩ := O3.out
    cases e
    exact ⟨hq, slab_lt hh⟩
  have hw2 : Hid (w.heap.size ≤ w2.heap.size) := B2.out.size
  clear b3 B2 R2
  go_wp2_with fail
  refine (implOpen_all g3 0 n l w3 (OwnZ.read (.inl O3.out)) hl HN.out).mono ?_
  rintro e w4 ⟨v4, rfl, Z4, b4⟩
  rw [HC.out]
  have B4 : Hid (Below w.heap.size w w4) := below_step B3.out (Nat.le_refl _) b4
  have R4 : Hid (ReadU w2.heap.size w4 a2 (opL l)) := R3.out.keep (b4.mono S3.out)
  have O4 : Hid (OwnL w4 w2.heap.size (.slice (some ⟨g3, 0, none⟩) n n) l) := O3.out.below b4
  have S4 : Hid (w3.heap.size ≤ w4.heap.size ∧ w2.heap.size ≤ w4.heap.size) := ⟨b4.size, Nat.le_trans S3.out b4.size⟩
  obtain ⟨a4, n4, c4, rfl, N4, _⟩ := Z4.open
  obtain rfl : n4 = n2 := by rw [← N4.out, ← N2.out]
  have Z4 : Hid (OwnZ w4 w3.heap.size (.slice a4 n4 c4) (opL l)) := Z4
  clear b4 B3 R3 O3
  go_wp2_with fail
  refine (eqB_n a4 a2 c4 c2 n4 (opL l) w4 Z4.out.read (R4.out.read S4.out.2) N2 HN2.out).mono ?_
  rintro e w5 ⟨rfl, b5⟩
  have B5 : Hid (Below w.heap.size w w5) := below_step B4.out (Nat.le_refl _) b5
  have R5 : Hid (ReadU w2.heap.size w5 a2 (opL l)) := R4.out.keep (b5.mono S4.out.2)
  have O5 : Hid (OwnL w5 w2.heap.size (.slice (some ⟨g3, 0, none⟩) n n) l) := O4.out.below b5
  have Z5 : Hid (OwnZ w5 w3.heap.size (.slice a4 n4 c4) (opL l)) := Z4.out.below b5
  have S5 : Hid (w3.heap.size ≤ w5.heap.size ∧ w2.heap.size ≤ w5.heap.size) := ⟨Nat.le_trans S4.out.1 b5.size, Nat.le_trans S4.out.2 b5.size⟩
  clear b5 B4 R4 O4 Z4 S4
  go_wp2_with fail
  refine (toB_n a cap n l w5 ((H0.out.keep B5.out).read B5.out.size) hl HN.out).mono ?_
  rintro e w6 ⟨g6, rfl, O6', b6⟩
  have B6 : Hid (Below w.heap.size w w6) := below_step B5.out (Nat.le_refl _) b6
  have R6 : Hid (ReadU w2.heap.size w6 a2 (opL l)) := R5.out.keep (b6.mono S5.out.2)
  have O6 : Hid (OwnL w6 w2.heap.size (.slice (some ⟨g3, 0, none⟩) n n) l) := O5.out.below b6
  have Z6 : Hid (OwnZ w6 w3.heap.size (.slice a4 n4 c4) (opL l)) := Z5.out.below b6
  have S6 : Hid (w3.heap.size ≤ w6.heap.size ∧ w2.heap.size ≤ w6.heap.size) := ⟨Nat.le_trans S5.out.1 b6.size, Nat.le_trans S5.out.2 b6.size⟩
  have E6 : Hid (ReadL w6 (some ⟨g6, 0, none⟩) l) := OwnZ.read (.inl O6')
  clear b6 B5 R5 O5 Z5 S5 O6'
  go_wp2_with fail
  refine (eqB_n (some ⟨g3, 0, none⟩) (some ⟨g6, 0, none⟩) n n n l w6 (OwnZ.read (.inl O6.out)) E6.out hl HN.out).mono ?_
  rintro e w7 ⟨rfl, b7⟩
  have B7 : Hid (Below w.heap.size w w7) := below_step B6.out (Nat.le_refl _) b7
  have R7 : Hid (ReadU w2.heap.size w7 a2 (opL l)) := R6.out.keep (b7.mono S6.out.2)
  have O7 : Hid (OwnL w7 w2.heap.size (.slice (some ⟨g3, 0, none⟩) n n) l) := O6.out.below b7
  have Z7 : Hid (OwnZ w7 w3.heap.size (.slice a4 n4 c4) (opL l)) := Z6.out.below b7
  have S7 : Hid (w3.heap.size ≤ w7.heap.size ∧ w2.heap.size ≤ w7.heap.size) := ⟨Nat.le_trans S6.out.1 b7.size, Nat.le_trans S6.out.2 b7.size⟩
  clear b7 B6 R6 O6 Z6 S6 E6
  go_wp2_with fail
  refine (mark_own g3 n n w2.heap.size l w7 O7.out HN.out).mono ?_
  rintro e w8 ⟨rfl, _, u8⟩
  have b8 : Below w2.heap.size w7 w8 := u8.below (Below.refl _ _) G3.out.1 S7.out.2
  have B8 : Hid (Below w.heap.size w w8) := B7.out.trans (b8.mono hw2.out)
  have R8 : Hid (ReadU w2.heap.size w8 a2 (opL l)) := R7.out.keep b8
  have Z8 : Hid (OwnZ w8 w3.heap.size (.slice a4 n4 c4) (opL l)) := Z7.out.but u8 G3.out.2
  have S8 : Hid (w3.heap.size ≤ w8.heap.size ∧ w2.heap.size ≤ w8.heap.size) := ⟨Nat.le_trans S7.out.1 b8.size, Nat.le_trans S7.out.2 b8.size⟩
  have hk : ¬ (1 + (n : Int) < 0) := by omega
  clear b8 u8 B7 R7 O7 Z7 S7
  go_wp2_with fail
  refine (eqB_n a4 a2 c4 c2 n4 (opL l) w8 Z8.out.read (R8.out.read S8.out.2) N2 HN2.out).mono ?_
  rintro e w9 ⟨rfl, b9⟩
  have B9 : Hid (Below w.heap.size w w9) := below_step B8.out (Nat.le_refl _) b9
  have R9 : Hid (ReadU w2.heap.size w9 a2 (opL l)) := R8.out.keep (b9.mono S8.out.2)
  have Z9 : Hid (OwnZ w9 w3.heap.size (.slice a4 n4 c4) (opL l)) := Z8.out.below b9
  have S9 : Hid (w3.heap.size ≤ w9.heap.size ∧ w2.heap.size ≤ w9.heap.size) := ⟨Nat.le_trans S8.out.1 b9.size, Nat.le_trans S8.out.2 b9.size⟩
  clear b9 B8 R8 Z8 S8 hk
  go_wp2_with fail
  refine (mark_z a4 n4 c4 w3.heap.size (opL l) w9 Z9.out HN2.out S9.out.1).mono ?_
  rintro e w10 ⟨rfl, M10, b10⟩
  have B10 : Hid (Below w.heap.size w w10) := B9.out.trans (b10.mono (Nat.le_trans hw2.out S3.out))
  have R10 : Hid (ReadU w2.heap.size w10 a2 (opL l)) := R9.out.keep (b10.mono S3.out)
  have M10 : Hid (OwnZ w10 w3.heap.size (.slice a4 n4 c4) (markU 1 n4)) := M10
  have S10 : Hid (w2.heap.size ≤ w10.heap.size) := Nat.le_trans S9.out.2 b10.size
  clear b10 B9 R9 Z9 S9
  have hq : ¬ (1 + (n4 : Int) < 0) := by omega
  go_wp2_with fail
  refine (held_any a4 c4 n4 w10 M10.out.read HN2.out).mono ?_
  rintro e w10' ⟨rfl, e10⟩
  obtain rfl := e10.symm
  clear e10
  go_wp2_with fail
  refine (toB_n a cap n l w10 ((H0.out.keep B10.out).read B10.out.size) hl HN.out).mono ?_
  rintro e w11 ⟨g11, rfl, O11, b11⟩
  have B11 : Hid (Below w.heap.size w w11) := below_step B10.out (Nat.le_refl _) b11
  have R11 : Hid (ReadU w2.heap.size w11 a2 (opL l)) := R10.out.keep (b11.mono S10.out)
  have M11 : Hid (OwnZ w11 w3.heap.size (.slice a4 n4 c4) (markU 1 n4)) := M10.out.below b11
  have S11 : Hid (w2.heap.size ≤ w11.heap.size) := Nat.le_trans S10.out b11.size
  have E11 : Hid (ReadL w11 (some ⟨g11, 0, none⟩) l) := OwnZ.read (.inl O11)
  clear b11 B10 R10 M10 S10 O11
  go_wp2_with fail
  refine (implOpen_all g11 0 n l w11 E11.out hl HN.out).mono ?_
  rintro e w12 ⟨v12, rfl, Z12, b12⟩
  rw [HC.out]
  have B12 : Hid (Below w.heap.size w w12) := below_step B11.out (Nat.le_refl _) b12
  have R12 : Hid (ReadU w2.heap.size w12 a2 (opL l)) := R11.out.keep (b12.mono S11.out)
  have M12 : Hid (OwnZ w12 w3.heap.size (.slice a4 n4 c4) (markU 1 n4)) := M11.out.below b12
  have S12 : Hid (w2.heap.size ≤ w12.heap.size) := Nat.le_trans S11.out b12.size
  obtain ⟨a12, n12, c12, rfl, N12, R12'⟩ := Z12.open
  obtain rfl : n12 = n4 := by rw [← N12.out, ← N4.out]
  clear b12 B11 R11 M11 S11 E11 Z12
  go_wp2_with fail
  refine (eqB_n a12 a2 c12 c2 n12 (opL l) w12 R12'.out (R12.out.read S12.out) N2 HN2.out).mono ?_
  rintro e w13 ⟨rfl, b13⟩
  have B13 : Hid (Below w.heap.size w w13) := below_step B12.out (Nat.le_refl _) b13
  have M13 : Hid (OwnZ w13 w3.heap.size (.slice a4 n12 c4) (markU 1 n12)) := M12.out.below b13
  clear b13 B12 R12 M12 S12
  go_wp2_with fail
  refine (held_any a4 c4 n12 w13 M13.out.read HN2.out).mono ?_
  rintro e w13' ⟨rfl, e13⟩
  obtain rfl := e13.symm
  clear e13
  go_wp2_with fail
  go_ret
  exact ⟨rfl, B13.out⟩
end Go.Proofs.Ytjiehohfbddpcaa
