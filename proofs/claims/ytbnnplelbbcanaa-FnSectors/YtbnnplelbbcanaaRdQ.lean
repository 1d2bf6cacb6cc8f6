/- What both ReadPage answer. -/
import Derived.Test.YtbnnplelbbcanaaRdP
namespace Go.Proofs.Ytbnnplelbbcanaa
open Go.RowKit

abbrev StB (w w' : World) : Prop := Below w.heap.size w w'
theorem l03PageSum_x (page epoch : Int) (s : ByteArray) (x : Nat) (w : World) (hs : s.size ≤ 1000) (hx : psum page epoch s.data.toList = x) :
    Calls Try.prog 47 #[.int .i64 page, .int .i64 epoch, .string s] w fun e w' => e = .returned (.int .i64 x) ∧ Below w.heap.size w w' := by
  subst hx
  exact l03PageSum_any page epoch s w hs
theorem sumOfPage_x (page epoch : Int) (s : ByteArray) (x : Nat) (w : World) (hs : s.size ≤ 1000) (hx : psum page epoch s.data.toList = x) :
    Calls Try.prog 33 #[.int .i64 page, .int .i64 epoch, .string s] w fun e w' => e = .returned (.int .i64 x) ∧ Below w.heap.size w w' := by
  subst hx
  exact sumOfPage_any page epoch s w hs
theorem l03Of_x (s : ByteArray) (x : Nat) (w : World) (hs : s.size ≤ 4) (hx : numOf s.data.toList = x) :
    Calls Try.prog 49 #[.string s] w fun e w' => e = .returned (.int .i64 x) ∧ w' = w := by
  subst hx
  exact l03Of_any s w hs
theorem numberOf_x (s : ByteArray) (x : Nat) (w : World) (hs : s.size ≤ 4) (hx : numOf s.data.toList = x) :
    Calls Try.prog 34 #[.string s] w fun e w' => e = .returned (.int .i64 x) ∧ w' = w := by
  subst hx
  exact numberOf_any s w hs
theorem ext_size (s : ByteArray) (i j : Nat) (h : s.size = 32) (hj : j ≤ 32) : (s.extract i j).size = j - i := by
  rw [ByteArray.size_extract]; omega

/-- The sum of a sector's page is right. -/
def sumB (page epoch : Int) (s : ByteArray) : Bool := psum page epoch (s.extract 0 28).data.toList == numOf (s.extract 28 32).data.toList

/-- What a sector's page tells. -/
def l3V (page epoch : Int) (s : ByteArray) : Value := if sumB page epoch s = true then .tuple #[.int .i64 (byU s.data.toList 0), .string (s.extract 1 28), .bool true] else .tuple #[.int .i64 0, .string ⟨#[]⟩, .bool false]
theorem wrap_byte (c : UInt8) : wrap64 (c.toNat : Int) = (c.toNat : Int) := by
  have := c.toNat_lt
  unfold wrap64
  omega

set_option maxRecDepth 100000 in
set_option maxHeartbeats 2000000 in
theorem l03Read_any (page epoch : Int) (s : ByteArray) (w : World) (hs : s.size = 32) :
    Calls Try.prog 39 #[.int .i64 page, .int .i64 epoch, .string s] w fun e w' => e = .returned (l3V page epoch s) ∧ Below w.heap.size w w' := by
  have HB0 : Hid (Below w.heap.size w w.drew) := below_drewN (Below.refl _ _) 1
  obtain ⟨x, hx⟩ : ∃ x, psum page epoch (s.extract 0 28).data.toList = x := ⟨_, rfl⟩
  obtain ⟨y, hy⟩ : ∃ y, numOf (s.extract 28 32).data.toList = y := ⟨_, rfl⟩
  have HX : Hid (psum page epoch (s.extract 0 28).data.toList = x) := hx
  have HY : Hid (numOf (s.extract 28 32).data.toList = y) := hy
  have HS1 : Hid ((s.extract 0 28).size ≤ 1000) := by show _ ≤ _; rw [ext_size s 0 28 hs (by omega)]; omega
  have HS2 : Hid ((s.extract 28 32).size ≤ 4) := by show _ ≤ _; rw [ext_size s 28 32 hs (by omega)]; omega
  have HE : Hid (sumB page epoch s = (x == y)) := by show _ = _; unfold sumB; rw [hx, hy]
  have HG : Hid (byU s.data.toList 0 = wrap64 ((s[0]'(by omega)).toNat : Int)) := by show _ = _; rw [wrap_byte]; unfold byU; rw [getB s 0 (by omega)]
  clear hx hy
  by_cases hxy : x = y
  · have E : Hid (l3V page epoch s = .tuple #[.int .i64 (byU s.data.toList 0), .string (s.extract 1 28), .bool true]) := by
      show _ = _; unfold l3V; rw [if_pos (by rw [HE.out]; simpa using hxy)]
    subst hxy
    clear HE
    go_enter Try.func39, Try.ntmps39
    go_wp2_with fail
    go_region_held3 (StB w) (first | exact HB0.out | exact below_step HB0.out (Nat.le_refl _) hb | assumption) (first | (go_at_call 47; refine (l03PageSum_x _ _ _ x _ HS1.out HX.out).mono ?_; rintro e w' ⟨rfl, hb⟩) | (go_at_call 49; refine (l03Of_x _ x _ HS2.out HY.out).mono ?_; rintro e w' ⟨rfl, rfl⟩))
    have hB := below_step HB0.out (Nat.le_refl _) hb
    clear hb HX HY
    go_wp2_with fail
    go_quiet (fail)
    go_wp2
    go_ret3
    rw [E.out, HG.out]
    exact ⟨rfl, below_drewN hB _⟩
  · have E : Hid (l3V page epoch s = .tuple #[.int .i64 0, .string ⟨#[]⟩, .bool false]) := by
      show _ = _; unfold l3V; rw [if_neg (by rw [HE.out]; simpa using hxy)]
    have hxyI : ¬ ((x : Int) = (y : Int)) := by omega
    clear HE
    go_enter Try.func39, Try.ntmps39
    go_wp2_with fail
    go_region_held3 (StB w) (first | exact HB0.out | exact below_step HB0.out (Nat.le_refl _) hb | assumption) (first | (go_at_call 47; refine (l03PageSum_x _ _ _ x _ HS1.out HX.out).mono ?_; rintro e w' ⟨rfl, hb⟩) | (go_at_call 49; refine (l03Of_x _ y _ HS2.out HY.out).mono ?_; rintro e w' ⟨rfl, rfl⟩))
    have hB := below_step HB0.out (Nat.le_refl _) hb
    clear hb HX HY
    go_wp2
    go_ret3
    rw [E.out]
    exact ⟨rfl, hB⟩

abbrev T3 (n : Int) (t : ByteArray) (c : Int) : Value := .tuple #[.int .i64 n, .string t, .int .i64 c]
/-- What ReadPage answers. -/
def readV (page epoch : Int) (s : ByteArray) : Value :=
  if 65536 < s.size then T3 0 ⟨#[]⟩ 2
  else if (inB page 2 255 && inB epoch 1 4294967295) = false then T3 0 ⟨#[]⟩ 4
  else if s.size ≠ 32 then T3 0 ⟨#[]⟩ 1
  else if sumB page epoch s = true then T3 (byU s.data.toList 0) (s.extract 1 28) 0 else T3 0 ⟨#[]⟩ 8
theorem readV_ok {page epoch : Int} {s : ByteArray} (h0 : ¬ 65536 < s.size) (h1 : inB page 2 255 = true) (h2 : inB epoch 1 4294967295 = true) (h3 : s.size = 32) :
    readV page epoch s = if sumB page epoch s = true then T3 (byU s.data.toList 0) (s.extract 1 28) 0 else T3 0 ⟨#[]⟩ 8 := by
  unfold readV
  rw [if_neg h0, h1, h2, if_neg (by simp), if_neg (by simpa using h3)]

set_option maxRecDepth 100000 in
set_option maxHeartbeats 4000000 in
theorem specReadPage_any (page epoch : Int) (s : ByteArray) (w : World) (hm : s.size ≤ maxLen) :
    Calls Try.prog 20 #[.int .i64 page, .int .i64 epoch, .string s] w fun e w' => e = .returned (readV page epoch s) ∧ Below w.heap.size w w' := by
  unfold maxLen at hm
  by_cases h0 : 65536 < s.size
  · have E : Hid (readV page epoch s = T3 0 ⟨#[]⟩ 2) := by show _ = _; unfold readV; rw [if_pos h0]
    have h0I : (65536 : Int) < (s.size : Int) := by omega
    go_enter Try.func20, Try.ntmps20
    go_wp2_with (go_at_call 30; refine (l03Numbers_any _ _ _).mono ?_; rintro e w' ⟨rfl, rfl⟩)
    go_ret3
    rw [E.out]
    exact ⟨rfl, Below.refl _ _⟩
  have h0I : ¬ (65536 : Int) < (s.size : Int) := by omega
  cases h1 : inB page 2 255
  · have E : Hid (readV page epoch s = T3 0 ⟨#[]⟩ 4) := by show _ = _; unfold readV; rw [if_neg h0, h1]; rfl
    go_enter Try.func20, Try.ntmps20
    go_wp2_with (go_at_call 30; refine (l03Numbers_any _ _ _).mono ?_; rintro e w' ⟨rfl, rfl⟩)
    go_ret3
    rw [E.out]
    exact ⟨rfl, Below.refl _ _⟩
  cases h2 : inB epoch 1 4294967295
  · have E : Hid (readV page epoch s = T3 0 ⟨#[]⟩ 4) := by show _ = _; unfold readV; rw [if_neg h0, h1, h2]; rfl
    go_enter Try.func20, Try.ntmps20
    go_wp2_with (go_at_call 30; refine (l03Numbers_any _ _ _).mono ?_; rintro e w' ⟨rfl, rfl⟩)
    go_ret3
    rw [E.out]
    exact ⟨rfl, Below.refl _ _⟩
  by_cases h3 : s.size = 32
  case neg =>
    have E : Hid (readV page epoch s = T3 0 ⟨#[]⟩ 1) := by show _ = _; unfold readV; rw [if_neg h0, h1, h2, if_neg (by simp), if_pos h3]
    have h3I : ¬ ((s.size : Int) = 32) := by omega
    go_enter Try.func20, Try.ntmps20
    go_wp2_with (go_at_call 30; refine (l03Numbers_any _ _ _).mono ?_; rintro e w' ⟨rfl, rfl⟩)
    go_ret3
    rw [E.out]
    exact ⟨rfl, Below.refl _ _⟩
  have HE : Hid (readV page epoch s = if sumB page epoch s = true then T3 (byU s.data.toList 0) (s.extract 1 28) 0 else T3 0 ⟨#[]⟩ 8) := readV_ok h0 h1 h2 h3
  cases h4 : sumB page epoch s
  · have E : Hid (readV page epoch s = T3 0 ⟨#[]⟩ 8) := by show _ = _; rw [HE.out, h4]; rfl
    have HL : Hid (l3V page epoch s = .tuple #[.int .i64 0, .string ⟨#[]⟩, .bool false]) := by show _ = _; unfold l3V; rw [h4]; rfl
    clear HE h4
    go_enter Try.func20, Try.ntmps20
    go_wp2_with (go_at_call 30; refine (l03Numbers_any _ _ _).mono ?_; rintro e w' ⟨rfl, rfl⟩)
    refine (l03Read_any page epoch s _ h3).mono ?_
    rw [HL.out]
    rintro e w1 ⟨rfl, hb⟩
    go_wp2
    go_ret3
    rw [E.out]
    exact ⟨rfl, hb⟩
  · have E : Hid (readV page epoch s = T3 (byU s.data.toList 0) (s.extract 1 28) 0) := by show _ = _; rw [HE.out, h4]; rfl
    have HL : Hid (l3V page epoch s = .tuple #[.int .i64 (byU s.data.toList 0), .string (s.extract 1 28), .bool true]) := by show _ = _; unfold l3V; rw [h4]; rfl
    clear HE h4
    generalize byU s.data.toList 0 = n0 at *
    go_enter Try.func20, Try.ntmps20
    go_wp2_with (go_at_call 30; refine (l03Numbers_any _ _ _).mono ?_; rintro e w' ⟨rfl, rfl⟩)
    refine (l03Read_any page epoch s _ h3).mono ?_
    rw [HL.out]
    rintro e w1 ⟨rfl, hb⟩
    go_wp2
    go_ret3
    rw [E.out]
    exact ⟨rfl, hb⟩

set_option maxRecDepth 100000 in
set_option maxHeartbeats 4000000 in
theorem implReadPage_any (page epoch : Int) (s : ByteArray) (w : World) (hm : s.size ≤ maxLen) :
    Calls Try.prog 13 #[.int .i64 page, .int .i64 epoch, .string s] w fun e w' => e = .returned (readV page epoch s) ∧ Below w.heap.size w w' := by
  unfold maxLen at hm
  by_cases h0 : 65536 < s.size
  · have E : Hid (readV page epoch s = T3 0 ⟨#[]⟩ 2) := by show _ = _; unfold readV; rw [if_pos h0]
    have h0I : (65536 : Int) < (s.size : Int) := by omega
    go_enter Try.func13, Try.ntmps13
    go_wp2_with (first | (go_at_call 27; refine (isPage_any _ _).mono ?_; rintro e w' ⟨rfl, hq⟩; obtain rfl := hq.symm) | (go_at_call 28; refine (isEpoch_any _ _).mono ?_; rintro e w' ⟨rfl, hq⟩; obtain rfl := hq.symm))
    go_ret3
    rw [E.out]
    exact ⟨rfl, Below.refl _ _⟩
  have h0I : ¬ (65536 : Int) < (s.size : Int) := by omega
  cases h1 : inB page 2 255
  · have E : Hid (readV page epoch s = T3 0 ⟨#[]⟩ 4) := by show _ = _; unfold readV; rw [if_neg h0, h1]; rfl
    go_enter Try.func13, Try.ntmps13
    go_wp2_with (first | (go_at_call 27; refine (isPage_any _ _).mono ?_; rintro e w' ⟨rfl, hq⟩; obtain rfl := hq.symm) | (go_at_call 28; refine (isEpoch_any _ _).mono ?_; rintro e w' ⟨rfl, hq⟩; obtain rfl := hq.symm))
    go_ret3
    rw [E.out]
    exact ⟨rfl, Below.refl _ _⟩
  cases h2 : inB epoch 1 4294967295
  · have E : Hid (readV page epoch s = T3 0 ⟨#[]⟩ 4) := by show _ = _; unfold readV; rw [if_neg h0, h1, h2]; rfl
    go_enter Try.func13, Try.ntmps13
    go_wp2_with (first | (go_at_call 27; refine (isPage_any _ _).mono ?_; rintro e w' ⟨rfl, hq⟩; obtain rfl := hq.symm) | (go_at_call 28; refine (isEpoch_any _ _).mono ?_; rintro e w' ⟨rfl, hq⟩; obtain rfl := hq.symm))
    go_ret3
    rw [E.out]
    exact ⟨rfl, Below.refl _ _⟩
  by_cases h3 : s.size = 32
  case neg =>
    have E : Hid (readV page epoch s = T3 0 ⟨#[]⟩ 1) := by show _ = _; unfold readV; rw [if_neg h0, h1, h2, if_neg (by simp), if_pos h3]
    have h3I : ¬ ((s.size : Int) = 32) := by omega
    go_enter Try.func13, Try.ntmps13
    go_wp2_with (first | (go_at_call 27; refine (isPage_any _ _).mono ?_; rintro e w' ⟨rfl, hq⟩; obtain rfl := hq.symm) | (go_at_call 28; refine (isEpoch_any _ _).mono ?_; rintro e w' ⟨rfl, hq⟩; obtain rfl := hq.symm))
    go_ret3
    rw [E.out]
    exact ⟨rfl, Below.refl _ _⟩
  have HE : Hid (readV page epoch s = if sumB page epoch s = true then T3 (byU s.data.toList 0) (s.extract 1 28) 0 else T3 0 ⟨#[]⟩ 8) := readV_ok h0 h1 h2 h3
  have HB0 : Hid (Below w.heap.size w w.drew) := below_drewN (Below.refl _ _) 1
  obtain ⟨x, hx⟩ : ∃ x, psum page epoch (s.extract 0 28).data.toList = x := ⟨_, rfl⟩
  obtain ⟨y, hy⟩ : ∃ y, numOf (s.extract 28 32).data.toList = y := ⟨_, rfl⟩
  have HX : Hid (psum page epoch (s.extract 0 28).data.toList = x) := hx
  have HY : Hid (numOf (s.extract 28 32).data.toList = y) := hy
  have HS1 : Hid ((s.extract 0 28).size ≤ 1000) := by show _ ≤ _; rw [ext_size s 0 28 h3 (by omega)]; omega
  have HS2 : Hid ((s.extract 28 32).size ≤ 4) := by show _ ≤ _; rw [ext_size s 28 32 h3 (by omega)]; omega
  have HF : Hid (sumB page epoch s = (x == y)) := by show _ = _; unfold sumB; rw [hx, hy]
  have HG : Hid (byU s.data.toList 0 = wrap64 ((s[0]'(by omega)).toNat : Int)) := by show _ = _; rw [wrap_byte]; unfold byU; rw [getB s 0 (by omega)]
  clear hx hy
  by_cases hxy : x = y
  · have E : Hid (readV page epoch s = T3 (byU s.data.toList 0) (s.extract 1 28) 0) := by show _ = _; rw [HE.out, if_pos (by rw [HF.out]; simpa using hxy)]
    subst hxy
    clear HE HF
    go_enter Try.func13, Try.ntmps13
    go_wp2_with (first | (go_at_call 27; refine (isPage_any _ _).mono ?_; rintro e w' ⟨rfl, hq⟩; obtain rfl := hq.symm) | (go_at_call 28; refine (isEpoch_any _ _).mono ?_; rintro e w' ⟨rfl, hq⟩; obtain rfl := hq.symm))
    go_region_held3 (StB w) (first | exact HB0.out | exact below_step HB0.out (Nat.le_refl _) hb | assumption) (first | (go_at_call 33; refine (sumOfPage_x _ _ _ x _ HS1.out HX.out).mono ?_; rintro e w' ⟨rfl, hb⟩) | (go_at_call 34; refine (numberOf_x _ x _ HS2.out HY.out).mono ?_; rintro e w' ⟨rfl, rfl⟩))
    have hB := below_step HB0.out (Nat.le_refl _) hb
    clear hb HX HY
    go_wp2_with fail
    go_quiet (fail)
    go_wp2
    go_ret3
    rw [E.out, HG.out]
    exact ⟨rfl, below_drewN hB _⟩
  · have E : Hid (readV page epoch s = T3 0 ⟨#[]⟩ 8) := by show _ = _; rw [HE.out, if_neg (by rw [HF.out]; simpa using hxy)]
    have hxyI : ¬ ((x : Int) = (y : Int)) := by omega
    clear HE HF
    go_enter Try.func13, Try.ntmps13
    go_wp2_with (first | (go_at_call 27; refine (isPage_any _ _).mono ?_; rintro e w' ⟨rfl, hq⟩; obtain rfl := hq.symm) | (go_at_call 28; refine (isEpoch_any _ _).mono ?_; rintro e w' ⟨rfl, hq⟩; obtain rfl := hq.symm))
    go_region_held3 (StB w) (first | exact HB0.out | exact below_step HB0.out (Nat.le_refl _) hb | assumption) (first | (go_at_call 33; refine (sumOfPage_x _ _ _ x _ HS1.out HX.out).mono ?_; rintro e w' ⟨rfl, hb⟩) | (go_at_call 34; refine (numberOf_x _ y _ HS2.out HY.out).mono ?_; rintro e w' ⟨rfl, rfl⟩))
    have hB := below_step HB0.out (Nat.le_refl _) hb
    clear hb HX HY
    go_wp2
    go_ret3
    rw [E.out]
    exact ⟨rfl, hB⟩
end Go.Proofs.Ytbnnplelbbcanaa
