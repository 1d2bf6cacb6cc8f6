/- What both ReadMeta answer; the law, walked. -/
import Derived.Test.YtbnnplelbbcanaaMetE
namespace Go.Proofs.Ytbnnplelbbcanaa
open Go.RowKit

abbrev T2 (e f l c : Int) : Value := .tuple #[MV e f l, .int .i64 c]
/-- What ReadMeta answers. -/
def rmV (s : ByteArray) : Value :=
  if 65536 < s.size then T2 0 0 0 2 else if s.size ≠ 32 then T2 0 0 0 1 else if mOK s = true then T2 (mE s) (mF s) (mL s) 0 else T2 0 0 0 3
theorem rmV_ok {s : ByteArray} (h : s.size = 32) : rmV s = if mOK s = true then T2 (mE s) (mF s) (mL s) 0 else T2 0 0 0 3 := by
  unfold rmV
  rw [if_neg (by omega), if_neg (by omega)]

set_option maxRecDepth 100000 in
set_option maxHeartbeats 4000000 in
theorem specReadMeta_any (s : ByteArray) (w : World) (hm : s.size ≤ maxLen) :
    Calls Try.prog 23 #[.string s] w fun e w' => e = .returned (rmV s) ∧ Below w.heap.size w w' := by
  unfold maxLen at hm
  have A0 : Below w.heap.size w (w.alloc (.cells #[.int .i64 0, .int .i64 0, .int .i64 0] 31)) := (Below.refl _ _).alloc (Nat.le_refl _) _
  by_cases h0 : 65536 < s.size
  · have E : Hid (rmV s = T2 0 0 0 2) := by show _ = _; unfold rmV; rw [if_pos h0]
    have h0I : (65536 : Int) < (s.size : Int) := by omega
    go_enter Try.func23, Try.ntmps23
    go_wp2
    rw [E.out]
    exact bodyPost_ret (v := T2 0 0 0 2) (by simp [results, Try.results23, go_sem]) rfl ⟨rfl, A0⟩
  have h0I : ¬ (65536 : Int) < (s.size : Int) := by omega
  by_cases h1 : s.size = 32
  case neg =>
    have E : Hid (rmV s = T2 0 0 0 1) := by show _ = _; unfold rmV; rw [if_neg h0, if_pos h1]
    have h1I : ¬ ((s.size : Int) = 32) := by omega
    go_enter Try.func23, Try.ntmps23
    go_wp2
    rw [E.out]
    exact bodyPost_ret (v := T2 0 0 0 1) (by simp [results, Try.results23, go_sem]) rfl ⟨rfl, A0⟩
  have HE := rmV_ok h1
  have hR : (w.alloc (.cells #[.int .i64 0, .int .i64 0, .int .i64 0] 31)).heap[w.heap.size]? = some (.cells #[.int .i64 0, .int .i64 0, .int .i64 0] 31 (0, 0)) := heap_new' _ _ _ rfl
  have HR : Hid ((w.alloc (.cells #[.int .i64 0, .int .i64 0, .int .i64 0] 31)).heap[w.heap.size]? = some (.cells #[.int .i64 0, .int .i64 0, .int .i64 0] 31 (0, 0))) := hR
  clear hR
  cases h4 : mOK s
  · have E : Hid (rmV s = T2 0 0 0 3) := by show _ = _; rw [HE, h4]; rfl
    clear HE
    go_enter Try.func23, Try.ntmps23
    go_wp2_with fail
    refine (l03ReadMeta_any s _ h1).mono ?_
    rw [h4]
    rintro e w1 ⟨rfl, b1⟩
    have B1 := below_step A0 (Nat.le_refl _) b1
    obtain ⟨q0, q1, q2, p0, p1, p2⟩ := res_cells ((b1.block w.heap.size (by simp)).trans HR.out)
    have hz : w.heap.size < w1.heap.size := by have := b1.size; simp at this; omega
    generalize ((mE s : Nat) : Int) = x1
    generalize mF s = x2
    generalize ((mL s : Nat) : Int) = x3
    clear b1 A0 HR
    go_wp2
    rw [E.out]
    exact bodyPost_ret (v := T2 0 0 0 3) (by simp [results, Try.results23, go_sem, q0, q1, q2, hz]) rfl ⟨rfl, (((B1.setCell (p := ⟨w.heap.size, 0, none⟩) (Nat.le_refl _) _).setCell (p := ⟨w.heap.size, 1, none⟩) (Nat.le_refl _) _).setCell (p := ⟨w.heap.size, 2, none⟩) (Nat.le_refl _) _).alloc (by simpa [World.setCell] using Nat.le_of_lt hz) _⟩
  · have E : Hid (rmV s = T2 (mE s) (mF s) (mL s) 0) := by show _ = _; rw [HE, h4]; rfl
    clear HE
    go_enter Try.func23, Try.ntmps23
    go_wp2_with fail
    refine (l03ReadMeta_any s _ h1).mono ?_
    rw [h4]
    rintro e w1 ⟨rfl, b1⟩
    have B1 := below_step A0 (Nat.le_refl _) b1
    obtain ⟨q0, q1, q2, p0, p1, p2⟩ := res_cells ((b1.block w.heap.size (by simp)).trans HR.out)
    have hz : w.heap.size < w1.heap.size := by have := b1.size; simp at this; omega
    generalize ((mE s : Nat) : Int) = x1 at *
    generalize mF s = x2 at *
    generalize ((mL s : Nat) : Int) = x3 at *
    clear b1 A0 HR
    go_wp2
    rw [E.out]
    exact bodyPost_ret (v := T2 x1 x2 x3 0) (by simp [results, Try.results23, go_sem, q0, q1, q2, hz]) rfl ⟨rfl, (((B1.setCell (p := ⟨w.heap.size, 0, none⟩) (Nat.le_refl _) _).setCell (p := ⟨w.heap.size, 1, none⟩) (Nat.le_refl _) _).setCell (p := ⟨w.heap.size, 2, none⟩) (Nat.le_refl _) _).alloc (by simpa [World.setCell] using Nat.le_of_lt hz) _⟩

set_option maxRecDepth 100000 in
set_option maxHeartbeats 8000000 in
theorem implReadMeta_any (s : ByteArray) (w : World) (hm : s.size ≤ maxLen) :
    Calls Try.prog 15 #[.string s] w fun e w' => e = .returned (rmV s) ∧ Below w.heap.size w w' := by
  unfold maxLen at hm
  have A0 : Below w.heap.size w (w.alloc (.cells #[.int .i64 0, .int .i64 0, .int .i64 0] 31)) := (Below.refl _ _).alloc (Nat.le_refl _) _
  by_cases h0 : 65536 < s.size
  · have E : Hid (rmV s = T2 0 0 0 2) := by show _ = _; unfold rmV; rw [if_pos h0]
    have h0I : (65536 : Int) < (s.size : Int) := by omega
    go_enter Try.func15, Try.ntmps15
    go_wp2
    rw [E.out]
    exact bodyPost_ret (v := T2 0 0 0 2) (by simp [results, Try.results15, go_sem]) rfl ⟨rfl, A0⟩
  have h0I : ¬ (65536 : Int) < (s.size : Int) := by omega
  by_cases h1 : s.size = 32
  case neg =>
    have E : Hid (rmV s = T2 0 0 0 1) := by show _ = _; unfold rmV; rw [if_neg h0, if_pos h1]
    have h1I : ¬ ((s.size : Int) = 32) := by omega
    go_enter Try.func15, Try.ntmps15
    go_wp2
    rw [E.out]
    exact bodyPost_ret (v := T2 0 0 0 1) (by simp [results, Try.results15, go_sem]) rfl ⟨rfl, A0⟩
  have HV : Hid (rmV s = if mOK s = true then T2 (mE s) (mF s) (mL s) 0 else T2 0 0 0 3) := rmV_ok h1
  obtain ⟨x, hx⟩ : ∃ x, mE s = x := ⟨_, rfl⟩
  obtain ⟨y, hy⟩ : ∃ y, mL s = y := ⟨_, rfl⟩
  obtain ⟨F, hF⟩ : ∃ F, mF s = F := ⟨_, rfl⟩
  have HE : Hid (mE s = x ∧ mF s = F ∧ mL s = y) := ⟨hx, hF, hy⟩
  have HX : Hid (numOf (s.extract 2 6).data.toList = x) := hx
  have HY : Hid (numOf (s.extract 7 9).data.toList = y) := hy
  have HS1 : Hid ((s.extract 2 6).size ≤ 4) := by show _ ≤ _; rw [ext_size s 2 6 h1 (by omega)]; omega
  have HS2 : Hid ((s.extract 7 9).size ≤ 4) := by show _ ≤ _; rw [ext_size s 7 9 h1 (by omega)]; omega
  have g4 : 6 < s.size := by omega
  have hw6 : IntKind.i64.wrap ((s[6]'g4).toNat : Int) = F := by
    rw [← hF]
    unfold mF byU
    rw [getB s 6 g4, IntKind.wrap_i64]
    have := (s.data.toList.getD 6 0).toNat_lt
    omega
  have HZ : Hid (mOK s = (okM x F y && (tx (metaL x F y)).toList == s.toList)) := by show _ = _; unfold mOK; rw [hx, hy, hF]
  have HB1 : Hid (Below w.heap.size w (rmW w x F y).drew) := below_drewN (rmW_below w x F y) 1
  have HA : Hid (St3 (w.heap.size + 1) x F y (rmW w x F y).drew) := rmW_at w x F y
  have HRs : Hid ((rmW w x F y).drew.heap[w.heap.size]? = some (.cells #[.int .i64 0, .int .i64 0, .int .i64 0] 31 (0, 0))) := rmW_res w x F y
  have HSz : Hid (w.heap.size + 1 < (rmW w x F y).drew.heap.size) := by show _ < (rmW w x F y).heap.size; simp
  clear hx hy hF A0
  go_enter Try.func15, Try.ntmps15
  go_wp2_with fail
  rename_i K hK
  have rest : K { tmps := #[Value.string s, undef, Value.pointer (some ⟨w.heap.size, 0, none⟩), Value.int .i64 0, Value.pointer (some ⟨w.heap.size + 1, 0, none⟩), Value.bool false, Value.string s, Value.int .i64 32, Value.bool false, undef, Value.bool false, Value.string s, Value.int .i64 32, Value.bool false, undef, Value.string s, Value.string (s.extract 2 6), Value.int .i64 x, Value.string s, Value.int .u8 (s[6]'g4).toNat, Value.int .i64 F, Value.string s, Value.string (s.extract 7 9), Value.int .i64 y, Value.agg #[Value.int .i64 x, Value.int .i64 F, Value.int .i64 y], undef, undef, undef, undef, undef, undef, undef, undef, undef, undef, undef], defers := [] } (rmW w x F y).drew := by
    apply hK
    clear hw6 HX HY HS1 HS2 hK
    generalize Value.int .u8 (s[6]'g4).toNat = vb
    obtain ⟨a0, a1, a2⟩ := HA.out
    cases hok : okM x F y
    · have E : Hid (rmV s = T2 0 0 0 3) := by show _ = _; rw [HV.out, HZ.out, hok]; rfl
      clear HV HZ
      go_wp2_with fail
      refine (isMeta_any x F y _).mono ?_
      rw [hok]
      rintro e w5 ⟨rfl, hb⟩
      obtain ⟨q0, q1, q2, p0, p1, p2⟩ := res_cells ((hb.block w.heap.size (Nat.lt_of_succ_lt HSz.out)).trans HRs.out)
      have B5 : Below w.heap.size w w5 := HB1.out.trans (hb.mono (Nat.le_trans (Nat.le_succ _) (Nat.le_of_lt HSz.out)))
      have hz : w.heap.size < w5.heap.size := Nat.lt_of_lt_of_le (Nat.lt_of_succ_lt HSz.out) hb.size
      clear hb a0 a1 a2 hok
      go_wp2
      rw [E.out]
      exact bodyPost_ret (v := T2 0 0 0 3) (by simp [results, Try.results15, go_sem, q0, q1, q2]) rfl ⟨rfl, ((B5.setCell (p := ⟨w.heap.size, 0, none⟩) (Nat.le_refl _) _).setCell (p := ⟨w.heap.size, 1, none⟩) (Nat.le_refl _) _).setCell (p := ⟨w.heap.size, 2, none⟩) (Nat.le_refl _) _⟩
    · obtain ⟨T, hT⟩ : ∃ T, tx (metaL x F y) = T := ⟨_, rfl⟩
      have HM : Hid (tx (metaL x F y) = T) := hT
      rw [hT] at HZ
      clear hT
      go_wp2_with fail
      refine (isMeta_any x F y _).mono ?_
      rw [hok]
      rintro e w5 ⟨rfl, hb⟩
      have hr5 := (hb.block w.heap.size (Nat.lt_of_succ_lt HSz.out)).trans HRs.out
      have B5 : Below w.heap.size w w5 := HB1.out.trans (hb.mono (Nat.le_trans (Nat.le_succ _) (Nat.le_of_lt HSz.out)))
      have z5 : w.heap.size + 1 < w5.heap.size := Nat.lt_of_lt_of_le HSz.out hb.size
      obtain ⟨k0, k1, k2⟩ := HA.out.keep hb HSz.out
      have HA5 : Hid (St3 (w.heap.size + 1) x F y w5) := ⟨k0, k1, k2⟩
      clear hb a0 a1 a2
      go_wp2_with fail
      refine (metaSector_any x F y w5).mono ?_
      rw [HM.out]
      rintro e w7 ⟨rfl, hb7⟩
      obtain ⟨q0, q1, q2, p0, p1, p2⟩ := res_cells ((hb7.block w.heap.size (Nat.lt_of_succ_lt z5)).trans hr5)
      have B7 : Below w.heap.size w w7 := below_step B5 (Nat.le_refl _) hb7
      have hz : w.heap.size < w7.heap.size := Nat.lt_of_lt_of_le (Nat.lt_of_succ_lt z5) hb7.size
      obtain ⟨m0, m1, m2⟩ := HA5.out.keep hb7 z5
      clear hb7 hr5 B5 k0 k1 k2 z5 HA5
      by_cases hTs : T.toList = s.toList
      · have E : Hid (rmV s = T2 x F y 0) := by
          obtain ⟨e1, e2, e3⟩ := HE.out
          show _ = _; rw [HV.out, HZ.out, hok, hTs, e1, e2, e3]; simp
        clear HV HZ hok
        go_wp2
        rw [E.out]
        exact bodyPost_ret (v := T2 x F y 0) (by simp [results, Try.results15, go_sem, q0, q1, q2]) rfl ⟨rfl, ((B7.setCell (p := ⟨w.heap.size, 0, none⟩) (Nat.le_refl _) _).setCell (p := ⟨w.heap.size, 1, none⟩) (Nat.le_refl _) _).setCell (p := ⟨w.heap.size, 2, none⟩) (Nat.le_refl _) _⟩
      · have hTb : (T.toList == s.toList) = false := by simpa using hTs
        have E : Hid (rmV s = T2 0 0 0 3) := by show _ = _; rw [HV.out, HZ.out, hok, hTb]; rfl
        clear HV HZ hok
        go_wp2
        rw [E.out]
        exact bodyPost_ret (v := T2 0 0 0 3) (by simp [results, Try.results15, go_sem, q0, q1, q2]) rfl ⟨rfl, ((B7.setCell (p := ⟨w.heap.size, 0, none⟩) (Nat.le_refl _) _).setCell (p := ⟨w.heap.size, 1, none⟩) (Nat.le_refl _) _).setCell (p := ⟨w.heap.size, 2, none⟩) (Nat.le_refl _) _⟩
  go_region_held3 (fun _ => True) (trivial) (first | (go_at_call 34; (with_reducible change Calls _ 34 #[.string (s.extract 2 6)] _ _); refine (numberOf_x _ x _ HS1.out HX.out).mono ?_; rintro e w' ⟨rfl, hq⟩; obtain rfl := hq.symm) | (go_at_call 34; (with_reducible change Calls _ 34 #[.string (s.extract 7 9)] _ _); refine (numberOf_x _ y _ HS2.out HY.out).mono ?_; rintro e w' ⟨rfl, hq⟩; obtain rfl := hq.symm))
  all_goals exact rest

theorem eqMeta_same (e f l : Int) (w : World) : Calls Try.prog 24 #[MV e f l, MV e f l] w fun x w' => x = .returned (.bool true) ∧ Below w.heap.size w w' := by
  go_enter Try.func24, Try.ntmps24
  go_wp2
  go_ret
  exact ⟨rfl, ((Below.refl _ _).alloc (Nat.le_refl _) _).alloc (by simp) _⟩
theorem rmV_form (s : ByteArray) : ∃ e f l c, rmV s = T2 e f l c := by
  unfold rmV
  split; · exact ⟨_, _, _, _, rfl⟩
  split; · exact ⟨_, _, _, _, rfl⟩
  split; · exact ⟨_, _, _, _, rfl⟩
  exact ⟨_, _, _, _, rfl⟩

set_option maxRecDepth 100000 in
set_option maxHeartbeats 4000000 in
theorem lawReadMeta (s : ByteArray) (w : World) (hm : s.size ≤ maxLen) :
    Calls Try.prog 8 #[.string s] w fun e w' => e = .returned (.bool true) ∧ Below w.heap.size w w' := by
  have HM : Hid (s.size ≤ maxLen) := hm
  unfold maxLen at hm
  by_cases hx : 1048576 < s.size
  · have hxI : (1048576 : Int) < (s.size : Int) := by omega
    go_enter Try.func8, Try.ntmps8
    go_wp2
    go_ret
    exact ⟨rfl, Below.refl _ _⟩
  have hxI : ¬ (1048576 : Int) < (s.size : Int) := by omega
  obtain ⟨e, f, l, c, hv⟩ := rmV_form s
  have HV : Hid (rmV s = T2 e f l c) := hv
  clear hv
  go_enter Try.func8, Try.ntmps8
  go_wp2_with fail
  refine (specReadMeta_any s w HM.out).mono ?_
  rw [HV.out]
  rintro x w1 ⟨rfl, b1⟩
  have A1 : Below w.heap.size w (w1.alloc (.cells #[.int .i64 e, .int .i64 f, .int .i64 l] 31)) := b1.alloc b1.size _
  have hR1 : (w1.alloc (.cells #[.int .i64 e, .int .i64 f, .int .i64 l] 31)).heap[w1.heap.size]? = some (.cells #[.int .i64 e, .int .i64 f, .int .i64 l] 31 (0, 0)) := heap_new' _ _ _ rfl
  have HR1 : Hid ((w1.alloc (.cells #[.int .i64 e, .int .i64 f, .int .i64 l] 31)).heap[w1.heap.size]? = some (.cells #[.int .i64 e, .int .i64 f, .int .i64 l] 31 (0, 0))) := hR1
  clear hR1 b1
  go_wp2_with fail
  refine (implReadMeta_any s _ HM.out).mono ?_
  rw [HV.out]
  rintro x w2 ⟨rfl, b2⟩
  have B2 := below_step A1 (Nat.le_refl _) b2
  have hr2 := (b2.block w1.heap.size (by simp)).trans HR1.out
  have k0 : w2.cell? ⟨w1.heap.size, 0, none⟩ = some (.int .i64 e) := slab_cell hr2
  have k1 : w2.cell? ⟨w1.heap.size, 1, none⟩ = some (.int .i64 f) := slab_cell hr2
  have k2 : w2.cell? ⟨w1.heap.size, 2, none⟩ = some (.int .i64 l) := slab_cell hr2
  have hz : w1.heap.size < w2.heap.size := slab_lt hr2
  have hne : w1.heap.size ≠ w2.heap.size := Nat.ne_of_lt hz
  have B2' : Below w.heap.size w (w2.alloc (.cells #[.int .i64 e, .int .i64 f, .int .i64 l] 31)) := B2.alloc B2.size _
  clear b2 hr2 A1 HR1
  go_wp2_with fail
  refine (eqMeta_same e f l _).mono ?_
  rintro x w3 ⟨rfl, b3⟩
  have B3 := below_step B2' (Nat.le_refl _) b3
  clear b3 B2 B2'
  go_wp2
  go_ret
  exact ⟨rfl, B3⟩
end Go.Proofs.Ytbnnplelbbcanaa
