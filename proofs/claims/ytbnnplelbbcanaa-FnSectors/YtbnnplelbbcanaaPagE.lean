/- What both PageBytes answer; the law, walked. -/
import Derived.Test.YtbnnplelbbcanaaPagD
namespace Go.Proofs.Ytbnnplelbbcanaa
open Go.RowKit

/-- What PageBytes answers: a sector and a code. -/
def pageR (page next epoch : Int) (s : ByteArray) : ByteArray × Int :=
  if 65536 < s.size then (⟨#[]⟩, 2)
  else if inB page 2 255 = true ∧ (next = 0 ∨ inB next 2 255 = true) ∧ inB epoch 1 4294967295 = true ∧ s.size ≤ 27 then (tx (pageL page next epoch s.data.toList), 0) else (⟨#[]⟩, 4)

theorem l03Numbers_any (page epoch : Int) (w : World) : Calls Try.prog 30 #[.int .i64 page, .int .i64 epoch] w fun e w' => e = .returned (.bool (inB page 2 255 && inB epoch 1 4294967295)) ∧ w' = w := by
  cases h1 : inB page 2 255
  · go_enter Try.func30, Try.ntmps30
    go_wp2_with (go_at_call 31; refine (l01In_any _ _ _ _).mono ?_; rintro e w' ⟨rfl, rfl⟩)
    go_ret
    exact ⟨ret_bool' rfl, rfl⟩
  · cases h2 : inB epoch 1 4294967295
    all_goals
      go_enter Try.func30, Try.ntmps30
      go_wp2_with (go_at_call 31; refine (l01In_any _ _ _ _).mono ?_; rintro e w' ⟨rfl, rfl⟩)
      go_ret
      exact ⟨ret_bool' rfl, rfl⟩

abbrev Ret2 (w : World) (p : ByteArray × Int) (e : Ending) (w' : World) : Prop := e = .returned (.tuple #[.string p.1, .int .i64 p.2]) ∧ Below w.heap.size w w'

set_option maxRecDepth 100000 in
set_option maxHeartbeats 4000000 in
theorem implPageBytes_any (page next epoch : Int) (s : ByteArray) (w : World) (hm : s.size ≤ maxLen) :
    Calls Try.prog 11 #[.int .i64 page, .int .i64 next, .int .i64 epoch, .string s] w (Ret2 w (pageR page next epoch s)) := by
  unfold maxLen at hm
  by_cases h0 : 65536 < s.size
  · have E : Hid (pageR page next epoch s = (⟨#[]⟩, 2)) := by show _ = _; unfold pageR; rw [if_pos h0]
    have h0I : (65536 : Int) < (s.size : Int) := by omega
    go_enter Try.func11, Try.ntmps11
    go_wp2_with (first | (go_at_call 27; refine (isPage_any _ _).mono ?_; rintro e w' ⟨rfl, rfl⟩) | (go_at_call 28; refine (isEpoch_any _ _).mono ?_; rintro e w' ⟨rfl, rfl⟩))
    go_ret2
    rw [E.out]
    exact ⟨rfl, Below.refl _ _⟩
  have h0I : ¬ (65536 : Int) < (s.size : Int) := by omega
  have EB : Hid (∀ (_ : ¬ (inB page 2 255 = true ∧ (next = 0 ∨ inB next 2 255 = true) ∧ inB epoch 1 4294967295 = true ∧ s.size ≤ 27)), pageR page next epoch s = (⟨#[]⟩, 4)) := fun h => by unfold pageR; rw [if_neg h0, if_neg h]
  have EG : Hid (∀ (_ : inB page 2 255 = true ∧ (next = 0 ∨ inB next 2 255 = true) ∧ inB epoch 1 4294967295 = true ∧ s.size ≤ 27), pageR page next epoch s = (tx (pageL page next epoch s.data.toList), 0)) := fun h => by unfold pageR; rw [if_neg h0, if_pos h]
  cases h1 : inB page 2 255
  · have E : Hid (pageR page next epoch s = (⟨#[]⟩, 4)) := EB.out (by rw [h1]; simp)
    clear EB EG
    by_cases h2 : next = 0
    · cases h3 : inB epoch 1 4294967295
      all_goals
        go_enter Try.func11, Try.ntmps11
        go_wp2_with (first | (go_at_call 27; refine (isPage_any _ _).mono ?_; rintro e w' ⟨rfl, rfl⟩) | (go_at_call 28; refine (isEpoch_any _ _).mono ?_; rintro e w' ⟨rfl, rfl⟩))
        go_ret2
        rw [E.out]
        exact ⟨rfl, Below.refl _ _⟩
    · cases h3 : inB next 2 255
      all_goals
        cases h4 : inB epoch 1 4294967295
        all_goals
          go_enter Try.func11, Try.ntmps11
          go_wp2_with (first | (go_at_call 27; refine (isPage_any _ _).mono ?_; rintro e w' ⟨rfl, rfl⟩) | (go_at_call 28; refine (isEpoch_any _ _).mono ?_; rintro e w' ⟨rfl, rfl⟩))
          go_ret2
          rw [E.out]
          exact ⟨rfl, Below.refl _ _⟩
  · by_cases h2 : next = 0
    · subst h2
      cases h3 : inB epoch 1 4294967295
      · have E : Hid (pageR page 0 epoch s = (⟨#[]⟩, 4)) := EB.out (by rw [h3]; simp)
        clear EB EG
        go_enter Try.func11, Try.ntmps11
        go_wp2_with (first | (go_at_call 27; refine (isPage_any _ _).mono ?_; rintro e w' ⟨rfl, rfl⟩) | (go_at_call 28; refine (isEpoch_any _ _).mono ?_; rintro e w' ⟨rfl, rfl⟩))
        go_ret2
        rw [E.out]
        exact ⟨rfl, Below.refl _ _⟩
      · by_cases h4 : s.size ≤ 27
        · have E : Hid (pageR page 0 epoch s = (tx (pageL page 0 epoch s.data.toList), 0)) := EG.out ⟨h1, .inl rfl, h3, h4⟩
          have h4I : ¬ (27 : Int) < (s.size : Int) := by omega
          clear EB EG
          go_enter Try.func11, Try.ntmps11
          go_wp2_with (first | (go_at_call 27; refine (isPage_any _ _).mono ?_; rintro e w' ⟨rfl, rfl⟩) | (go_at_call 28; refine (isEpoch_any _ _).mono ?_; rintro e w' ⟨rfl, rfl⟩))
          refine (pageSector_any page 0 epoch s _ h4).mono ?_
          rintro e w1 ⟨rfl, hb⟩
          generalize tx (pageL page 0 epoch s.data.toList) = T at *
          go_wp2
          go_ret2
          rw [E.out]
          exact ⟨rfl, hb⟩
        · have E : Hid (pageR page 0 epoch s = (⟨#[]⟩, 4)) := EB.out (fun h => h4 h.2.2.2)
          have h4I : (27 : Int) < (s.size : Int) := by omega
          clear EB EG
          go_enter Try.func11, Try.ntmps11
          go_wp2_with (first | (go_at_call 27; refine (isPage_any _ _).mono ?_; rintro e w' ⟨rfl, rfl⟩) | (go_at_call 28; refine (isEpoch_any _ _).mono ?_; rintro e w' ⟨rfl, rfl⟩))
          go_ret2
          rw [E.out]
          exact ⟨rfl, Below.refl _ _⟩
    · cases h5 : inB next 2 255
      · have E : Hid (pageR page next epoch s = (⟨#[]⟩, 4)) := EB.out (fun h => by rcases h.2.1 with h | h; exact h2 h; rw [h5] at h; cases h)
        clear EB EG
        cases h3 : inB epoch 1 4294967295
        all_goals
          go_enter Try.func11, Try.ntmps11
          go_wp2_with (first | (go_at_call 27; refine (isPage_any _ _).mono ?_; rintro e w' ⟨rfl, rfl⟩) | (go_at_call 28; refine (isEpoch_any _ _).mono ?_; rintro e w' ⟨rfl, rfl⟩))
          go_ret2
          rw [E.out]
          exact ⟨rfl, Below.refl _ _⟩
      · cases h3 : inB epoch 1 4294967295
        · have E : Hid (pageR page next epoch s = (⟨#[]⟩, 4)) := EB.out (fun h => by have := h.2.2.1; rw [h3] at this; cases this)
          clear EB EG
          go_enter Try.func11, Try.ntmps11
          go_wp2_with (first | (go_at_call 27; refine (isPage_any _ _).mono ?_; rintro e w' ⟨rfl, rfl⟩) | (go_at_call 28; refine (isEpoch_any _ _).mono ?_; rintro e w' ⟨rfl, rfl⟩))
          go_ret2
          rw [E.out]
          exact ⟨rfl, Below.refl _ _⟩
        · by_cases h4 : s.size ≤ 27
          · have E : Hid (pageR page next epoch s = (tx (pageL page next epoch s.data.toList), 0)) := EG.out ⟨h1, .inr h5, h3, h4⟩
            have h4I : ¬ (27 : Int) < (s.size : Int) := by omega
            clear EB EG
            go_enter Try.func11, Try.ntmps11
            go_wp2_with (first | (go_at_call 27; refine (isPage_any _ _).mono ?_; rintro e w' ⟨rfl, rfl⟩) | (go_at_call 28; refine (isEpoch_any _ _).mono ?_; rintro e w' ⟨rfl, rfl⟩))
            refine (pageSector_any page next epoch s _ h4).mono ?_
            rintro e w1 ⟨rfl, hb⟩
            generalize tx (pageL page next epoch s.data.toList) = T at *
            go_wp2
            go_ret2
            rw [E.out]
            exact ⟨rfl, hb⟩
          · have E : Hid (pageR page next epoch s = (⟨#[]⟩, 4)) := EB.out (fun h => h4 h.2.2.2)
            have h4I : (27 : Int) < (s.size : Int) := by omega
            clear EB EG
            go_enter Try.func11, Try.ntmps11
            go_wp2_with (first | (go_at_call 27; refine (isPage_any _ _).mono ?_; rintro e w' ⟨rfl, rfl⟩) | (go_at_call 28; refine (isEpoch_any _ _).mono ?_; rintro e w' ⟨rfl, rfl⟩))
            go_ret2
            rw [E.out]
            exact ⟨rfl, Below.refl _ _⟩

set_option maxRecDepth 100000 in
set_option maxHeartbeats 4000000 in
theorem specPageBytes_any (page next epoch : Int) (s : ByteArray) (w : World) (hm : s.size ≤ maxLen) :
    Calls Try.prog 12 #[.int .i64 page, .int .i64 next, .int .i64 epoch, .string s] w (Ret2 w (pageR page next epoch s)) := by
  unfold maxLen at hm
  by_cases h0 : 65536 < s.size
  · have E : Hid (pageR page next epoch s = (⟨#[]⟩, 2)) := by show _ = _; unfold pageR; rw [if_pos h0]
    have h0I : (65536 : Int) < (s.size : Int) := by omega
    go_enter Try.func12, Try.ntmps12
    go_wp2_with (first | (go_at_call 30; refine (l03Numbers_any _ _ _).mono ?_; rintro e w' ⟨rfl, rfl⟩) | (go_at_call 31; refine (l01In_any _ _ _ _).mono ?_; rintro e w' ⟨rfl, rfl⟩))
    go_ret2
    rw [E.out]
    exact ⟨rfl, Below.refl _ _⟩
  have h0I : ¬ (65536 : Int) < (s.size : Int) := by omega
  have EB : Hid (∀ (_ : ¬ (inB page 2 255 = true ∧ (next = 0 ∨ inB next 2 255 = true) ∧ inB epoch 1 4294967295 = true ∧ s.size ≤ 27)), pageR page next epoch s = (⟨#[]⟩, 4)) := fun h => by unfold pageR; rw [if_neg h0, if_neg h]
  have EG : Hid (∀ (_ : inB page 2 255 = true ∧ (next = 0 ∨ inB next 2 255 = true) ∧ inB epoch 1 4294967295 = true ∧ s.size ≤ 27), pageR page next epoch s = (tx (pageL page next epoch s.data.toList), 0)) := fun h => by unfold pageR; rw [if_neg h0, if_pos h]
  cases h1 : inB page 2 255
  · have E : Hid (pageR page next epoch s = (⟨#[]⟩, 4)) := EB.out (by rw [h1]; simp)
    clear EB EG
    by_cases h2 : next = 0
    · cases h3 : inB epoch 1 4294967295
      all_goals
        go_enter Try.func12, Try.ntmps12
        go_wp2_with (first | (go_at_call 30; refine (l03Numbers_any _ _ _).mono ?_; rintro e w' ⟨rfl, rfl⟩) | (go_at_call 31; refine (l01In_any _ _ _ _).mono ?_; rintro e w' ⟨rfl, rfl⟩))
        go_ret2
        rw [E.out]
        exact ⟨rfl, Below.refl _ _⟩
    · cases h3 : inB next 2 255
      all_goals
        cases h4 : inB epoch 1 4294967295
        all_goals
          go_enter Try.func12, Try.ntmps12
          go_wp2_with (first | (go_at_call 30; refine (l03Numbers_any _ _ _).mono ?_; rintro e w' ⟨rfl, rfl⟩) | (go_at_call 31; refine (l01In_any _ _ _ _).mono ?_; rintro e w' ⟨rfl, rfl⟩))
          go_ret2
          rw [E.out]
          exact ⟨rfl, Below.refl _ _⟩
  · by_cases h2 : next = 0
    · subst h2
      cases h3 : inB epoch 1 4294967295
      · have E : Hid (pageR page 0 epoch s = (⟨#[]⟩, 4)) := EB.out (by rw [h3]; simp)
        clear EB EG
        go_enter Try.func12, Try.ntmps12
        go_wp2_with (first | (go_at_call 30; refine (l03Numbers_any _ _ _).mono ?_; rintro e w' ⟨rfl, rfl⟩) | (go_at_call 31; refine (l01In_any _ _ _ _).mono ?_; rintro e w' ⟨rfl, rfl⟩))
        go_ret2
        rw [E.out]
        exact ⟨rfl, Below.refl _ _⟩
      · by_cases h4 : s.size ≤ 27
        · have E : Hid (pageR page 0 epoch s = (tx (pageL page 0 epoch s.data.toList), 0)) := EG.out ⟨h1, .inl rfl, h3, h4⟩
          have h4I : ¬ (27 : Int) < (s.size : Int) := by omega
          clear EB EG
          go_enter Try.func12, Try.ntmps12
          go_wp2_with (first | (go_at_call 30; refine (l03Numbers_any _ _ _).mono ?_; rintro e w' ⟨rfl, rfl⟩) | (go_at_call 31; refine (l01In_any _ _ _ _).mono ?_; rintro e w' ⟨rfl, rfl⟩))
          refine (l03Page_any page 0 epoch s _ h4).mono ?_
          rintro e w1 ⟨rfl, hb⟩
          generalize tx (pageL page 0 epoch s.data.toList) = T at *
          go_wp2
          go_ret2
          rw [E.out]
          exact ⟨rfl, hb⟩
        · have E : Hid (pageR page 0 epoch s = (⟨#[]⟩, 4)) := EB.out (fun h => h4 h.2.2.2)
          have h4I : (27 : Int) < (s.size : Int) := by omega
          clear EB EG
          go_enter Try.func12, Try.ntmps12
          go_wp2_with (first | (go_at_call 30; refine (l03Numbers_any _ _ _).mono ?_; rintro e w' ⟨rfl, rfl⟩) | (go_at_call 31; refine (l01In_any _ _ _ _).mono ?_; rintro e w' ⟨rfl, rfl⟩))
          go_ret2
          rw [E.out]
          exact ⟨rfl, Below.refl _ _⟩
    · cases h5 : inB next 2 255
      · have E : Hid (pageR page next epoch s = (⟨#[]⟩, 4)) := EB.out (fun h => by rcases h.2.1 with h | h; exact h2 h; rw [h5] at h; cases h)
        clear EB EG
        cases h3 : inB epoch 1 4294967295
        all_goals
          go_enter Try.func12, Try.ntmps12
          go_wp2_with (first | (go_at_call 30; refine (l03Numbers_any _ _ _).mono ?_; rintro e w' ⟨rfl, rfl⟩) | (go_at_call 31; refine (l01In_any _ _ _ _).mono ?_; rintro e w' ⟨rfl, rfl⟩))
          go_ret2
          rw [E.out]
          exact ⟨rfl, Below.refl _ _⟩
      · cases h3 : inB epoch 1 4294967295
        · have E : Hid (pageR page next epoch s = (⟨#[]⟩, 4)) := EB.out (fun h => by have := h.2.2.1; rw [h3] at this; cases this)
          clear EB EG
          go_enter Try.func12, Try.ntmps12
          go_wp2_with (first | (go_at_call 30; refine (l03Numbers_any _ _ _).mono ?_; rintro e w' ⟨rfl, rfl⟩) | (go_at_call 31; refine (l01In_any _ _ _ _).mono ?_; rintro e w' ⟨rfl, rfl⟩))
          go_ret2
          rw [E.out]
          exact ⟨rfl, Below.refl _ _⟩
        · by_cases h4 : s.size ≤ 27
          · have E : Hid (pageR page next epoch s = (tx (pageL page next epoch s.data.toList), 0)) := EG.out ⟨h1, .inr h5, h3, h4⟩
            have h4I : ¬ (27 : Int) < (s.size : Int) := by omega
            clear EB EG
            go_enter Try.func12, Try.ntmps12
            go_wp2_with (first | (go_at_call 30; refine (l03Numbers_any _ _ _).mono ?_; rintro e w' ⟨rfl, rfl⟩) | (go_at_call 31; refine (l01In_any _ _ _ _).mono ?_; rintro e w' ⟨rfl, rfl⟩))
            refine (l03Page_any page next epoch s _ h4).mono ?_
            rintro e w1 ⟨rfl, hb⟩
            generalize tx (pageL page next epoch s.data.toList) = T at *
            go_wp2
            go_ret2
            rw [E.out]
            exact ⟨rfl, hb⟩
          · have E : Hid (pageR page next epoch s = (⟨#[]⟩, 4)) := EB.out (fun h => h4 h.2.2.2)
            have h4I : (27 : Int) < (s.size : Int) := by omega
            clear EB EG
            go_enter Try.func12, Try.ntmps12
            go_wp2_with (first | (go_at_call 30; refine (l03Numbers_any _ _ _).mono ?_; rintro e w' ⟨rfl, rfl⟩) | (go_at_call 31; refine (l01In_any _ _ _ _).mono ?_; rintro e w' ⟨rfl, rfl⟩))
            go_ret2
            rw [E.out]
            exact ⟨rfl, Below.refl _ _⟩

set_option maxRecDepth 100000 in
set_option maxHeartbeats 4000000 in
theorem lawPageBytes (page next epoch : Int) (s : ByteArray) (w : World) (hm : s.size ≤ maxLen) :
    Calls Try.prog 5 #[.int .i64 page, .int .i64 next, .int .i64 epoch, .string s] w fun e w' => e = .returned (.bool true) ∧ Below w.heap.size w w' := by
  have HM : Hid (s.size ≤ maxLen) := hm
  unfold maxLen at hm
  by_cases hx : 1048576 < s.size
  · have hxI : (1048576 : Int) < (s.size : Int) := by omega
    go_enter Try.func5, Try.ntmps5
    go_wp2
    go_ret
    exact ⟨rfl, Below.refl _ _⟩
  have hxI : ¬ (1048576 : Int) < (s.size : Int) := by omega
  go_enter Try.func5, Try.ntmps5
  go_wp2_with fail
  refine (specPageBytes_any page next epoch s w HM.out).mono ?_
  rintro e w1 ⟨rfl, b1⟩
  go_wp2_with fail
  refine (implPageBytes_any page next epoch s w1 HM.out).mono ?_
  rintro e w2 ⟨rfl, b2⟩
  have B2 := below_step b1 (Nat.le_refl _) b2
  generalize (pageR page next epoch s).1 = t at *
  generalize (pageR page next epoch s).2 = c at *
  clear b1 b2
  go_wp2
  go_ret
  exact ⟨rfl, B2⟩
end Go.Proofs.Ytbnnplelbbcanaa
