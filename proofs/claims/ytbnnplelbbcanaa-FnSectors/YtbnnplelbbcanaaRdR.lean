/- The law ReadPage, walked. -/
import Derived.Test.YtbnnplelbbcanaaRdQ
namespace Go.Proofs.Ytbnnplelbbcanaa
open Go.RowKit

theorem readV_form (page epoch : Int) (s : ByteArray) : ∃ n t c, readV page epoch s = T3 n t c := by
  unfold readV
  split; · exact ⟨_, _, _, rfl⟩
  split; · exact ⟨_, _, _, rfl⟩
  split; · exact ⟨_, _, _, rfl⟩
  split; · exact ⟨_, _, _, rfl⟩
  exact ⟨_, _, _, rfl⟩

set_option maxRecDepth 100000 in
set_option maxHeartbeats 4000000 in
theorem lawReadPage (page epoch : Int) (s : ByteArray) (w : World) (hm : s.size ≤ maxLen) :
    Calls Try.prog 6 #[.int .i64 page, .int .i64 epoch, .string s] w fun e w' => e = .returned (.bool true) ∧ Below w.heap.size w w' := by
  have HM : Hid (s.size ≤ maxLen) := hm
  unfold maxLen at hm
  by_cases hx : 1048576 < s.size
  · have hxI : (1048576 : Int) < (s.size : Int) := by omega
    go_enter Try.func6, Try.ntmps6
    go_wp2
    go_ret
    exact ⟨rfl, Below.refl _ _⟩
  have hxI : ¬ (1048576 : Int) < (s.size : Int) := by omega
  obtain ⟨n, t, c, hv⟩ := readV_form page epoch s
  have HV : Hid (readV page epoch s = T3 n t c) := hv
  clear hv
  go_enter Try.func6, Try.ntmps6
  go_wp2_with fail
  refine (specReadPage_any page epoch s w HM.out).mono ?_
  rw [HV.out]
  rintro e w1 ⟨rfl, b1⟩
  go_wp2_with fail
  refine (implReadPage_any page epoch s w1 HM.out).mono ?_
  rw [HV.out]
  rintro e w2 ⟨rfl, b2⟩
  have B2 := below_step b1 (Nat.le_refl _) b2
  clear b1 b2
  go_wp2
  go_ret
  exact ⟨rfl, B2⟩
end Go.Proofs.Ytbnnplelbbcanaa
