/- Levels of signs and words, and what a node has beside its kids (stage 11). -/
import Derived.Test.YteejkmcljokloaaGreatDoorTrA
import Derived.Test.YteejkmcljokloaaGreatDoorTrB
import Derived.Test.YteejkmcljokloaaGreatDoorNmB
import Derived.Test.YteejkmcljokloaaGreatDoorVaA
namespace Go.Proofs.YteejkmcljokloaaGreatDoor
open Go.RowKit

def levS (s : ByteArray) : Int :=
  if s.toList == [111, 114] then 1 else if s.toList == [97, 110, 100] then 2
  else if s.toList == [61] || s.toList == [60, 62] || s.toList == [60] || s.toList == [60, 61] || s.toList == [62] || s.toList == [62, 61] then 4
  else if s.toList == [43] || s.toList == [45] then 5 else if s.toList == [42] || s.toList == [47] || s.toList == [37] then 6 else 0
def unS (s : ByteArray) : Int :=
  if s.toList == [110, 111, 116] then 3 else if s.toList == [105, 115, 110, 117, 108, 108] || s.toList == [105, 115, 110, 111, 116, 110, 117, 108, 108] then 4 else if s.toList == [45] then 7 else 0
def agS (s : ByteArray) : Bool := s.toList == [99, 111, 117, 110, 116] || s.toList == [115, 117, 109] || s.toList == [109, 105, 110] || s.toList == [109, 97, 120]
set_option maxRecDepth 100000 in
set_option maxHeartbeats 4000000 in
theorem signLevel_any (s : ByteArray) (w : World) : Calls Tryz.prog 100 #[.string s] w fun e w' => e = .returned (.int .i64 (levS s)) ∧ w' = w := by
  go_enter Tryz.func100, Tryz.ntmps100
  go_wp2
  all_goals
    go_ret
    exact ⟨ret_int' (by unfold levS; simp_all), rfl⟩
set_option maxRecDepth 100000 in
set_option maxHeartbeats 4000000 in
theorem l10Level_any (s : ByteArray) (w : World) : Calls Tryz.prog 68 #[.string s] w fun e w' => e = .returned (.int .i64 (levS s)) ∧ w' = w := by
  go_enter Tryz.func68, Tryz.ntmps68
  go_wp2
  all_goals
    go_ret
    exact ⟨ret_int' (by unfold levS; simp_all), rfl⟩
set_option maxRecDepth 100000 in
set_option maxHeartbeats 4000000 in
theorem unaryLevel_any (s : ByteArray) (w : World) : Calls Tryz.prog 99 #[.string s] w fun e w' => e = .returned (.int .i64 (unS s)) ∧ w' = w := by
  go_enter Tryz.func99, Tryz.ntmps99
  go_wp2
  all_goals
    go_ret
    exact ⟨ret_int' (by unfold unS; simp_all), rfl⟩
set_option maxRecDepth 100000 in
set_option maxHeartbeats 4000000 in
theorem isAggregate_any (s : ByteArray) (w : World) : Calls Tryz.prog 101 #[.string s] w fun e w' => e = .returned (.bool (agS s)) ∧ w' = w := by
  go_enter Tryz.func101, Tryz.ntmps101
  go_wp2
  all_goals
    go_ret
    exact ⟨ret_bool' (by unfold agS; simp_all), rfl⟩

/-- An empty text. -/
def emp (s : ByteArray) : Bool := s.toList == []
/-- No value is told. -/
def noV (x : ND) : Bool := x.vk == 0 && x.vn == 0 && emp x.vt
/-- What a node has beside its kids is right for its kind. -/
def fieldB (x : ND) : Bool :=
  if x.k = 1 ∨ x.k = 7 ∨ x.k = 8 ∨ x.k = 9 then x.n == 0 && emp x.nm && emp x.of && noV x
  else if x.k = 2 ∨ x.k = 3 ∨ x.k = 4 ∨ x.k = 12 then givenB x.nm && x.n == 0 && emp x.of && noV x
  else if x.k = 5 then (emp x.nm || givenB x.nm) && x.n == 0 && emp x.of && noV x
  else if x.k = 6 ∨ x.k = 14 then givenB x.nm && (emp x.of || givenB x.of) && x.n == 0 && noV x
  else if x.k = 10 then (x.n == 0 || x.n == 1) && emp x.nm && emp x.of && noV x
  else if x.k = 11 then inB x.n 0 999999999999999999 && emp x.nm && emp x.of && noV x
  else if x.k = 13 then okV x.vk x.vn x.vt && (x.vk != 2 || inB x.vn 0 999999999999999999) && x.n == 0 && emp x.nm && emp x.of
  else if x.k = 15 then decide (0 < unS x.nm) && x.n == 0 && emp x.of && noV x
  else if x.k = 16 then decide (0 < levS x.nm) && x.n == 0 && emp x.of && noV x
  else if x.k = 17 then agS x.nm && x.n == 0 && emp x.of && noV x
  else false
end Go.Proofs.YteejkmcljokloaaGreatDoor
