/- Bytes as texts; sums of bytes that are owned; a number's bytes behind nothing. -/
import Derived.Test.YtjiehohfbddpcaaPagA
import Derived.Deep.RegionHeld3
namespace Go.Proofs.Ytjiehohfbddpcaa
open Go.RowKit

def tx (l : List UInt8) : ByteArray := ⟨l.toArray⟩
theorem tx_size (l : List UInt8) : (tx l).size = l.length := rfl
theorem tx_list (l : List UInt8) : (tx l).data.toList = l := rfl
theorem tx_of (s : ByteArray) : tx s.data.toList = s := rfl
theorem tx_inj {l m : List UInt8} (h : tx l = tx m) : l = m := by rw [← tx_list l, h, tx_list]
theorem conv_back (w : World) (b off cap : Nat) (l : List UInt8) (h : ReadL w (some ⟨b, off, none⟩) l) : (convert 22 9 (.slice (some ⟨b, off, none⟩) l.length cap)).run Try.prog w = .ok (.string (tx l)) w := by
  refine run_convert_bytes_back (P := Try.prog) w 22 9 5 ⟨b, off, none⟩ cap l Try.underlying22 Try.underlying5 Try.underlying9 (fun j hj => ?_)
  obtain ⟨b', off', e, _, hc⟩ := h j hj
  cases e
  rw [add_plain, hc]
  unfold byU
  rw [List.getD_eq_getElem?_getD, List.getElem?_eq_getElem hj]
  rfl

theorem conv_n (w : World) (b off cap n : Nat) (l : List UInt8) (h : ReadL w (some ⟨b, off, none⟩) l) (hn : Hid (l.length = n)) : (convert 22 9 (.slice (some ⟨b, off, none⟩) n cap)).run Try.prog w = .ok (.string (tx l)) w := by
  have e := hn.out
  subst e
  exact conv_back w b off cap l h
theorem OwnL.open {w : World} {B : Nat} {v : Value} {l : List UInt8} (h : OwnL w B v l) : ∃ g n cap, v = .slice (some ⟨g, 0, none⟩) n cap ∧ Hid (l.length = n) ∧ B ≤ g ∧ Hid (ReadL w (some ⟨g, 0, none⟩) l) := by
  obtain ⟨g, cap, e, hB, hr⟩ := h.read
  exact ⟨g, l.length, cap, e, rfl, hB, hr⟩
theorem implSum_n (a : Option Addr) (c n : Nat) (l : List UInt8) (w : World) (h : ReadL w a l) (hl : Hid (l.length = n)) (hn : n ≤ 65536) :
    Calls Try.prog 26 #[.slice a n c] w fun e w' => e = .returned (.int .i64 (sumL l)) ∧ Below w.heap.size w w' := by
  have e := hl.out
  subst e
  have := implPageSum_any a c l w h (by omega)
  rwa [if_neg (by omega)] at this
theorem specSum_n (a : Option Addr) (c n : Nat) (l : List UInt8) (w : World) (h : ReadL w a l) (hl : Hid (l.length = n)) (hn : n ≤ 65536) :
    Calls Try.prog 24 #[.slice a n c] w fun e w' => e = .returned (.int .i64 (sumL l)) ∧ w' = w := by
  have e := hl.out
  subst e
  exact l03Sum_any a c l w h (by omega)
theorem num4_len (n : Int) : (num4 n).length = 4 := rfl

/-- 'append(nil, x...)' of bytes that there are. -/
theorem run_app_nil {w : World} (ty : TypeId) (b off c : Nat) (m : List UInt8) (hx : ReadL w (some ⟨b, off, none⟩) m) (h0 : 0 < m.length) (hn : m.length ≤ 1000000) :
    ∃ v' w', (Builtin.append_ #[22, 22] ty #[.slice none 0 0, .slice (some ⟨b, off, none⟩) m.length c]).run Try.prog w = .ok v' w' ∧ OwnL w' w.heap.size v' m ∧ Below w.heap.size w w' := by
  obtain ⟨i0, hi, hz0, hz1, hz2⟩ := info_parts info5
  have hr := run_append_nil (P := Try.prog) (w := w) 22 ty 5 i0 _ Try.underlying22 hi hz0 ⟨b, off, none⟩ m.length c (cellsU m) (by rw [cellsU_len, hz1]; omega) hx.news h0 (by omega) (by rw [hz2]; omega)
  have hge := grownCap_ge w m.length 0 5
  have hle := grownCap_le_maxLen w m.length 0 5 (by unfold maxLen; omega)
  refine ⟨_, _, hr, ?_, ((Below.refl _ _).drew).alloc (Nat.le_refl _) _⟩
  have := grow_put (w := w.drew) (B := w.heap.size) (c := grownCap w m.length 0 5) [] m (Builtin.zeroCells (Value.int .u8 0).cells (grownCap w m.length 0 5 - m.length)) (Nat.le_refl _) hle (by simpa using hge) (by rw [size_zeroCells]; simp [Value.cells])
  simpa [cellsU] using this

/-- One byte behind nothing. -/
theorem app0 (w : World) (x : Int) :
    ∃ v' w', (Builtin.append_ #[22, 22] 22 #[.slice none 0 0, .slice (some ⟨w.heap.size, 0, none⟩) 1 1]).run Try.prog (w.alloc (.cells #[.int .u8 (x % 256)] 5)) = .ok v' w' ∧ OwnL w' w.heap.size v' [b8 x] ∧ Below w.heap.size w w' := by
  obtain ⟨v', w', hr, ho, hb⟩ := run_app_nil 22 w.heap.size 0 1 [b8 x] (made1 w _ x rfl) (by show 0 < 1; omega) (by show 1 ≤ _; omega)
  have B1 : Below w.heap.size w (w.alloc (.cells #[.int .u8 (x % 256)] 5)) := (Below.refl _ _).alloc (Nat.le_refl _) _
  refine ⟨v', w', hr, ?_, B1.trans (hb.mono (by simp))⟩
  obtain ⟨g, cap, cur, fz, e, hB, r⟩ := ho
  exact ⟨g, cap, cur, fz, e, by simp at hB; omega, r⟩

set_option maxRecDepth 100000 in
set_option maxHeartbeats 4000000 in
/-- A number's four bytes behind nothing. -/
theorem appendNumber0 (n : Int) (w : World) :
    Calls Try.prog 25 #[.slice none 0 0, .int .i64 n, .int .i64 4] w fun e w' => ∃ v', e = .returned v' ∧ OwnL w' w.heap.size v' (num4 n) ∧ Below w.heap.size w w' := by
  go_enter Try.func25, Try.ntmps25
  go_wp2
  go_loopw [0, 7] (fun x s wr => ∃ j : Nat, j ≤ 4 ∧ s = .int .i64 (24 - 8 * j) ∧ Hid ((j = 0 ∧ x = .slice none 0 0 ∧ wr = w) ∨ (0 < j ∧ OwnL wr w.heap.size x ((num4 n).take j))) ∧ Below w.heap.size w wr) (fun _ s _ => (intOf s + 8).toNat)
  case atStart => exact ⟨0, by omega, rfl, .inl ⟨rfl, rfl, rfl⟩, Below.refl _ _⟩
  case round =>
    obtain ⟨j, hj, rfl, ho, hb⟩ := hrel
    by_cases hlt : j < 4
    · rcases (by omega : j = 0 ∨ j = 1 ∨ j = 2 ∨ j = 3) with rfl | rfl | rfl | rfl
      · have e0 : (24 - 8 * ((0 : Nat) : Int)) = 24 := by omega
        rw [e0]
        obtain ⟨_, hx0, hw0⟩ := ho.out.resolve_right (by rintro ⟨h, _⟩; omega)
        obtain rfl := hw0.symm
        subst hx0
        obtain ⟨v1, w1, hr, ho1, hb1⟩ := app0 w (n / 16777216)
        have HO : Hid ((1 = 0 ∧ v1 = .slice none 0 0 ∧ w1 = w) ∨ (0 < 1 ∧ OwnL w1 w.heap.size v1 ((num4 n).take 1))) := by
          have : [b8 (n / 16777216)] = (num4 n).take 1 := by simp [num4]
          rw [this] at ho1; exact .inr ⟨by omega, ho1⟩
        clear ho ho1
        go_wp2_with (at_builtin; refine Lib.wpList_append_run _ rfl _ _ _ _ rfl _ _ rfl rfl _ _ hr ?_)
        go_roundw
        case rel => exact ⟨1, by omega, by go_num, HO, hb1⟩
        case measure => simp [intOf] <;> omega
      · have e0 : (24 - 8 * ((1 : Nat) : Int)) = 16 := by omega
        rw [e0]
        have ho' := (ho.out.resolve_left (by rintro ⟨h, _⟩; omega)).2
        obtain ⟨v1, w1, hr, ho1, hb1⟩ := app1 (n / 65536) ho' hb (Nat.le_refl _) (by simp [num4] <;> omega)
        have HO : Hid ((2 = 0 ∧ v1 = .slice none 0 0 ∧ w1 = w) ∨ (0 < 2 ∧ OwnL w1 w.heap.size v1 ((num4 n).take 2))) := by
          have : (num4 n).take 1 ++ [b8 (n / 65536)] = (num4 n).take 2 := by simp [num4]
          rw [this] at ho1; exact .inr ⟨by omega, ho1⟩
        clear ho' 
        clear ho ho1 hb
        go_wp2_with (at_builtin; refine Lib.wpList_append_run _ rfl _ _ _ _ rfl _ _ rfl rfl _ _ hr ?_)
        go_roundw
        case rel => exact ⟨2, by omega, by go_num, HO, hb1⟩
        case measure => simp [intOf] <;> omega
      · have e0 : (24 - 8 * ((2 : Nat) : Int)) = 8 := by omega
        rw [e0]
        have ho' := (ho.out.resolve_left (by rintro ⟨h, _⟩; omega)).2
        obtain ⟨v1, w1, hr, ho1, hb1⟩ := app1 (n / 256) ho' hb (Nat.le_refl _) (by simp [num4] <;> omega)
        have HO : Hid ((3 = 0 ∧ v1 = .slice none 0 0 ∧ w1 = w) ∨ (0 < 3 ∧ OwnL w1 w.heap.size v1 ((num4 n).take 3))) := by
          have : (num4 n).take 2 ++ [b8 (n / 256)] = (num4 n).take 3 := by simp [num4]
          rw [this] at ho1; exact .inr ⟨by omega, ho1⟩
        clear ho' 
        clear ho ho1 hb
        go_wp2_with (at_builtin; refine Lib.wpList_append_run _ rfl _ _ _ _ rfl _ _ rfl rfl _ _ hr ?_)
        go_roundw
        case rel => exact ⟨3, by omega, by go_num, HO, hb1⟩
        case measure => simp [intOf] <;> omega
      · have e0 : (24 - 8 * ((3 : Nat) : Int)) = 0 := by omega
        rw [e0]
        have ho' := (ho.out.resolve_left (by rintro ⟨h, _⟩; omega)).2
        obtain ⟨v1, w1, hr, ho1, hb1⟩ := app1 (n) ho' hb (Nat.le_refl _) (by simp [num4] <;> omega)
        have HO : Hid ((4 = 0 ∧ v1 = .slice none 0 0 ∧ w1 = w) ∨ (0 < 4 ∧ OwnL w1 w.heap.size v1 ((num4 n).take 4))) := by
          have : (num4 n).take 3 ++ [b8 (n)] = (num4 n).take 4 := by simp [num4]
          rw [this] at ho1; exact .inr ⟨by omega, ho1⟩
        clear ho' 
        clear ho ho1 hb
        go_wp2_with (at_builtin; refine Lib.wpList_append_run _ rfl _ _ _ _ rfl _ _ rfl rfl _ _ hr ?_)
        go_roundw
        case rel => exact ⟨4, by omega, by go_num, HO, hb1⟩
        case measure => simp [intOf] <;> omega
    · obtain rfl : j = 4 := by omega
      have e0 : (24 - 8 * ((4 : Nat) : Int)) = -8 := by omega
      rw [e0]
      go_wp2
      go_ret
      exact ⟨_, rfl, (ho.out.resolve_left (by rintro ⟨h, _⟩; omega)).2, hb⟩
end Go.Proofs.Ytjiehohfbddpcaa
