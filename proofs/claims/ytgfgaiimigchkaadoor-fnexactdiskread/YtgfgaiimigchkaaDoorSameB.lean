/- Texts held against texts, and what spec reads of a sector. -/
import Derived.Test.YtgfgaiimigchkaaDoorSameA
namespace Go.Proofs.YtgfgaiimigchkaaDoor
open Go.RowKit

/-- Two texts have the same bytes. -/
abbrev same (s t : ByteArray) : Bool := s.toList == t.toList
def eqAll (f f' : Nat → ByteArray) : Nat → Bool
  | 0 => true
  | k + 1 => eqAll f f' k && same (f k) (f' k)
theorem eqAll_le {f f' : Nat → ByteArray} {k : Nat} : ∀ {n : Nat}, k < n → same (f k) (f' k) = false → eqAll f f' n = false
  | 0, h, _ => by omega
  | n + 1, h, hne => by
    show (eqAll f f' n && _) = false
    by_cases e : k = n
    · subst e; rw [hne]; simp
    · rw [eqAll_le (by omega) hne]; rfl
theorem eqAll_true {f f' : Nat → ByteArray} : ∀ {n : Nat}, (∀ j, j < n → same (f j) (f' j) = true) → eqAll f f' n = true
  | 0, _ => rfl
  | n + 1, h => by
    show (eqAll f f' n && _) = true
    rw [eqAll_true (fun j hj => h j (by omega)), h n (by omega)]; rfl

set_option maxHeartbeats 1000000 in
theorem equal_any (g g' len len' c c' : Nat) (f f' : Nat → ByteArray) (w : World) (h1 : SlabT w g f len) (h2 : SlabT w g' f' len') (hl : len ≤ 1048576) (hl' : len' ≤ 1048576) :
    Calls Tryd.prog 48 #[.slice (some ⟨g, 0, none⟩) len c, .slice (some ⟨g', 0, none⟩) len' c'] w fun e w' => e = .returned (.bool (decide (len = len') && eqAll f f' len)) ∧ Below w.heap.size w w' := by
  have H1 : Hid (SlabT w g f len) := h1
  have H2 : Hid (SlabT w g' f' len') := h2
  clear h1 h2
  by_cases hne : len = len'
  · subst hne
    have HR : Hid ((decide (len = len) && eqAll f f' len) = eqAll f f' len) := by show _ = _; simp
    go_enter Tryd.func48, Tryd.ntmps48
    go_wp2
    go_loopw [13] (fun i wr => ∃ k : Nat, k ≤ len ∧ i = .int .i64 k ∧ (∀ j, j < k → same (f j) (f' j) = true) ∧ Below w.heap.size w wr) (fun i _ => len - (intOf i).toNat)
    case atStart => exact ⟨0, by omega, rfl, fun j hj => by omega, Below.refl _ _⟩
    case round =>
      obtain ⟨k, hk, rfl, hall, hbl⟩ := hrel
      by_cases hlt : k < len
      · have hc1 := (H1.out.below hbl H1.out.lt).cell hlt
        have hc2 := (H2.out.below hbl H2.out.lt).cell hlt
        have hltI : (k : Int) < (len : Int) := by omega
        by_cases he : ((f k).toList == (f' k).toList) = true
        · have HA : Hid (∀ j, j < k + 1 → same (f j) (f' j) = true) := all_step' (P := fun j => same (f j) (f' j) = true) hall he
          clear hall
          go_wp2_with fail
          go_quiet (fail)
          go_wp2
          go_roundw
          case rel => exact ⟨k + 1, by omega, by go_num, HA.out, below_drewN hbl _⟩
          case measure => simp [intOf]; omega
        · have he' : ((f k).toList == (f' k).toList) = false := by simpa using he
          have H : Hid (eqAll f f' len = false) := eqAll_le hlt he'
          clear he
          clear hall
          go_wp2_with fail
          go_quiet (fail)
          go_wp2
          go_ret
          exact ⟨ret_bool' (by rw [HR.out, H.out]), below_drewN hbl _⟩
      · have H : Hid (eqAll f f' len = true) := eqAll_true (fun j hj => hall j (by omega))
        clear hall
        go_wp2
        go_ret
        exact ⟨ret_bool' (by rw [HR.out, H.out]), hbl⟩
  · have HR : Hid ((decide (len = len') && eqAll f f' len) = false) := by show _ = _; rw [decide_eq_false hne]; rfl
    have hne' : ¬ (len : Int) = (len' : Int) := by omega
    go_enter Tryd.func48, Tryd.ntmps48
    go_wp2
    go_ret
    exact ⟨ret_bool' HR.out.symm, Below.refl _ _⟩

set_option maxRecDepth 100000 in
set_option maxHeartbeats 1000000 in
theorem l02Read_any (a a' : Option Addr) (c c' : Nat) (ss : List ByteArray) (ps : List P2) (m : Nat) (w : World) (hs : RowS w a ss) (hp : RowP w a' ps) (hlp : ps.length ≤ 1048576) (hm : m < ss.length) :
    Calls Tryd.prog 59 #[DV a ss.length c a' ps.length c', .int .i64 m] w fun e w' => e = .returned (.string (readK ss ps m ps.length)) ∧ Below w.heap.size w w' := by
  have HS : Hid (RowS w a ss) := hs
  have HP : Hid (RowP w a' ps) := hp
  clear hs hp
  have B0 : Below w.heap.size w (w.alloc (.cells #[.slice a ss.length c, .slice a' ps.length c'] 28)) := (Below.refl _ _).alloc (Nat.le_refl _) _
  have X0 : BoxD w.heap.size a ss.length c a' ps.length c' (w.alloc (.cells #[.slice a ss.length c, .slice a' ps.length c'] 28)) := BoxD.new 28
  generalize hL : ss.length = len at *
  generalize hM : ps.length = num at *
  have HL : Hid (ss.length = len) := hL
  have HM : Hid (ps.length = num) := hM
  clear hL hM
  go_enter Tryd.func59, Tryd.ntmps59
  go_wp2
  go_loopw [5] (fun i wr => ∃ k : Nat, k ≤ num ∧ i = .int .i64 ((k : Int) - 1) ∧ readK ss ps m k = readK ss ps m num ∧ Below w.heap.size w wr ∧ BoxD w.heap.size a len c a' num c' wr) (fun i _ => (intOf i + 1).toNat)
  case atStart => exact ⟨num, by omega, by go_num, rfl, B0, X0⟩
  case round =>
    obtain ⟨k, hk, rfl, hr, hbl, hx0, hx1, hx2⟩ := hrel
    cases k with
    | zero =>
      obtain ⟨b, off, rfl, hlb, hc0, hsz⟩ := (HS.out.below hbl) m (by rw [HL.out]; exact hm)
      have H : Hid (nthS ss m = readK ss ps m num) := hr
      clear B0 X0 hr
      have hneg : ((0 : Nat) : Int) - 1 < 0 := by omega
      generalize ((0 : Nat) : Int) - 1 = i at *
      go_wp2
      go_ret
      exact ⟨ret_val (congrArg Value.string H.out), hbl⟩
    | succ k =>
      obtain ⟨b, off, rfl, hlb, ⟨hc0, hc1⟩, hsz⟩ := (HP.out.below hbl) k (by rw [HM.out]; omega)
      have hki : ((k + 1 : Nat) : Int) - 1 = k := by omega
      rw [hki]
      clear B0 X0 hki
      by_cases he : (nthP ps k).1 = m
      · have H : Hid ((nthP ps k).2 = readK ss ps m num) := by show _ = _; rw [← hr]; show _ = if _ then _ else _; rw [if_pos he]
        rw [he] at hc0
        clear hr he
        go_wp2
        go_ret
        exact ⟨ret_val (congrArg Value.string H.out), hbl⟩
      · have H : Hid (readK ss ps m k = readK ss ps m num) := by show _ = _; rw [← hr]; show _ = if _ then _ else _; rw [if_neg he]
        clear hr
        go_wp2
        go_roundw
        case rel => exact ⟨k, by omega, by go_num, H.out, hbl, hx0, hx1, hx2⟩
        case measure => simp [intOf]
end Go.Proofs.YtgfgaiimigchkaaDoor
