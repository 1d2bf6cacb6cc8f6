/- Which is ahead of which: spec's look (stage 8). -/
import Derived.Test.YtlcgmifibekegaaCfC
namespace Go.Proofs.Ytlcgmifibekegaa
open Go.RowKit

/-- Act k of y meets act i of x. -/
def MeetP (ss : List TH) (x y : Int) (i k : Nat) : Prop := (nthH ss i).1 = x ∧ (nthH ss i).2.1 ≤ 2 ∧ (nthH ss k).1 = y ∧ (nthH ss k).2.1 ≤ 2 ∧ (nthH ss k).2.2.1.toList = (nthH ss i).2.2.1.toList ∧ 2 < (nthH ss i).2.1 + (nthH ss k).2.1
/-- An act of x is ahead of one of y that it meets. -/
noncomputable def ahB (ss : List TH) (x y : Int) : Bool := asB (∃ i k, i < k ∧ k < ss.length ∧ MeetP ss x y i k)
/-- Kinds are those of acts. -/
def KindP (ss : List TH) : Prop := ∀ i, i < ss.length → 1 ≤ (nthH ss i).2.1 ∧ (nthH ss i).2.1 ≤ 4
theorem HistP.kinds {ss : List TH} (h : HistP ss) : KindP ss := fun i hi => by
  rcases (h.2 i hi).1.1.2 with h | h | h <;> have := h.1 <;> omega

set_option maxRecDepth 100000 in
set_option maxHeartbeats 4000000 in
theorem l08Ahead_any (a : Option Addr) (cap : Nat) (ss : List TH) (x y : Int) (w : World) (h : RowH w a ss) (hl : ss.length ≤ 1048576) (hk : KindP ss) :
    Calls Try.prog 105 #[.slice a ss.length cap, .int .i64 x, .int .i64 y] w fun e w' => e = .returned (.bool (ahB ss x y)) ∧ Below w.heap.size w w' := by
  have HR : Hid (RowH w a ss) := h
  have HKP : Hid (KindP ss) := hk
  clear h hk
  obtain ⟨len, hlen⟩ : ∃ m, ss.length = m := ⟨_, rfl⟩
  have HL : Hid (ss.length = len) := hlen
  rw [hlen] at hl ⊢
  clear hlen
  go_enter Try.func105, Try.ntmps105
  go_wp2
  go_loopw [7] (fun i wr => ∃ k : Nat, k ≤ len ∧ i = .int .i64 k ∧ Hid (∀ i, i < k → ∀ j, i < j → j < len → ¬ MeetP ss x y i j) ∧ Below w.heap.size w wr) (fun i _ => len - (intOf i).toNat)
  case atStart => exact ⟨0, by omega, rfl, fun i hi => by omega, Below.refl _ _⟩
  case round =>
    obtain ⟨i, hi, rfl, HS, hbl⟩ := hrel
    by_cases hlt : i < len
    · obtain ⟨b, off, rfl, hlb, ⟨q0, q1, q2, q3⟩, _, _⟩ := (HR.out.below hbl) i (by rw [HL.out]; exact hlt)
      have hltI : (i : Int) < (len : Int) := by omega
      obtain ⟨k1, k4⟩ := HKP.out i (by rw [HL.out]; exact hlt)
      obtain ⟨p, hp⟩ : ∃ p, nthH ss i = p := ⟨_, rfl⟩
      have HX : Hid (nthH ss i = p) := hp
      rw [hp] at q0 q1 q2 q3 k1 k4
      clear hp
      obtain ⟨tx, kd, ky, va⟩ := p
      simp only at k1 k4
      by_cases h1 : tx = x
      · by_cases h2 : 2 < kd
        · have HN : Hid (∀ i', i' < i + 1 → ∀ j, i' < j → j < len → ¬ MeetP ss x y i' j) := fun i' hi' j h3 h4 hm => by
            by_cases e : i' = i
            · subst e; have := hm.2.1; rw [HX.out] at this; simp only at this; omega
            · exact HS.out i' (by omega) j h3 h4 hm
          have h1' : (tx != x) = false := by simp [h1]
          clear h1
          go_wp2
          go_roundw
          case rel => exact ⟨i + 1, by omega, by go_num, HN, hbl⟩
          case measure => simp [intOf]; omega
        · have h1' : (tx != x) = false := by simp [h1]
          have HTX : Hid (tx = x) := h1
          have HQ : Hid (∀ wr', Below w.heap.size w wr' → CellH wr' b (off + i * 4) (tx, kd, ky, va)) := fun wr' hb => by
            obtain ⟨b', off', e', _, hc, _⟩ := (HR.out.below hb) i (by rw [HL.out]; exact hlt)
            cases e'
            rw [HX.out] at hc
            exact hc
          clear h1
          go_wp2
          go_loopw [8] (fun j wr => ∃ m : Nat, i + 1 ≤ m ∧ m ≤ len ∧ j = .int .i64 m ∧ Hid (∀ j, i < j → j < m → ¬ MeetP ss x y i j) ∧ Below w.heap.size w wr) (fun j _ => len - (intOf j).toNat)
          case atStart => exact ⟨i + 1, by omega, by omega, by go_num, fun j h1 h2 => by omega, hbl⟩
          case round =>
            clear hbl q0 q1 q2 q3
            obtain ⟨m, hm0, hm, rfl, HM, hbm⟩ := hrel
            by_cases hlt2 : m < len
            · have hlt2I : (m : Int) < (len : Int) := by omega
              obtain ⟨b', off', e', hlb2, ⟨r0, r1, r2, r3⟩, _, _⟩ := (HR.out.below hbm) m (by rw [HL.out]; exact hlt2)
              cases e'
              obtain ⟨q0, q1, q2, q3⟩ := HQ.out wr hbm
              simp only at q0 q1 q2 q3
              obtain ⟨c1, c4⟩ := HKP.out m (by rw [HL.out]; exact hlt2)
              obtain ⟨p, hp⟩ : ∃ p, nthH ss m = p := ⟨_, rfl⟩
              have HY : Hid (nthH ss m = p) := hp
              rw [hp] at r0 r1 r2 r3 c1 c4
              clear hp
              obtain ⟨ux, ld, ly, vb⟩ := p
              simp only at c1 c4 r0 r1 r2 r3
              have HNO : Hid ((¬ MeetP ss x y i m) → ∀ j, i < j → j < m + 1 → ¬ MeetP ss x y i j) := fun hn j h3 h4 hm' => by
                by_cases e : j = m
                · subst e; exact hn hm'
                · exact HM.out j h3 (by omega) hm'
              cases d1 : (ux == y) with
              | false =>
                have HN := HNO.out (fun h => by have := h.2.2.1; rw [HY.out] at this; simp only at this; rw [this] at d1; simp at d1)
                have HN' : Hid (∀ j, i < j → j < m + 1 → ¬ MeetP ss x y i j) := HN
                clear HN HNO
                go_wp2_with fail
                go_quiet (fail)
                go_wp2
                go_roundw
                case rel => exact ⟨m + 1, by omega, by omega, by go_num, HN', below_drewN hbm _⟩
                case measure => simp [intOf]; omega
              | true =>
                by_cases d2 : ld ≤ 2
                · cases d3 : (ly.toList == ky.toList) with
                  | false =>
                    have HN := HNO.out (fun h => by have := h.2.2.2.2.1; rw [HY.out, HX.out] at this; simp only at this; rw [this] at d3; simp at d3)
                    have HN' : Hid (∀ j, i < j → j < m + 1 → ¬ MeetP ss x y i j) := HN
                    clear HN HNO
                    go_wp2_with fail
                    go_quiet (fail)
                    go_wp2
                    go_roundw
                    case rel => exact ⟨m + 1, by omega, by omega, by go_num, HN', below_drewN hbm _⟩
                    case measure => simp [intOf]; omega
                  | true =>
                    by_cases d4 : 2 < kd + ld
                    · have HA : Hid (true = ahB ss x y) := asB_true ⟨i, m, by omega, by rw [HL.out]; exact hlt2, by rw [HX.out]; exact HTX.out, by rw [HX.out]; simp only; omega, by rw [HY.out]; simpa using d1, by rw [HY.out]; exact d2, by rw [HX.out, HY.out]; simpa using d3, by rw [HX.out, HY.out]; exact d4⟩
                      clear HNO
                      go_wp2_with fail
                      go_quiet (fail)
                      go_wp2
                      go_ret
                      exact ⟨ret_bool' HA.out, below_drewN hbm _⟩
                    · have HN := HNO.out (fun h => by have := h.2.2.2.2.2; rw [HY.out, HX.out] at this; simp only at this; omega)
                      have HN' : Hid (∀ j, i < j → j < m + 1 → ¬ MeetP ss x y i j) := HN
                      clear HN HNO
                      go_wp2_with fail
                      go_quiet (fail)
                      go_wp2
                      go_roundw
                      case rel => exact ⟨m + 1, by omega, by omega, by go_num, HN', below_drewN hbm _⟩
                      case measure => simp [intOf]; omega
                · have HN := HNO.out (fun h => by have := h.2.2.2.1; rw [HY.out] at this; simp only at this; omega)
                  have d2' : decide (ld ≤ 2) = false := decide_eq_false d2
                  have HN' : Hid (∀ j, i < j → j < m + 1 → ¬ MeetP ss x y i j) := HN
                  clear HN HNO
                  go_wp2_with fail
                  go_quiet (fail)
                  go_wp2
                  go_roundw
                  case rel => exact ⟨m + 1, by omega, by omega, by go_num, HN', below_drewN hbm _⟩
                  case measure => simp [intOf]; omega
            · obtain rfl : m = len := by omega
              have HN : Hid (∀ i', i' < i + 1 → ∀ j, i' < j → j < m → ¬ MeetP ss x y i' j) := fun i' hi' j h3 h4 hm => by
                by_cases e : i' = i
                · subst e; exact HM.out j h3 h4 hm
                · exact HS.out i' (by omega) j h3 h4 hm
              go_wp2
              go_roundw
              case rel => exact ⟨i + 1, by omega, by go_num, HN, hbm⟩
              case measure => simp [intOf]; omega
      · have HN : Hid (∀ i', i' < i + 1 → ∀ j, i' < j → j < len → ¬ MeetP ss x y i' j) := fun i' hi' j h3 h4 hm => by
          by_cases e : i' = i
          · subst e; have := hm.1; rw [HX.out] at this; exact h1 this
          · exact HS.out i' (by omega) j h3 h4 hm
        have h1' : (tx != x) = true := by simp [h1]
        clear h1
        go_wp2
        go_roundw
        case rel => exact ⟨i + 1, by omega, by go_num, HN, hbl⟩
        case measure => simp [intOf]; omega
    · obtain rfl : i = len := by omega
      go_wp2
      go_ret
      exact ⟨ret_bool' (asB_false (fun ⟨p, q, h1, h2, h3⟩ => HS.out p (by rw [HL.out] at h2; omega) q h1 (by rw [← HL.out]; exact h2) h3)), hbl⟩
end Go.Proofs.Ytlcgmifibekegaa
