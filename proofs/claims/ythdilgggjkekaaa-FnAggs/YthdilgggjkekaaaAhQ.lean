/- What the law FnAggs asks of a part (stage 12). -/
import Derived.Test.YthdilgggjkekaaaAhO
namespace Go.Proofs.Ythdilgggjkekaaa
open Go.RowKit

/-- The choice of a part of a list. -/
theorem atK {w : World} {a : Option Addr} {cap len : Nat} (h : R.Code w a len) (hlen : len ≤ 1048576) (m : Nat) (hm : m ≤ 7) :
    Calls Try.prog 7 #[.slice a len cap, .int .i64 0, .int .i64 ((m : Int) + 1)] w fun e w' => ∃ k : Nat, e = .returned (.int .i64 k) ∧ k ≤ m ∧ Below w.heap.size w w' := by
  by_cases h0 : m = 0
  · subst h0
    refine (R.at_one (a := a) (cap := cap) (len := len) (w := w) 0).mono ?_
    rintro e w' ⟨rfl, rfl⟩
    exact ⟨0, rfl, Nat.le_refl _, Below.refl _ _⟩
  · refine (R.at_any (cap := cap) h hlen 0 ((m : Int) + 1) (by omega) (by omega) (by omega)).mono ?_
    rintro e w' ⟨r, rfl, h1, h2, hb⟩
    refine ⟨r.toNat, ?_, by omega, hb⟩
    rw [Int.toNat_of_nonneg h1]

theorem vals_sub {os : List (Option Int)} {l : List (Option Int)} (h : ∀ x ∈ l, x ∈ os) (hv : ∀ x ∈ vals os, -1000000 ≤ x ∧ x ≤ 1000000) : ∀ x ∈ vals l, -1000000 ≤ x ∧ x ≤ 1000000 := fun x hx => hv x (by
  unfold vals at hx ⊢
  obtain ⟨a, ha, hb⟩ := List.mem_filterMap.1 hx
  exact List.mem_filterMap.2 ⟨a, h a ha, hb⟩)
/-- Counts of parts sum up. -/
theorem cntK {os : List (Option Int)} {wq : World} {b6 c6 q k : Nat} (r6 : RowV wq (some ⟨b6, 0, none⟩) (os.map ov)) (hl : os.length = q) (hq : q ≤ 7) (hk : k ≤ q) (hqc : q ≤ c6) (hv : ∀ x ∈ vals os, -1000000 ≤ x ∧ x ≤ 1000000) :
    ∃ n1 n2 : Nat, n1 ≤ 7 ∧ n2 ≤ 7 ∧ ∀ W, Below wq.heap.size wq W →
      Calls Try.prog 5 #[.string gCount, .slice (some ⟨b6, 0, none⟩) k c6] W (RX (2, (n1 : Int), noT) W) ∧
      Calls Try.prog 5 #[.string gCount, .slice (some ⟨b6, k * 3, none⟩) (q - k : Nat) (c6 - k : Nat)] W (RX (2, (n2 : Int), noT) W) ∧
      Calls Try.prog 5 #[.string gCount, .slice (some ⟨b6, 0, none⟩) q c6] W (RX (2, (n1 : Int) + (n2 : Int), noT) W) ∧
      (c6 ≤ k → Calls Try.prog 5 #[.string gCount, .slice (some ⟨b6, 0, none⟩) (q - k : Nat) 0] W (RX (2, (n2 : Int), noT) W)) := by
  have hs := vals_cut os k
  have hle := vals_le os
  refine ⟨(vals (os.take k)).length, (vals (os.drop k)).length, by omega, by omega, fun W hb => ⟨?_, ?_, ?_, fun hck => ?_⟩⟩
  · exact implAggCount (os.take k) b6 0 c6 k W ((r6.below hb).part k (by omega)).1 (by show _ = _; rw [List.length_take]; omega) (by omega) (vals_sub (fun x hx => List.mem_of_mem_take hx) hv)
  · exact implAggCount (os.drop k) b6 (k * 3) (c6 - k) (q - k) W ((r6.below hb).part k (by omega)).2 (by show _ = _; rw [List.length_drop]; omega) (by omega) (vals_sub (fun x hx => List.mem_of_mem_drop hx) hv)
  · have := implAggCount os b6 0 c6 q W (r6.below hb) hl (by omega) hv
    rw [← hs] at this
    simpa using this
  · have hkq : os.length ≤ k := by omega
    have h0 : q - k = 0 := by omega
    have := implAggCount [] b6 0 0 0 W (fun i hi => by simp at hi) rfl (by omega) (by simp [vals])
    rw [h0, List.drop_eq_nil_of_le hkq]
    exact this


end Go.Proofs.Ythdilgggjkekaaa
