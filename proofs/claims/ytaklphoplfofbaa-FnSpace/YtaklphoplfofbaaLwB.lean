/- Marks on what SpaceStep answers, and how they are looked for (stage 4). -/
import Derived.Test.YtaklphoplfofbaaLwA
import Derived.Test.YtaklphoplfofbaaStP
namespace Go.Proofs.Ytaklphoplfofbaa
open Go.RowKit

theorem markI_ownK {w : World} {B : Nat} {v : Value} {l : List Int} (h : OwnI w B v l) (hl : l.length ≤ 1048576) (k : Int) (k0 : 0 ≤ k) (k1 : k ≤ 1000000000) :
    Calls Try.prog 27 #[v, .int .i64 k] w fun r w' => r = .returned (.int .i64 (k + l.length)) ∧ OwnI w' B v (marksL k l.length) ∧ Kept (fun j => v.ownBlock = some j) w w' := by
  rcases h.2 with ⟨rfl, hn⟩ | ⟨g, cap, cur, rfl, hB, hh, hc, hm, hs, ht⟩
  · rw [hn]
    refine (markI_nil none 0 k w).mono ?_
    rintro r w' ⟨rfl, rfl⟩
    exact ⟨by simp, ⟨rfl, .inl ⟨rfl, rfl⟩⟩, Kept.refl _ _⟩
  · refine (markI_slab g l.length cap (cap * 1) cur k w hh hs (by omega) k0 k1 hl).mono ?_
    rintro r w' ⟨rfl, ⟨cur', hh', hs', hv⟩, hK⟩
    refine ⟨rfl, ⟨by simp [marksL], .inr ⟨g, cap, cur', by rw [marksL_len], hB, hh', by rw [marksL_len]; exact hc, hm, hs', ?_⟩⟩, hK.mono fun j hj => by rw [hj]; rfl⟩
    rw [marksL_len]
    apply List.ext_getElem?
    intro i
    by_cases hi : i < l.length
    · rw [List.getElem?_take_of_lt (by omega), Array.getElem?_toList, hv i hi, List.getElem?_map, List.getElem?_eq_getElem (by rw [marksL_len]; exact hi)]
      simp [marksL]
    · rw [List.getElem?_eq_none (by rw [List.length_take]; omega), List.getElem?_eq_none (by rw [List.length_map, marksL_len]; omega)]
theorem heldI_ownK {w : World} {B : Nat} {v : Value} {n : Nat} {k : Int} (h : OwnI w B v (marksL k n)) (k0 : 0 ≤ k) (k1 : k ≤ 1000000000) (hn : n ≤ 1048576) : Calls Try.prog 28 #[v, .int .i64 k] w fun r w' => r = .returned (.int .i64 (k + n)) ∧ w' = w := by
  obtain ⟨a, c, rfl, r, _⟩ := h.row
  rw [marksL_len]
  exact heldI_marks a n c k w r k0 k1 hn
theorem markH_own {w : World} {B : Nat} {v : Value} {l : List P2} (h : OwnP w B v l) (hl : l.length ≤ 1048576) (k : Int) (k0 : 0 ≤ k) (k1 : k ≤ 1000000000) :
    Calls Try.prog 53 #[v, .int .i64 k] w fun r w' => r = .returned (.int .i64 (k + 2 * l.length)) ∧ OwnP w' B v (marksP k l.length) ∧ Kept (fun j => v.ownBlock = some j) w w' := by
  rcases h.2 with ⟨rfl, hn⟩ | ⟨g, cap, cur, rfl, hB, hh, hc, hm, hs, ht⟩
  · rw [hn]
    refine (markH_nil none 0 k w).mono ?_
    rintro r w' ⟨rfl, rfl⟩
    exact ⟨by simp, ⟨rfl, .inl ⟨rfl, rfl⟩⟩, Kept.refl _ _⟩
  · refine (markH_vals g l.length cap (cap * 2) cur k w hh hs (by omega) k0 k1 hl).mono ?_
    rintro r w' ⟨rfl, ⟨cur', hh', hs', hv⟩, hK⟩
    refine ⟨rfl, ⟨by rw [cellsP_len], .inr ⟨g, cap, cur', by rw [marksP_len], hB, hh', by rw [marksP_len]; exact hc, hm, hs', ?_⟩⟩, hK.mono fun j hj => by rw [hj]; rfl⟩
    rw [marksP_len]
    apply List.ext_getElem?
    intro i
    by_cases hi : i < l.length * 2
    · rw [List.getElem?_take_of_lt hi, Array.getElem?_toList]
      have h2 := hv (i / 2) (by omega)
      obtain ⟨c0, c1⟩ := cellsP_get (marksP k l.length) (i / 2) (by rw [marksP_len]; omega)
      rw [marksP_nth k l.length (i / 2) (by omega)] at c0 c1
      rcases (show i = i / 2 * 2 ∨ i = i / 2 * 2 + 1 by omega) with e | e
      · rw [e, h2.1]
        rw [← e] at c0
        rw [show i / 2 * 2 = i by omega, c0]
      · rw [e, h2.2]
        rw [← e] at c1
        rw [show i / 2 * 2 + 1 = i by omega, c1]
    · rw [List.getElem?_eq_none (by rw [List.length_take]; omega), List.getElem?_eq_none (by rw [cellsP_len, marksP_len]; omega)]
theorem heldH_own {w : World} {B : Nat} {v : Value} {n : Nat} {k : Int} (h : OwnP w B v (marksP k n)) (k0 : 0 ≤ k) (k1 : k ≤ 1000000000) (hn : n ≤ 1048576) : Calls Try.prog 54 #[v, .int .i64 k] w fun r w' => r = .returned (.int .i64 (k + 2 * n)) ∧ w' = w := by
  obtain ⟨a, c, rfl, r⟩ := OwnP.row h
  rw [marksP_len]
  exact heldH_marks a n c k w r k0 k1 hn
theorem OwnP.kept {S : Nat → Prop} {w w' : World} {B : Nat} {v : Value} {l : List P2} (h : OwnP w B v l) (hK : Kept S w w') (hS : ∀ j, v.ownBlock = some j → ¬ S j) : OwnP w' B v l :=
  own_at h fun j hj => hK.block j (own_lt h hj).2 (hS j hj)
end Go.Proofs.Ytaklphoplfofbaa
