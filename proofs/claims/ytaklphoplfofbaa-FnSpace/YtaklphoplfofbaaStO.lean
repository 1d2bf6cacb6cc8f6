/- l04Own: the specification's copy of a space (stage 4). -/
import Derived.Test.YtaklphoplfofbaaStH
namespace Go.Proofs.Ytaklphoplfofbaa
open Go.RowKit

/-- What reads as l is appended onto an empty list that was just made. -/
theorem app_I (v : Value) (l : List Int) (w : World) (h : ReadI w v l) (hl : l.length ≤ 1048576) (g : Nat) (hg : w.heap[g]? = some (.cells #[] 3 (0, 0))) (B : Nat) (hB : B ≤ g) :
    ∃ v' w', (Builtin.append_ #[26, 26] 26 #[.slice (some ⟨g, 0, none⟩) 0 0, v]).run Try.prog w = .ok v' w' ∧ OwnI w' B v' l ∧ w.grownBy w' (some g) ∧ (∀ j, v'.ownBlock = some j → j = g ∨ w.heap.size ≤ j) := by
  obtain ⟨i0, hi, hz0, hz1, hz2⟩ := info_parts info3
  have own0 : w.ownsRow B 3 1 (.slice (some ⟨g, 0, none⟩) 0 0) 0 [] := ⟨rfl, .inr ⟨g, 0, #[], rfl, hB, hg, Nat.le_refl _, by decide, rfl, rfl⟩⟩
  rcases h with ⟨rfl, rfl⟩ | ⟨p, c, rfl, _, r⟩
  · have hr := run_append_owned_none (P := Try.prog) w B 26 26 3 i0 1 Try.underlying26 hi _ 0 [] own0
    exact ⟨_, _, hr, own0, ⟨rfl, rfl, rfl, Nat.le_refl _, fun _ _ _ => rfl⟩, fun j hj => by cases hj; exact .inl rfl⟩
  · by_cases hz : l = []
    · subst hz
      have hr := run_append_room_cells (P := Try.prog) w 26 26 3 i0 Try.underlying26 hi g 0 0 0 p 0 c [] (by simp) (fun j u h => by simp at h) (fun u h => by cases h) (Nat.le_refl _) (fun j h => by simp at h) (fun j h => by simp at h)
      exact ⟨_, _, hr, own0, ⟨rfl, rfl, rfl, Nat.le_refl _, fun _ _ _ => rfl⟩, fun j hj => by cases hj; exact .inl rfl⟩
    · have hl0 : 0 < l.length := List.length_pos_iff.mpr hz
      obtain ⟨v', w', hrun, r1, r2⟩ := run_append_arg_grows (P := Try.prog) w 26 26 3 i0 (.int .i64 0) 1 8 Try.underlying26 hi hz0 hz1 hz2 rfl (by decide) ⟨g, 0, none⟩ 0 0 [] rfl (fun j u h => by simp at h) p l.length c (l.map (Value.int .i64)) (by simp) (rowI_news r) (by omega) (by unfold maxLen; omega) (by omega)
      exact ⟨v', w', hrun, ownI_of (own_mono (by simpa using r1) (by have := slab_lt hg; omega)), ⟨r2.os, r2.tape, r2.output, r2.size, fun k hk _ => r2.block k hk (by simp)⟩, fun j hj => .inr (own_lt r1 hj).1⟩
theorem app_P (v : Value) (l : List P2) (w : World) (h : ReadP w v l) (hl : l.length ≤ 1048576) (g : Nat) (hg : w.heap[g]? = some (.cells #[] 88 (0, 0))) (B : Nat) (hB : B ≤ g) :
    ∃ v' w', (Builtin.append_ #[27, 27] 27 #[.slice (some ⟨g, 0, none⟩) 0 0, v]).run Try.prog w = .ok v' w' ∧ OwnP w' B v' l ∧ w.grownBy w' (some g) ∧ (∀ j, v'.ownBlock = some j → j = g ∨ w.heap.size ≤ j) := by
  obtain ⟨i0, hi, hz0, hz1, hz2⟩ := info_parts info88
  have own0 : w.ownsRow B 88 2 (.slice (some ⟨g, 0, none⟩) 0 0) 0 [] := ⟨rfl, .inr ⟨g, 0, #[], rfl, hB, hg, Nat.le_refl _, by decide, rfl, rfl⟩⟩
  rcases h with ⟨rfl, rfl⟩ | ⟨p, c, rfl, _, r⟩
  · have hr := run_append_owned_none (P := Try.prog) w B 27 27 88 i0 2 Try.underlying27 hi _ 0 [] own0
    exact ⟨_, _, hr, own0, ⟨rfl, rfl, rfl, Nat.le_refl _, fun _ _ _ => rfl⟩, fun j hj => by cases hj; exact .inl rfl⟩
  · by_cases hz : l = []
    · subst hz
      have hr := run_append_room_cells (P := Try.prog) w 27 27 88 i0 Try.underlying27 hi g 0 0 0 p 0 c [] (by simp) (fun j u h => by simp at h) (fun u h => by cases h) (Nat.le_refl _) (fun j h => by simp at h) (fun j h => by simp at h)
      exact ⟨_, _, hr, own0, ⟨rfl, rfl, rfl, Nat.le_refl _, fun _ _ _ => rfl⟩, fun j hj => by cases hj; exact .inl rfl⟩
    · have hl0 : 0 < l.length := List.length_pos_iff.mpr hz
      obtain ⟨v', w', hrun, r1, r2⟩ := run_append_arg_grows (P := Try.prog) w 27 27 88 i0 (.agg #[.int .i64 0, .int .i64 0]) 2 16 Try.underlying27 hi hz0 hz1 hz2 rfl (by decide) ⟨g, 0, none⟩ 0 0 [] rfl (fun j u h => by simp at h) p l.length c (cellsP l) (cellsP_len l) (rowP_news r) (by omega) (by unfold maxLen; omega) (by omega)
      exact ⟨v', w', hrun, ownP_of (own_mono (by simpa using r1) (by have := slab_lt hg; omega)), ⟨r2.os, r2.tape, r2.output, r2.size, fun k hk _ => r2.block k hk (by simp)⟩, fun j hj => .inr (own_lt r1 hj).1⟩
end Go.Proofs.Ytaklphoplfofbaa
