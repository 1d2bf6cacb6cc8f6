/- impl's copyWith: a row with one value more (stage 11). -/
import Derived.Test.YtffjnhhfplcloaaGreatDoorWdA
namespace Go.Proofs.YtffjnhhfplcloaaGreatDoor
open Go.RowKit

theorem grownV {B : Nat} {w u u' : World} {v : Value} {l : List V3} (h : Below B w u) (hB : B ≤ u.heap.size) (ho : OwnV u B v l) (hg : u.grownBy u' v.ownBlock) : Below B w u' := by
  refine h.grown hg hB fun j hj => ?_
  obtain ⟨_, ⟨rfl, _⟩ | ⟨g, cap, cur, rfl, hg', _⟩⟩ := ho
  · cases hj
  · cases hj
    exact hg'
set_option maxRecDepth 100000 in
set_option maxHeartbeats 4000000 in
theorem copyWith_any (g ob m : Nat) (vs : List V3) (v : V3) (w : World) (hV : RowV w (some ⟨g, 0, none⟩) vs) (hm : vs.length = m) (h0 : 0 < m) (h8 : m ≤ 8) (hO : RowV w (some ⟨ob, 0, none⟩) [v]) :
    Calls Tryz.prog 95 #[.slice (some ⟨g, 0, none⟩) m m, .int .i64 m, .int .i64 m, .slice (some ⟨ob, 0, none⟩) 1 1] w fun r w' => ∃ u, r = .returned u ∧ OwnV w' w.heap.size u (vs ++ [v]) ∧ Below w.heap.size w w' := by
  have HR : Hid (RowV w (some ⟨g, 0, none⟩) vs ∧ RowV w (some ⟨ob, 0, none⟩) [v]) := ⟨hV, hO⟩
  have HM : Hid (vs.length = m) := hm
  clear hV hO hm
  obtain ⟨i0, hi, hz0, hz1, hz2⟩ := info_parts infoV
  have hmI : (m : Int) ≤ 8 := by omega
  have hm0 : ¬ (m = 0) := by omega
  go_enter Tryz.func95, Tryz.ntmps95
  go_wp2_with (at_make; refine wpList_make_own _ rfl _ _ 32 rfl w.heap.size 46 i0 _ 3 Tryz.underlying32 hi hz0 hz1 .i64 .i64 _ (m + 1) rfl rfl ?m0 ?m1 ?m2 (Nat.le_refl _) ?_)
  case m0 => push_cast; omega
  case m1 => rw [hz2]; omega
  case m2 => unfold maxLen; omega
  intro w1 hown hgr
  have B1 : Below w.heap.size w w1 := (Below.refl _ _).grown hgr (Nat.le_refl _) (fun k hk => by cases hk)
  have O1 : OwnV w1 w.heap.size (.slice (some ⟨w.heap.size, 0, none⟩) 0 (m + 1)) [] := hown
  obtain ⟨v1, w2, run1, O2, gr1⟩ := app_V _ [] vs w1 w.heap.size g 0 m O1 (by rw [HM.out]; simp; omega) (HR.out.1.below B1) B1.size
  rw [HM.out] at run1
  have B2 := grownV B1 B1.size O1 gr1
  obtain ⟨v2, w3, run2, O3, gr2⟩ := app_V v1 vs [v] w2 w.heap.size ob 0 1 O2 (by rw [HM.out]; simp; omega) (HR.out.2.below B2) B2.size
  have B3 := grownV B2 B2.size O2 gr2
  obtain ⟨v3, w4, run3, O4, gr3⟩ := app_V v2 (vs ++ [v]) [] w3 w.heap.size g 0 0 O3 (by rw [List.length_append, HM.out]; simp; omega) (fun i hi => by simp at hi) B3.size
  have B4 := grownV B3 B3.size O3 gr3
  rw [List.append_nil] at O4
  have HF : Hid (OwnV w4 w.heap.size v3 (vs ++ [v]) ∧ Below w.heap.size w w4) := ⟨O4, B4⟩
  clear hown hgr O1 O2 O3 O4 gr1 gr2 gr3 B1 B2 B3 B4 hi hz0 hz1 hz2
  have run2' : Sem.run Tryz.prog (Builtin.append_ #[32, 32] 32 #[v1, .slice (some ⟨ob, 0, none⟩) 1 1]) w2 = .ok v2 w3 := run2
  have run3' : Sem.run Tryz.prog (Builtin.append_ #[32, 32] 32 #[v2, .slice (some ⟨g, 0, none⟩) 0 0]) w3 = .ok v3 w4 := run3
  clear run2 run3
  go_wp2_with (first
    | (at_builtin; refine Lib.wpList_append_run _ rfl _ _ _ _ rfl _ _ rfl rfl _ _ run1 ?_)
    | (at_builtin; refine Lib.wpList_append_run _ rfl _ _ _ _ rfl _ _ rfl rfl _ _ run2' ?_)
    | (at_builtin; refine Lib.wpList_append_run _ rfl _ _ _ _ rfl _ _ rfl rfl _ _ run3' ?_))
  go_ret
  exact ⟨_, rfl, HF.out.1, HF.out.2⟩
end Go.Proofs.YtffjnhhfplcloaaGreatDoor
