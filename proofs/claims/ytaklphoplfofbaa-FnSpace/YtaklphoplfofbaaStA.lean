/- Copies of lists and of a space as impl makes them (stage 4). -/
import Derived.Test.YtaklphoplfofbaaFreeA
import Derived.Lib.SliceRun
namespace Go.Proofs.Ytaklphoplfofbaa
open Go.RowKit

theorem rowI_news {w : World} {p : Addr} {ss : List Int} (h : RowI w (some p) ss) : ∀ j u, (ss.map (Value.int .i64))[j]? = some u → w.cell? (p.add j) = some u := fun j u hu => by
  rw [List.getElem?_map] at hu
  have hj : j < ss.length := by
    rcases Nat.lt_or_ge j ss.length with h' | h'
    · exact h'
    · rw [List.getElem?_eq_none h'] at hu; cases hu
  obtain ⟨b, off, e, _, hc⟩ := h j hj
  cases e
  rw [add_plain, hc]
  rw [List.getElem?_eq_getElem hj] at hu
  cases hu
  unfold nthI
  rw [List.getD_eq_getElem?_getD, List.getElem?_eq_getElem hj]
  rfl
theorem ones_I (ss : List Int) : ∀ u ∈ ss.map (Value.int .i64), u.oneCell' = true := fun u hu => by
  obtain ⟨x, _, rfl⟩ := List.mem_map.1 hu
  rfl

set_option maxRecDepth 100000 in
set_option maxHeartbeats 2000000 in
theorem cloneI_any (p : Addr) (cap : Nat) (ss : List Int) (w : World) (h : RowI w (some p) ss) (hl : ss.length ≤ 1048576) :
    Calls Try.prog 72 #[.slice (some p) ss.length cap] w fun e w' => ∃ v, e = .returned v ∧ OwnI w' w.heap.size v ss ∧ Below w.heap.size w w' := by
  obtain ⟨i0, hi, hz0, hz1, hz2⟩ := info_parts info3
  have A0 : Below w.heap.size w (w.alloc (.cells #[] 3)) := (Below.refl _ _).alloc (Nat.le_refl _) _
  have own0 : (w.alloc (.cells #[] 3)).ownsRow w.heap.size 3 1 (.slice (some ⟨w.heap.size, 0, none⟩) 0 0) 0 [] := OwnI.made w w.heap.size (Nat.le_refl _)
  have HN : Hid (∀ j u, (ss.map (Value.int .i64))[j]? = some u → (w.alloc (.cells #[] 3)).cell? (p.add j) = some u) := rowI_news (h.below A0)
  have HL : Hid ((ss.map (Value.int .i64)).length = ss.length * 1) := by show _ = _; simp
  clear h
  have hnl := Lib.run_eql_slice_nil (P := Try.prog) w 26 3 (some p) ss.length cap 0 0 Try.underlying26
  go_enter Try.func72, Try.ntmps72
  go_wp2_with (at_builtin; refine wpList_append_own _ rfl (.tmp 5) (.tmp 6) 26 rfl w.heap.size 3 i0 (.int .i64 0) 1 8 Try.underlying26 hi hz0 hz1 hz2 rfl (by decide) _ 0 [] rfl own0 p ss.length cap (ss.map (Value.int .i64)) rfl HL.out HN.out (ones_I ss) ?e1 ?e2 A0.size ?_)
  case e1 => unfold maxLen; omega
  case e2 => omega
  intro v' w1 own1 hg _
  have hB := own_below (l := []) A0 A0.size own0 hg
  have HO : Hid (OwnI w1 w.heap.size v' ss) := by show World.ownsRow _ _ _ _ _ _ _; simpa using own1
  clear own1 hg own0
  go_wp2
  go_ret
  first | exact ⟨_, rfl, HO.out, hB⟩ | exact ⟨_, HO.out, hB⟩

/-- The cells of held pages. -/
def cellsP (ps : List P2) : List Value := ps.flatMap fun p => [.int .i64 p.1, .int .i64 p.2]
abbrev OwnP (w : World) (B : Nat) (v : Value) (l : List P2) : Prop := w.ownsRow B 88 2 v l.length (cellsP l)
theorem cellsP_len (ps : List P2) : (cellsP ps).length = ps.length * 2 := by
  induction ps with
  | nil => rfl
  | cons p ps ih =>
    have e : cellsP (p :: ps) = .int .i64 p.1 :: .int .i64 p.2 :: cellsP ps := rfl
    rw [e, List.length_cons, List.length_cons, ih, List.length_cons]
    omega
theorem cellsP_one (ps : List P2) : ∀ u ∈ cellsP ps, u.oneCell' = true := by
  induction ps with
  | nil => intro u hu; cases hu
  | cons p ps ih =>
    have e : cellsP (p :: ps) = .int .i64 p.1 :: .int .i64 p.2 :: cellsP ps := rfl
    rw [e]
    intro u hu
    simp only [List.mem_cons] at hu
    rcases hu with rfl | rfl | hu
    · rfl
    · rfl
    · exact ih u hu
theorem cellsP_get : ∀ (ps : List P2) (i : Nat), i < ps.length → (cellsP ps)[i * 2]? = some (.int .i64 (nthP ps i).1) ∧ (cellsP ps)[i * 2 + 1]? = some (.int .i64 (nthP ps i).2)
  | [], i, h => by simp at h
  | p :: ps, 0, _ => ⟨rfl, rfl⟩
  | p :: ps, i + 1, h => by
    have ih := cellsP_get ps i (by simpa using h)
    have e : cellsP (p :: ps) = .int .i64 p.1 :: .int .i64 p.2 :: cellsP ps := rfl
    have en : nthP (p :: ps) (i + 1) = nthP ps i := by simp [nthP]
    have e0 : (i + 1) * 2 = i * 2 + 2 := by omega
    rw [e, en, e0]
    exact ih
theorem rowP_news {w : World} {p : Addr} {ps : List P2} (h : RowP w (some p) ps) : ∀ j u, (cellsP ps)[j]? = some u → w.cell? (p.add j) = some u := fun j u hu => by
  have hj : j < ps.length * 2 := by
    rcases Nat.lt_or_ge j (cellsP ps).length with h' | h'
    · rw [cellsP_len] at h'; exact h'
    · rw [List.getElem?_eq_none h'] at hu; cases hu
  obtain ⟨b, off, e, _, hc0, hc1⟩ := h (j / 2) (by omega)
  cases e
  obtain ⟨g0, g1⟩ := cellsP_get ps (j / 2) (by omega)
  rw [add_plain]
  rcases (show j = j / 2 * 2 ∨ j = j / 2 * 2 + 1 by omega) with e | e
  · rw [e] at hu ⊢
    rw [g0] at hu
    cases hu
    exact hc0
  · rw [e] at hu ⊢
    rw [g1] at hu
    cases hu
    exact hc1

set_option maxRecDepth 100000 in
set_option maxHeartbeats 2000000 in
theorem cloneP_any (p : Addr) (cap : Nat) (ps : List P2) (w : World) (h : RowP w (some p) ps) (hl : ps.length ≤ 1048576) :
    Calls Try.prog 73 #[.slice (some p) ps.length cap] w fun e w' => ∃ v, e = .returned v ∧ OwnP w' w.heap.size v ps ∧ Below w.heap.size w w' := by
  obtain ⟨i0, hi, hz0, hz1, hz2⟩ := info_parts info88
  have A0 : Below w.heap.size w (w.alloc (.cells #[] 88)) := (Below.refl _ _).alloc (Nat.le_refl _) _
  have own0 : (w.alloc (.cells #[] 88)).ownsRow w.heap.size 88 2 (.slice (some ⟨w.heap.size, 0, none⟩) 0 0) 0 [] := ⟨rfl, .inr ⟨w.heap.size, 0, #[], rfl, Nat.le_refl _, heap_new' _ _ _ rfl, Nat.le_refl _, by decide, rfl, rfl⟩⟩
  have HN : Hid (∀ j u, (cellsP ps)[j]? = some u → (w.alloc (.cells #[] 88)).cell? (p.add j) = some u) := rowP_news (h.below A0)
  have HL : Hid ((cellsP ps).length = ps.length * 2) := cellsP_len ps
  clear h
  have hnl := Lib.run_eql_slice_nil (P := Try.prog) w 27 88 (some p) ps.length cap 0 0 Try.underlying27
  go_enter Try.func73, Try.ntmps73
  go_wp2_with (at_builtin; refine wpList_append_own _ rfl (.tmp 5) (.tmp 6) 27 rfl w.heap.size 88 i0 (.agg #[.int .i64 0, .int .i64 0]) 2 16 Try.underlying27 hi hz0 hz1 hz2 rfl (by decide) _ 0 [] rfl own0 p ps.length cap (cellsP ps) rfl HL.out HN.out (cellsP_one ps) ?e1 ?e2 A0.size ?_)
  case e1 => unfold maxLen; omega
  case e2 => omega
  intro v' w1 own1 hg _
  have hB : Below w.heap.size w w1 := A0.grown hg A0.size (fun k hk => by cases hk; exact Nat.le_refl _)
  have HO : Hid (OwnP w1 w.heap.size v' ps) := by show World.ownsRow _ _ _ _ _ _ _; simpa using own1
  clear own1 hg own0
  go_wp2
  go_ret
  first | exact ⟨_, rfl, HO.out, hB⟩ | exact ⟨_, HO.out, hB⟩

/-- The oldest epoch that is needed. -/
def oldN (e : Int) (qs : List Int) : Int := qs.foldl min (max (e - 1) 0)
end Go.Proofs.Ytaklphoplfofbaa
