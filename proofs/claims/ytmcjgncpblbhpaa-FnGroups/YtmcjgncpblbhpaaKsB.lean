/- Rows with their keys: lists made, copied, sorted (stage 13). -/
import Derived.Test.YtmcjgncpblbhpaaKsA
import Derived.Test.YtmcjgncpblbhpaaSbD
namespace Go.Proofs.Ytmcjgncpblbhpaa
open Go.RowKit

/-- The cells of the elements that zs names. -/
def cellsD (k : Ce2) : List Nat → List Value
  | [] => []
  | x :: zs => k.p x :: k.q x :: cellsD k zs
theorem cellsD_len (k : Ce2) : ∀ zs : List Nat, (cellsD k zs).length = zs.length * 2
  | [] => rfl
  | x :: zs => by simp only [cellsD, List.length_cons, cellsD_len k zs]; omega
theorem cellsD_append (k : Ce2) : ∀ l r : List Nat, cellsD k (l ++ r) = cellsD k l ++ cellsD k r
  | [], _ => rfl
  | x :: zs, r => by simp only [cellsD, List.cons_append, cellsD_append k zs r]
theorem cellsD_one (k : Ce2) : ∀ (l : List Nat), ∀ u ∈ cellsD k l, u.oneCell' = true
  | [], u, h => by simp [cellsD] at h
  | x :: zs, u, h => by
    simp only [cellsD, List.mem_cons] at h
    rcases h with rfl | rfl | h
    · rfl
    · rfl
    · exact cellsD_one k zs u h
theorem cellsD_get (k : Ce2) : ∀ (l : List Nat) (i : Nat), i < l.length → (cellsD k l)[i * 2]? = some (k.p (nthN l i)) ∧ (cellsD k l)[i * 2 + 1]? = some (k.q (nthN l i))
  | [], _, h => by simp at h
  | x :: zs, 0, _ => ⟨rfl, rfl⟩
  | x :: zs, i + 1, h => by
    have ih := cellsD_get k zs i (by simpa using h)
    have e1 : (i + 1) * 2 = i * 2 + 1 + 1 := by omega
    have e2 : (i + 1) * 2 + 1 = i * 2 + 1 + 1 + 1 := by omega
    rw [e2, e1]
    simp only [cellsD, List.getElem?_cons_succ]
    exact ih
theorem infoK : (Try.prog.info? 70).map (fun i => (i.zero, i.size, i.bytes)) = some (some (.agg #[.slice none 0 0, .slice none 0 0]), 2, 48) := by kernel_rfl
/-- A list of the call's own. -/
abbrev OwnK (w : World) (B : Nat) (v : Value) (k : Ce2) (zs : List Nat) : Prop := w.ownsRow B 70 2 v zs.length (cellsD k zs)
theorem OwnK.nil (w : World) (B : Nat) (k : Ce2) : OwnK w B (.slice none 0 0) k [] := ⟨rfl, .inl ⟨rfl, rfl⟩⟩
theorem OwnK.empty {w : World} {B : Nat} {k : Ce2} (hB : B ≤ w.heap.size) : OwnK (w.alloc (.cells #[] 70)) B (.slice (some ⟨w.heap.size, 0, none⟩) 0 0) k [] :=
  ⟨rfl, .inr ⟨w.heap.size, 0, #[], rfl, hB, heap_alloc_new w _, by simp, by simp, by simp, by simp [cellsD]⟩⟩
theorem OwnK.below {w w' : World} {B : Nat} {v : Value} {k : Ce2} {zs : List Nat} (h : OwnK w B v k zs) (hb : Below w.heap.size w w') : OwnK w' B v k zs := by
  obtain ⟨h1, h2⟩ := h
  refine ⟨h1, ?_⟩
  rcases h2 with h | ⟨g, cap, cur, e, hg, hh, r⟩
  · exact .inl h
  · exact .inr ⟨g, cap, cur, e, hg, (hb.block g (slab_lt hh)).trans hh, r⟩
theorem OwnK.dat {w : World} {B : Nat} {v : Value} {k : Ce2} {zs : List Nat} (h : OwnK w B v k zs) (hne : v ≠ .slice none 0 0) : ∃ g c, v = .slice (some ⟨g, 0, none⟩) zs.length c ∧ B ≤ g ∧ Da2 w g c k zs := by
  obtain ⟨q1, q2⟩ := h
  rcases q2 with ⟨e, _⟩ | ⟨g, c, cur, e, hg, hh, hcap, _, hs, ht⟩
  · exact absurd e hne
  · refine ⟨g, c, e, hg, cur, hh, hs, hcap, fun i hi => ?_⟩
    obtain ⟨h8, h9⟩ := cellsD_get k zs i hi
    rw [← ht, List.getElem?_take] at h8 h9
    refine ⟨?_, ?_⟩
    · split at h8
      · rw [← Array.getElem?_toList]; exact h8
      · cases h8
    · split at h9
      · rw [← Array.getElem?_toList]; exact h9
      · cases h9
set_option maxRecDepth 100000 in
theorem app_K {w : World} {B b o c : Nat} {v : Value} {k : Ce2} {zs ys : List Nat} (h : OwnK w B v k zs) (hB : B ≤ w.heap.size) (hl : zs.length + ys.length ≤ 4096) (hc : ∀ j, j < ys.length → w.cell? ⟨b, o + j * 2, none⟩ = some (k.p (nthN ys j)) ∧ w.cell? ⟨b, o + j * 2 + 1, none⟩ = some (k.q (nthN ys j))) :
    ∃ v' w', (Builtin.append_ #[68, 68] 68 #[v, .slice (some ⟨b, o, none⟩) ys.length c]).run Try.prog w = .ok v' w' ∧ OwnK w' B v' k (zs ++ ys) ∧ (v' = .slice none 0 0 → v = .slice none 0 0 ∧ ys.length = 0) ∧ ∀ w0, Below B w0 w → Below B w0 w' := by
  obtain ⟨i0, hi1, hz0, hz1, hz2⟩ := info_parts infoK
  obtain ⟨v', w', h1, h2, h3, h4⟩ := run_append_own (P := Try.prog) w B 68 68 70 i0 _ 2 48 Try.underlying68 hi1 hz0 hz1 hz2 rfl (by decide) v zs.length (cellsD k zs) h ⟨b, o, none⟩ ys.length c (cellsD k ys) (cellsD_len k ys) (fun j u hj => by
    have hjl : j < ys.length * 2 := by rw [← cellsD_len k ys]; exact (List.getElem?_eq_some_iff.1 hj).1
    obtain ⟨i, r, hr, rfl⟩ : ∃ i r, r < 2 ∧ j = i * 2 + r := ⟨j / 2, j % 2, Nat.mod_lt _ (by omega), by omega⟩
    have hi : i < ys.length := by omega
    obtain ⟨g0, g1⟩ := cellsD_get k ys i hi
    obtain ⟨c0, c1⟩ := hc i hi
    rw [add_plain]
    match r, hr with
    | 0, _ =>
      rw [Nat.add_zero] at hj ⊢
      rw [g0] at hj
      rw [← hj]; exact c0
    | 1, _ =>
      rw [g1] at hj
      rw [← hj, ← Nat.add_assoc]; exact c1) (cellsD_one k ys) (by unfold maxLen; omega) (by omega) hB
  refine ⟨v', w', h1, by rw [← List.length_append, ← cellsD_append] at h2; exact h2, fun e => ⟨(h4.1 e).1, (h4.1 e).2⟩, fun w0 hb => hb.grown h3 hB fun j e => ?_⟩
  obtain ⟨_, q2⟩ := h
  rcases q2 with ⟨rfl, _⟩ | ⟨g, cap, cur, rfl, hg', _⟩
  · simp [Value.ownBlock] at e
  · simp [Value.ownBlock] at e
    omega
set_option maxRecDepth 100000 in
theorem cloneK_any (b0 cap n M : Nat) (k : Ce2) (w : World) (hN : n ≤ 4096) (hD : Da2 w b0 M k (List.range n)) :
    Calls Try.prog 103 #[.slice (some ⟨b0, 0, none⟩) n cap] w fun e w' => ∃ g c, e = .returned (.slice (some ⟨g, 0, none⟩) n c) ∧ w.heap.size ≤ g ∧ Da2 w' g c k (List.range n) ∧ Below w.heap.size w w' := by
  have B0 : Below w.heap.size w (w.alloc (.cells #[] 70)) := (Below.refl _ _).alloc (Nat.le_refl _) _
  have O0 : OwnK (w.alloc (.cells #[] 70)) w.heap.size (.slice (some ⟨w.heap.size, 0, none⟩) 0 0) k [] := OwnK.empty (Nat.le_refl _)
  obtain ⟨v', w', h1, h2, h4, h3⟩ := app_K (c := cap) (b := b0) (o := 0) (ys := List.range n) O0 B0.size (by simp; omega) (fun j hj => by
    have := (hD.below B0).cell (i := j) hj
    rw [Nat.zero_add]
    exact this)
  rw [List.length_range] at h1
  have HO : Hid (∃ g c, v' = .slice (some ⟨g, 0, none⟩) n c ∧ w.heap.size ≤ g ∧ Da2 w' g c k (List.range n) ∧ Below w.heap.size w w') := by
    obtain ⟨g, c, e, hg, hd⟩ := h2.dat (fun e => by have := (h4 e).1; simp at this)
    rw [List.nil_append, List.length_range] at e
    exact ⟨g, c, e, hg, hd, h3 w B0⟩
  have h1' : Sem.run Try.prog (Builtin.append_ #[68, 68] 68 #[.slice (some ⟨w.heap.size, 0, none⟩) 0 0, .slice (some ⟨b0, 0, none⟩) n cap]) (w.alloc (.cells #[] 70)) = .ok v' w' := h1
  clear h1 h2 h3 h4 O0 B0 hD
  have hq : ∀ W, (binOp .eql 68 (.slice (some ⟨b0, 0, none⟩) n cap) (.slice none 0 0)).run Try.prog W = .ok (.bool false) W := fun W => by
    simp only [binOp]
    simp [run_equal_slice_nil W 68 70 _ n cap Try.underlying68]
  go_enter Try.func103, Try.ntmps103
  go_wp2_with (at_builtin; refine Lib.wpList_append_run _ rfl _ _ _ _ rfl _ _ rfl rfl _ _ h1' ?_)
  go_ret
  obtain ⟨g, c, rfl, r⟩ := HO.out
  exact ⟨g, c, rfl, r⟩
set_option maxRecDepth 100000 in
theorem sortStable2 (g N cap n : Nat) (k : Ce2) (cf : Nat → Nat → Int) (ho : LtO (ltF cf)) (fg : Nat) (cp : Array Value) (w : World) (h : Da2 w g N k (List.range n)) (hN : n ≤ 4096) (hF : Cm2 g k n cf w fg cp) :
    Calls Try.prog 104 #[.slice (some ⟨g, 0, none⟩) n cap, .func (.func fg) #[] cp] w (Rs2 g N n k cf w) := by
  have C := stable2 g N cap n k cf ho fg cp w h hN hF
  clear h hF ho
  go_enter Try.func104, Try.ntmps104
  go_wp2_with fail
  refine C.mono ?_
  rintro e w1 ⟨rfl, h1, h2⟩
  have HE : Hid (Kept (fun x => x = g) w w1 ∧ ∃ zs : List Nat, zs.Perm (List.range n) ∧ zs.Pairwise (RO (ltF cf)) ∧ Da2 w1 g N k zs) := ⟨h1, h2⟩
  clear C h1 h2
  go_wp2
  go_end0
  exact ⟨rfl, HE.out.1, HE.out.2⟩
set_option maxRecDepth 100000 in
theorem sortedBy2 (b0 cap n M : Nat) (k : Ce2) (cf : Nat → Nat → Int) (ho : LtO (ltF cf)) (fg : Nat) (cp : Array Value) (w : World) (hN : n ≤ 4096) (hD : Da2 w b0 M k (List.range n)) (hF : ∀ g w1, w.heap.size ≤ g → Below w.heap.size w w1 → Cm2 g k n cf w1 fg cp) :
    Calls Try.prog 78 #[.slice (some ⟨b0, 0, none⟩) n cap, .func (.func fg) #[] cp] w fun e w' => ∃ g c zs, e = .returned (.slice (some ⟨g, 0, none⟩) n c) ∧ w.heap.size ≤ g ∧ zs.Perm (List.range n) ∧ zs.Pairwise (RO (ltF cf)) ∧ Da2 w' g c k zs ∧ Below w.heap.size w w' := by
  have C1 := cloneK_any b0 cap n M k w hN hD
  have HC : Hid (∀ g N c w1, w.heap.size ≤ g → Da2 w1 g N k (List.range n) → Below w.heap.size w w1 → Calls Try.prog 104 #[.slice (some ⟨g, 0, none⟩) n c, .func (.func fg) #[] cp] w1 (Rs2 g N n k cf w1)) := fun g N c w1 hg hD hB => sortStable2 g N c n k cf ho fg cp w1 hD hN (hF g w1 hg hB)
  clear hD hF ho
  go_enter Try.func78, Try.ntmps78
  go_wp2_with fail
  refine C1.mono ?_
  rintro e w1 ⟨g, c, rfl, hg, hD, b1⟩
  have C2 := HC.out g c c w1 hg hD b1
  clear C1 HC hD
  go_wp2_with fail
  refine C2.mono ?_
  rintro e w2 ⟨rfl, hK, zs, z1, z2, z3⟩
  have HE : Hid (zs.Perm (List.range n) ∧ zs.Pairwise (RO (ltF cf)) ∧ Da2 w2 g c k zs ∧ Below w.heap.size w w2) := ⟨z1, z2, z3, b1.trans (hK.below b1.size (fun x hx => by subst hx; exact hg))⟩
  clear C2 hK z1 z2 z3 b1
  go_wp2
  go_ret
  exact ⟨g, c, zs, rfl, hg, HE.out.1, HE.out.2.1, HE.out.2.2.1, HE.out.2.2.2⟩
set_option maxRecDepth 100000 in
theorem cloneK_nil (w : World) : Calls Try.prog 103 #[.slice none 0 0] w fun e w' => e = .returned (.slice none 0 0) ∧ w' = w := by
  have hq : ∀ W, (binOp .eql 68 (.slice none 0 0) (.slice none 0 0)).run Try.prog W = .ok (.bool true) W := fun W => by
    simp only [binOp]
    simp [run_equal_slice_nil W 68 70 _ 0 0 Try.underlying68]
  go_enter Try.func103, Try.ntmps103
  go_wp2
  go_ret
  exact ⟨rfl, rfl⟩
set_option maxRecDepth 100000 in
theorem insertionK_nil (f : Value) (w : World) : Calls Try.prog 116 #[.slice none 0 0, .int .i64 0, .int .i64 0, f] w fun e w' => e = .returned (.tuple #[]) ∧ w' = w := by
  go_enter Try.func116, Try.ntmps116
  go_wp2
  go_loop [8] (fun i => i = .int .i64 1) (fun _ => 0)
  case atStart => rfl
  case round =>
    subst hrel
    go_wp2
    go_end0
    exact ⟨rfl, rfl⟩
set_option maxRecDepth 100000 in
theorem stableK_nil (f : Value) (w : World) : Calls Try.prog 114 #[.slice none 0 0, .int .i64 0, f] w fun e w' => e = .returned (.tuple #[]) ∧ w' = w := by
  go_enter Try.func114, Try.ntmps114
  go_wp2
  go_loop [7, 8] (fun i j => i = .int .i64 0 ∧ j = .int .i64 20) (fun _ _ => 0)
  case atStart => exact ⟨rfl, rfl⟩
  case round =>
    obtain ⟨rfl, rfl⟩ := hrel
    go_wp2_with fail
    refine (insertionK_nil f w).mono ?_
    rintro e w1 ⟨rfl, hq⟩
    obtain rfl := hq.symm
    go_wp2
    go_loop [6] (fun i => i = .int .i64 20) (fun _ => 0)
    case atStart => rfl
    case round =>
      subst hrel
      go_wp2
      go_end0
      exact ⟨rfl, rfl⟩
set_option maxRecDepth 100000 in
theorem sortStableK_nil (f : Value) (w : World) : Calls Try.prog 104 #[.slice none 0 0, f] w fun e w' => e = .returned (.tuple #[]) ∧ w' = w := by
  go_enter Try.func104, Try.ntmps104
  go_wp2_with fail
  refine (stableK_nil f w).mono ?_
  rintro e w1 ⟨rfl, hq⟩
  obtain rfl := hq.symm
  go_wp2
  go_end0
  exact ⟨rfl, rfl⟩
set_option maxRecDepth 100000 in
theorem sortedByK_nil (f : Value) (w : World) : Calls Try.prog 78 #[.slice none 0 0, f] w fun e w' => e = .returned (.slice none 0 0) ∧ w' = w := by
  go_enter Try.func78, Try.ntmps78
  go_wp2_with fail
  refine (cloneK_nil w).mono ?_
  rintro e w1 ⟨rfl, hq⟩
  obtain rfl := hq.symm
  go_wp2_with fail
  refine (sortStableK_nil _ w).mono ?_
  rintro e w2 ⟨rfl, hq⟩
  obtain rfl := hq.symm
  go_wp2
  go_ret
  exact ⟨rfl, rfl⟩
end Go.Proofs.Ytmcjgncpblbhpaa
