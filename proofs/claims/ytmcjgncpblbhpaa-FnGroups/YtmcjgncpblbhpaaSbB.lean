/- impl's sortedBy over rows (stage 13). -/
import Derived.Test.YtmcjgncpblbhpaaSbA
namespace Go.Proofs.Ytmcjgncpblbhpaa
open Go.RowKit

theorem choose_fun {α : Type} [Inhabited α] {n : Nat} {P : Nat → α → Prop} (h : ∀ i, i < n → ∃ v, P i v) : ∃ f : Nat → α, ∀ i, i < n → P i (f i) := by
  classical
  exact ⟨fun i => if hi : i < n then Classical.choose (h i hi) else default, fun i hi => by show P i (dite _ _ _); rw [dif_pos hi]; exact Classical.choose_spec (h i hi)⟩
/-- The rows of a list as cells. -/
def CelR (w : World) (k : Cel) (rs : Rs) : Prop := ∀ x, x < rs.length → k.l x = (nthR rs x).length ∧ ∃ b o, k.a x = some ⟨b, o, none⟩ ∧ RowV w (some ⟨b, o, none⟩) (nthR rs x)
theorem RowA.cel {w : World} {b0 o0 : Nat} {rs : Rs} (h : RowA w (some ⟨b0, o0, none⟩) rs) : ∃ k : Cel, CelR w k rs ∧ ∀ x, x < rs.length → w.cell? ⟨b0, o0 + x, none⟩ = some (k.v x) := by
  have h1 : ∀ i, i < rs.length → ∃ v : Nat × Nat × Nat, w.cell? ⟨b0, o0 + i, none⟩ = some (.slice (some ⟨v.1, v.2.1, none⟩) (nthR rs i).length v.2.2) ∧ RowV w (some ⟨v.1, v.2.1, none⟩) (nthR rs i) := fun i hi => by
    obtain ⟨b, off, bi, oi, ci, e, _, hc, hr, _⟩ := h i hi
    cases e
    exact ⟨(bi, oi, ci), hc, hr⟩
  obtain ⟨f, hf⟩ := choose_fun h1
  exact ⟨⟨fun x => some ⟨(f x).1, (f x).2.1, none⟩, fun x => (nthR rs x).length, fun x => (f x).2.2⟩, fun x hx => ⟨rfl, _, _, rfl, (hf x hx).2⟩, fun x hx => (hf x hx).1⟩
theorem CelR.below {w w' : World} {k : Cel} {rs : Rs} (h : CelR w k rs) (hb : Below w.heap.size w w') : CelR w' k rs := fun x hx => by
  obtain ⟨e, b, o, e2, hr⟩ := h x hx
  exact ⟨e, b, o, e2, hr.below hb⟩
theorem CelR.kept {w w' : World} {k : Cel} {rs : Rs} {g H : Nat} (h : CelR w k rs) (hH : ∀ x, x < rs.length → ∀ b o, k.a x = some ⟨b, o, none⟩ → 0 < (nthR rs x).length → b < H) (hg : H ≤ g) (hK : Kept (fun x => x = g) w w') : CelR w' k rs := fun x hx => by
  obtain ⟨e, b, o, e2, hr⟩ := h x hx
  refine ⟨e, b, o, e2, ?_⟩
  by_cases h0 : 0 < (nthR rs x).length
  · exact hr.kept hK (by have := hH x hx b o e2 h0; omega)
  · intro i hi; omega
theorem CelR.lt {w : World} {k : Cel} {rs : Rs} (h : CelR w k rs) : ∀ x, x < rs.length → ∀ b o, k.a x = some ⟨b, o, none⟩ → 0 < (nthR rs x).length → b < w.heap.size := fun x hx b o e h0 => by
  obtain ⟨_, b', o', e2, hr⟩ := h x hx
  rw [e] at e2
  cases e2
  obtain ⟨_, _, e3, hlt, _⟩ := hr 0 h0
  cases e3
  exact hlt
set_option maxRecDepth 100000 in
set_option maxHeartbeats 2000000 in
theorem cloneR_any (b0 o0 cap n : Nat) (rs : Rs) (k : Cel) (w : World) (hn : rs.length = n) (hN : n ≤ 4096) (hc : ∀ x, x < n → w.cell? ⟨b0, o0 + x, none⟩ = some (k.v x)) (hlt : b0 < w.heap.size) :
    Calls Try.prog 72 #[.slice (some ⟨b0, o0, none⟩) n cap] w fun e w' => ∃ g c, e = .returned (.slice (some ⟨g, 0, none⟩) n c) ∧ w.heap.size ≤ g ∧ (∃ N, Dat w' g N k (List.range n)) ∧ Below w.heap.size w w' := by
  obtain ⟨i0, hi1, hz0, hz1, hz2⟩ := info_parts infoR
  have B0 : Below w.heap.size w (w.alloc (.cells #[] 28)) := (Below.refl _ _).alloc (Nat.le_refl _) _
  have O0 : (w.alloc (.cells #[] 28)).ownsRow w.heap.size 28 1 (.slice (some ⟨w.heap.size, 0, none⟩) 0 0) 0 [] := ⟨rfl, .inr ⟨w.heap.size, 0, #[], rfl, Nat.le_refl _, heap_alloc_new w _, by simp, by simp, by simp, by simp⟩⟩
  obtain ⟨v', w', h1, h2, h3, h4⟩ := run_append_own (P := Try.prog) (w.alloc (.cells #[] 28)) w.heap.size 23 23 28 i0 _ 1 24 Try.underlying23 hi1 hz0 hz1 hz2 rfl (by decide) _ 0 [] O0 ⟨b0, o0, none⟩ n cap ((List.range n).map k.v) (by simp) (fun j u hj => by
    rw [List.getElem?_map] at hj
    obtain ⟨x, hx, rfl⟩ := Option.map_eq_some_iff.1 hj
    have hjn : j < n := by have := (List.getElem?_eq_some_iff.1 hx).1; simpa using this
    rw [List.getElem?_range hjn] at hx
    cases hx
    rw [add_plain, B0.cell (p := ⟨b0, o0 + j, none⟩) hlt]
    exact hc j hjn) (by intro u hu; obtain ⟨x, _, rfl⟩ := List.mem_map.1 hu; rfl) (by unfold maxLen; omega) (by omega) B0.size
  have HO : Hid (∃ g c, v' = .slice (some ⟨g, 0, none⟩) n c ∧ w.heap.size ≤ g ∧ (∃ N, Dat w' g N k (List.range n)) ∧ Below w.heap.size w w') := by
    obtain ⟨q1, q2⟩ := h2
    have hB : Below w.heap.size w w' := B0.grown h3 B0.size (fun k e => by simp [Value.ownBlock] at e; omega)
    rcases q2 with ⟨e, _⟩ | ⟨g, c, cur, e, hg, hh, hcap, _, hs, ht⟩
    · exact absurd (h4.1 e).1 (by simp)
    · refine ⟨g, c, by rw [e]; simp, hg, ⟨c, cur, hh, by simpa using hs, by simp; omega, fun i hi => ?_⟩, hB⟩
      rw [List.length_range] at hi
      have h9 : ((List.range n).map k.v)[i]? = some (k.v i) := by rw [List.getElem?_map, List.getElem?_range hi]; rfl
      rw [List.nil_append] at ht
      rw [← ht, List.getElem?_take] at h9
      rw [nthN_get (by simpa using hi)]
      split at h9
      · rw [← Array.getElem?_toList]; simpa using h9
      · cases h9
  have h1' : Sem.run Try.prog (Builtin.append_ #[23, 23] 23 #[.slice (some ⟨w.heap.size, 0, none⟩) 0 0, .slice (some ⟨b0, o0, none⟩) n cap]) (w.alloc (.cells #[] 28)) = .ok v' w' := h1
  clear h1 h2 h3 h4 O0 B0 hc hi1 hz0 hz1 hz2 hn
  have hq : ∀ W, (binOp .eql 23 (.slice (some ⟨b0, o0, none⟩) n cap) (.slice none 0 0)).run Try.prog W = .ok (.bool false) W := fun W => by
    simp only [binOp]
    simp [run_equal_slice_nil W 23 28 _ n cap Try.underlying23]
  go_enter Try.func72, Try.ntmps72
  go_wp2_with (at_builtin; refine Lib.wpList_append_run _ rfl _ _ _ _ rfl _ _ rfl rfl _ _ h1' ?_)
  go_ret
  obtain ⟨g, c, rfl, r⟩ := HO.out
  exact ⟨g, c, rfl, r⟩
set_option maxRecDepth 100000 in
theorem sortStable_any (g N cap n : Nat) (k : Cel) (cf : Nat → Nat → Int) (ho : LtO (ltF cf)) (fg : Nat) (cp : Array Value) (w : World) (h : Dat w g N k (List.range n)) (hN : n ≤ 4096) (hF : CmpW g k n cf w fg cp) :
    Calls Try.prog 73 #[.slice (some ⟨g, 0, none⟩) n cap, .func (.func fg) #[] cp] w (RetS g N n k cf w) := by
  have C := stable_any g N cap n k cf ho fg cp w h hN hF
  clear h hF ho
  go_enter Try.func73, Try.ntmps73
  go_wp2_with fail
  refine C.mono ?_
  rintro e w1 ⟨rfl, h1, h2⟩
  have HE : Hid (Kept (fun x => x = g) w w1 ∧ ∃ zs : List Nat, zs.Perm (List.range n) ∧ zs.Pairwise (RO (ltF cf)) ∧ Dat w1 g N k zs) := ⟨h1, h2⟩
  clear C h1 h2
  go_wp2
  go_end0
  exact ⟨rfl, HE.out.1, HE.out.2⟩
/-- The rows in another order, which is theirs. -/
def SrtR (rs ts : Rs) : Prop := ∃ zs : List Nat, zs.Perm (List.range rs.length) ∧ zs.Pairwise (RO (ltF fun x y => cmpRows (nthR rs x) (nthR rs y))) ∧ ts = zs.map (nthR rs)
set_option maxRecDepth 100000 in
set_option maxHeartbeats 2000000 in
theorem sortedBy_any (b0 o0 cap : Nat) (rs : Rs) (w : World) (h : RowA w (some ⟨b0, o0, none⟩) rs) (hN : rs.length ≤ 400) (hl : ∀ i, i < rs.length → (nthR rs i).length ≤ 4096) (hb0 : b0 < w.heap.size) :
    Calls Try.prog 42 #[.slice (some ⟨b0, o0, none⟩) rs.length cap, .func (.func 43) #[] #[]] w fun e w' => ∃ a c ts, e = .returned (.slice a rs.length c) ∧ SrtR rs ts ∧ ts.length = rs.length ∧ RowR w' a ts ∧ Below w.heap.size w w' := by
  obtain ⟨k, hk, hc⟩ := h.cel
  have hlt := hk.lt
  have C1 := cloneR_any b0 o0 cap rs.length rs k w rfl (by omega) hc hb0
  have HC : Hid (∀ g N c w1, w.heap.size ≤ g → Dat w1 g N k (List.range rs.length) → Below w.heap.size w w1 → Calls Try.prog 73 #[.slice (some ⟨g, 0, none⟩) rs.length c, .func (.func 43) #[] #[]] w1 (RetS g N rs.length k (fun x y => cmpRows (nthR rs x) (nthR rs y)) w1)) := fun g N c w1 hg hD hB => by
    refine sortStable_any g N c rs.length k _ (rows_lto rs) 43 #[] w1 hD (by omega) ⟨ent43, fun W hW x y hx hy => ?_⟩
    have hk2 := (hk.below hB).kept hlt hg hW
    obtain ⟨e1, p1, o1, f1, r1⟩ := hk2 x hx
    obtain ⟨e2, p2, o2, f2, r2⟩ := hk2 y hy
    have := rowOrder_any (some ⟨p1, o1, none⟩) (some ⟨p2, o2, none⟩) (k.c x) (k.c y) (nthR rs x) (nthR rs y) W r1 r2 (hl x hx) (hl y hy)
    rw [← e1, ← e2, ← f1, ← f2] at this
    exact this
  have HE : Hid (∀ g N w1 w2, w.heap.size ≤ g → Below w.heap.size w w1 → Kept (fun x => x = g) w1 w2 → (∃ zs : List Nat, zs.Perm (List.range rs.length) ∧ zs.Pairwise (RO (ltF fun x y => cmpRows (nthR rs x) (nthR rs y))) ∧ Dat w2 g N k zs) → ∃ ts, SrtR rs ts ∧ ts.length = rs.length ∧ RowR w2 (some ⟨g, 0, none⟩) ts ∧ Below w.heap.size w w2) := fun g N w1 w2 hg hB hK ⟨zs, z1, z2, z3⟩ => by
    have hzl : zs.length = rs.length := by rw [z1.length_eq, List.length_range]
    have hk2 := (hk.below hB).kept hlt hg hK
    refine ⟨zs.map (nthR rs), ⟨zs, z1, z2, rfl⟩, by rw [List.length_map]; exact hzl, fun i hi => ?_, hB.trans (hK.below hB.size (fun x hx => by subst hx; exact hg))⟩
    rw [List.length_map] at hi
    have hx : nthN zs i < rs.length := perm_lt z1 _ (by rw [nthN_get hi]; exact List.getElem_mem _)
    obtain ⟨e1, p1, o1, f1, r1⟩ := hk2 _ hx
    have en : nthR (zs.map (nthR rs)) i = nthR rs (nthN zs i) := by
      rw [nthR_get (by rw [List.length_map]; exact hi), List.getElem_map, nthN_get hi]
    have hcell := z3.cell hi
    rw [en]
    refine ⟨g, 0, some ⟨p1, o1, none⟩, k.c (nthN zs i), rfl, z3.lt, ?_, r1, by have := hl _ hx; unfold maxLen; omega⟩
    rw [Nat.zero_add, hcell, Cel.v, f1, e1]
  clear hk hc hlt h hl
  generalize rs.length = n at *
  go_enter Try.func42, Try.ntmps42
  go_wp2_with fail
  refine C1.mono ?_
  rintro e w1 ⟨g, c, rfl, hg, ⟨N, hD⟩, b1⟩
  have C2 := HC.out g N c w1 hg hD b1
  clear C1 HC hD
  go_wp2_with fail
  refine C2.mono ?_
  rintro e w2 ⟨rfl, h1, h2⟩
  have HF := HE.out g N w1 w2 hg b1 h1 h2
  clear C2 HE h1 h2
  go_wp2
  go_ret
  obtain ⟨ts, t1, t2, t3, t4⟩ := HF
  exact ⟨_, _, ts, rfl, t1, t2, t3, t4⟩
end Go.Proofs.Ytmcjgncpblbhpaa
