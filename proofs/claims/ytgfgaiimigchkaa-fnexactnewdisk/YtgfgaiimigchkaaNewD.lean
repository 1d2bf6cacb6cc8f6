/- What both NewDisk answer. -/
import Derived.Test.YtgfgaiimigchkaaNewC
import Derived.Deep.AppendLies
namespace Go.Proofs.Ytgfgaiimigchkaa
open Go.RowKit

theorem rep_blank : (⟨(Lib.repeatL (⟨#[0]⟩ : ByteArray).data.toList 32).toArray⟩ : ByteArray) = blank := by rfl
theorem repeat0 (w : World) : Calls Try.prog 12 #[.string ⟨#[0]⟩, .int .i64 32] w fun e w' => e = .returned (.string blank) ∧ Below w.heap.size w w' := by
  rw [← rep_blank]
  exact Try.strings_Repeat ⟨#[0]⟩ 32 w (by omega) (by show 1 * 32 ≤ _; omega)

abbrev TwoR (v : Value) (n : Int) : Value := .tuple #[v, .int .i64 n]

set_option maxRecDepth 100000 in
set_option maxHeartbeats 2000000 in
theorem implNewDisk_ok (n : Nat) (w : World) (h1 : 1 ≤ n) (h2 : n ≤ 256) :
    Calls Try.prog 5 #[.int .i64 n] w fun e w' => ∃ g, e = .returned (TwoR (DN (some ⟨g, 0, none⟩) n n) 0) ∧ w.heap.size ≤ g ∧ SlabT w' g (fun _ => blank) n ∧ Below w.heap.size w w' := by
  have A0 : Below w.heap.size w (w.alloc (.cells #[.slice none 0 0, .slice none 0 0] 25)) := (Below.refl _ _).alloc (Nat.le_refl _) _
  go_enter Try.func5, Try.ntmps5
  go_wp2_with fail
  refine (repeat0 _).mono ?_
  rintro e w1 ⟨rfl, hb1⟩
  have B1 := A0.trans (hb1.mono A0.size)
  have c0 : w1.cell? ⟨w.heap.size, 0, none⟩ = some (.slice none 0 0) := (hb1.cell (p := ⟨w.heap.size, 0, none⟩) (by simp)).trans (by go_simp)
  have c1 : w1.cell? ⟨w.heap.size, 1, none⟩ = some (.slice none 0 0) := (hb1.cell (p := ⟨w.heap.size, 1, none⟩) (by simp)).trans (by go_simp)
  have f0 : ∀ o, w1.frozen? ⟨w.heap.size, o, none⟩ = false := fun o => (hb1.frozen (p := ⟨w.heap.size, o, none⟩) (by simp)).trans (by go_simp)
  have hl1 : w.heap.size < w1.heap.size := by have := hb1.size; simp at this; omega
  clear hb1 A0
  obtain ⟨bl, hbl⟩ : ∃ bl, blank = bl := ⟨_, rfl⟩
  have HB : Hid (blank = bl) := hbl
  rw [hbl]
  clear hbl
  have A1 : Below w1.heap.size w1 (w1.alloc (.cells #[.string bl] 9)) := (Below.refl _ _).alloc (Nat.le_refl _) _
  go_wp2_with fail
  refine (repeat_any w1.heap.size n bl _ (by go_simp) h1 h2).mono ?_
  rintro e w2 ⟨g, rfl, hg, hS, hb2⟩
  have hb12 := below_step A1 (Nat.le_refl _) hb2
  have B2 := B1.trans (hb12.mono B1.size)
  have d0 := (hb12.cell (p := ⟨w.heap.size, 0, none⟩) hl1).trans c0
  have d1 := (hb12.cell (p := ⟨w.heap.size, 1, none⟩) hl1).trans c1
  have e0 : ∀ o, w2.frozen? ⟨w.heap.size, o, none⟩ = false := fun o => (hb12.frozen (p := ⟨w.heap.size, o, none⟩) hl1).trans (f0 o)
  have hg' : w.heap.size < g := by simp at hg; omega
  have HS : Hid (SlabT w2 g (fun _ => bl) n) := hS
  clear c0 c1 f0 hb2 hb12 A1 B1 hg hS hl1
  go_wp2
  refine bodyPost_ret (v := TwoR (DN (some ⟨g, 0, none⟩) n n) 0) (by go_simp; simp [results, Try.results5, go_sem, d0, d1]) rfl ⟨g, rfl, by omega, ?_, ?_⟩
  · rw [HB.out]
    obtain ⟨cur, hh, hc⟩ := HS.out
    refine ⟨cur, ?_, hc⟩
    simpa [World.setCell, Array.getElem?_modify, show w.heap.size ≠ g by omega] using hh
  · exact (B2.setCell (p := ⟨w.heap.size, 0, none⟩) (Nat.le_refl _) _).setCell (p := ⟨w.heap.size, 1, none⟩) (Nat.le_refl _) _

set_option maxRecDepth 100000 in
theorem implNewDisk_bad (s : Int) (w : World) (h : s < 1 ∨ 256 < s) :
    Calls Try.prog 5 #[.int .i64 s] w fun e w' => e = .returned (TwoR (DN none 0 0) 4) ∧ Below w.heap.size w w' := by
  have A0 : Below w.heap.size w (w.alloc (.cells #[.slice none 0 0, .slice none 0 0] 25)) := (Below.refl _ _).alloc (Nat.le_refl _) _
  rcases h with h | h
  · go_enter Try.func5, Try.ntmps5
    go_wp2
    exact bodyPost_ret (v := TwoR (DN none 0 0) 4) (by simp [results, Try.results5, go_sem]) rfl ⟨rfl, A0⟩
  · have h' : ¬ s < 1 := by omega
    go_enter Try.func5, Try.ntmps5
    go_wp2
    exact bodyPost_ret (v := TwoR (DN none 0 0) 4) (by simp [results, Try.results5, go_sem]) rfl ⟨rfl, A0⟩

theorem step_blank {ops : Array Oper} {o : Oper} {a : Act} {w : World} {K : Act → World → Prop} {Q : Exit → Act → World → Prop} {E : Prop} (hgd : o.guard = none)
    (ho : o.op = .call { callee := .value (.func 10), args := #[], argTypes := #[] }) (h : ∀ w', Below w.heap.size w w' → K (a.put o.dst (.string blank)) w') :
    if Region.wanted o (yielded ops a.tmps) = true then Oper.wp Try.prog o a w K Q else E := by
  have hw : Region.wanted o (yielded ops a.tmps) = true := by simp [Region.wanted, hgd]
  rw [if_pos hw]
  obtain ⟨dst, op, ty, pos, aft, gd⟩ := o
  subst ho
  go_simp
  refine (l02Blank_any w).mono ?_
  rintro e w' ⟨rfl, hb⟩
  exact h w' hb

theorem own_below {w w' : World} {B e n : Nat} {v : Value} {xs : List Value} (h : w.ownsRow B e 1 v n xs) (hb : Below w.heap.size w w') : w'.ownsRow B e 1 v n xs := by
  refine ⟨h.1, ?_⟩
  rcases h.2 with h | ⟨g, cap, cur, e1, e2, hh, r⟩
  · exact .inl h
  · exact .inr ⟨g, cap, cur, e1, e2, by rw [hb.block g (slab_lt hh)]; exact hh, r⟩
theorem own_set {w : World} {B e n : Nat} {v : Value} {xs : List Value} {p : Addr} (h : w.ownsRow B e 1 v n xs) (hp : p.block < B) (x : Value) : (w.setCell p x).ownsRow B e 1 v n xs := by
  refine ⟨h.1, ?_⟩
  rcases h.2 with h | ⟨g, cap, cur, e1, e2, hh, r⟩
  · exact .inl h
  · refine .inr ⟨g, cap, cur, e1, e2, ?_, r⟩
    have : p.block ≠ g := by omega
    simpa [World.setCell, Array.getElem?_modify, this] using hh
theorem grown_below {B C e n : Nat} {w u u' : World} {v : Value} {xs : List Value} (h : Below B w u) (hB : B ≤ u.heap.size) (hC : B ≤ C) (ho : u.ownsRow C e 1 v n xs) (hg : u.grownBy u' v.ownBlock) : Below B w u' :=
  h.grown hg hB (fun k hk => by
    rcases ho.2 with ⟨rfl, _⟩ | ⟨g, cap, cur, rfl, hb, _⟩
    · cases hk
    · cases hk; exact Nat.le_trans hC hb)
theorem own_far {C e n x : Nat} {u : World} {v : Value} {xs : List Value} (ho : u.ownsRow C e 1 v n xs) (hx : x < C) : some x ≠ v.ownBlock := by
  rcases ho.2 with ⟨rfl, _⟩ | ⟨g, cap, cur, rfl, hb, _⟩
  · simp [Value.ownBlock]
  · simp [Value.ownBlock]; omega
theorem news_one {w : World} {c : Value} {t : TypeId} : ∀ j u, [c][j]? = some u → (w.alloc (.cells #[c] t)).cell? ((⟨w.heap.size, 0, none⟩ : Addr).add j) = some u := by
  intro j u hj
  match j, hj with
  | 0, hj => simp at hj; subst hj; go_simp
theorem oneS (t : ByteArray) : ∀ u ∈ [Value.string t], u.oneCell' = true := fun u hu => by simp at hu; subst hu; rfl

def inB (n lo hi : Int) : Bool := decide (lo ≤ n ∧ n ≤ hi)
theorem l01In_any (n lo hi : Int) (w : World) :
    Calls Try.prog 9 #[.int .i64 n, .int .i64 lo, .int .i64 hi] w fun e w' => e = .returned (.bool (inB n lo hi)) ∧ w' = w := by
  by_cases h1 : lo ≤ n
  · by_cases h2 : n ≤ hi
    · have H : Hid (inB n lo hi = true) := decide_eq_true ⟨h1, h2⟩
      go_enter Try.func9, Try.ntmps9
      go_wp2
      go_ret
      exact ⟨ret_bool' H.out.symm, rfl⟩
    · have H : Hid (inB n lo hi = false) := decide_eq_false (by omega)
      go_enter Try.func9, Try.ntmps9
      go_wp2
      go_ret
      exact ⟨ret_bool' H.out.symm, rfl⟩
  · have H : Hid (inB n lo hi = false) := decide_eq_false (by omega)
    go_enter Try.func9, Try.ntmps9
    go_wp2
    go_ret
    exact ⟨ret_bool' H.out.symm, rfl⟩

set_option maxRecDepth 100000 in
theorem specNewDisk_bad (s : Int) (w : World) (h : s < 1 ∨ 256 < s) :
    Calls Try.prog 4 #[.int .i64 s] w fun e w' => e = .returned (TwoR (DN none 0 0) 4) ∧ Below w.heap.size w w' := by
  have A0 : Below w.heap.size w (w.alloc (.cells #[.slice none 0 0, .slice none 0 0] 25)) := (Below.refl _ _).alloc (Nat.le_refl _) _
  have hin : inB s 1 256 = false := decide_eq_false (by omega)
  clear h
  go_enter Try.func4, Try.ntmps4
  go_wp2_with fail
  refine (l01In_any _ _ _ _).mono ?_
  rintro e w1 ⟨rfl, hw⟩
  rw [hin, hw]
  clear hin hw
  go_wp2
  exact bodyPost_ret (v := TwoR (DN none 0 0) 4) (by simp [results, Try.results4, go_sem]) rfl ⟨rfl, A0⟩

theorem blank_below {wr w2 : World} (hb : Below wr.drew.heap.size wr.drew w2) (o : Obj) : Below wr.heap.size wr (w2.alloc o) := (below_step ((Below.refl wr.heap.size wr).drew) (Nat.le_refl _) hb).alloc hb.size _

/-- What a round of the loop finds: the list so far, in the field of the new disk. -/
structure Grow (w : World) (bl : ByteArray) (k : Nat) (v : Value) (wr : World) : Prop where
  c0 : wr.cell? ⟨w.heap.size + 1, 0, none⟩ = some v
  c1 : wr.cell? ⟨w.heap.size + 1, 1, none⟩ = some (.slice none 0 0)
  r0 : wr.cell? ⟨w.heap.size, 0, none⟩ = some (.slice none 0 0)
  r1 : wr.cell? ⟨w.heap.size, 1, none⟩ = some (.slice none 0 0)
  f0 : ∀ o, wr.frozen? ⟨w.heap.size + 1, o, none⟩ = false
  f1 : ∀ o, wr.frozen? ⟨w.heap.size, o, none⟩ = false
  own : wr.ownsRow (w.heap.size + 2) 9 1 v k (List.replicate k (Value.string bl))
  lt : w.heap.size + 2 ≤ wr.heap.size
  bel : Below w.heap.size w wr

theorem set_cell {w : World} {b o : Nat} {x v : Value} (h : w.cell? ⟨b, o, none⟩ = some v) : (w.setCell ⟨b, o, none⟩ x).cell? ⟨b, o, none⟩ = some x := by go_simp
theorem set_cell_ne {w : World} {b b' o o' : Nat} (x : Value) (h : b ≠ b' ∨ o ≠ o') : (w.setCell ⟨b, o, none⟩ x).cell? ⟨b', o', none⟩ = w.cell? ⟨b', o', none⟩ := by
  by_cases hb : b = b'
  · subst hb
    have ho : o ≠ o' := by omega
    simp only [World.cell?, World.setCell, Array.getElem?_modify]
    simp
    cases w.heap[b]? with
    | none => rfl
    | some ob => cases ob <;> simp [Array.getElem?_setIfInBounds_ne, ho]
  · simp [World.cell?, World.setCell, Array.getElem?_modify, hb]
theorem set_frozen {w : World} {p q : Addr} (x : Value) : (w.setCell p x).frozen? q = w.frozen? q := by
  by_cases hb : p.block = q.block
  · simp only [World.frozen?, World.setCell, Array.getElem?_modify, hb]
    simp
    cases w.heap[q.block]? with
    | none => rfl
    | some ob => cases ob <;> simp
  · simp [World.frozen?, World.setCell, Array.getElem?_modify, hb]

theorem Grow.step {w wr w2 w3 : World} {bl : ByteArray} {k g3 cap3 : Nat} {v : Value} {o : Obj} (h : Grow w bl k v wr) (hb2 : Below wr.drew.heap.size wr.drew w2) (hgrow : (w2.alloc o).grownBy w3 v.ownBlock)
    (e3 : w3.ownsRow (w.heap.size + 2) 9 1 (.slice (some ⟨g3, 0, none⟩) (k + 1) cap3) (k + 1) (List.replicate k (Value.string bl) ++ [Value.string bl])) :
    Grow w bl (k + 1) (.slice (some ⟨g3, 0, none⟩) (k + 1) cap3) (w3.setCell ⟨w.heap.size + 1, 0, none⟩ (.slice (some ⟨g3, 0, none⟩) (k + 1) cap3)) := by
  have hlw := h.lt
  have h2 : wr.heap.size ≤ w2.heap.size := hb2.size
  have far : ∀ x o', x < w.heap.size + 2 → w3.cell? ⟨x, o', none⟩ = wr.cell? ⟨x, o', none⟩ := fun x o' hx =>
    (hgrow.cell_far ⟨x, o', none⟩ (by show x < _; simp; omega) (own_far (x := x) h.own hx)).trans ((blank_below hb2 o).cell (p := ⟨x, o', none⟩) (by show x < wr.heap.size; omega))
  have farF : ∀ x o', x < w.heap.size + 2 → w3.frozen? ⟨x, o', none⟩ = wr.frozen? ⟨x, o', none⟩ := fun x o' hx =>
    (hgrow.frozen_far ⟨x, o', none⟩ (by show x < _; simp; omega) (own_far (x := x) h.own hx)).trans ((blank_below hb2 o).frozen (p := ⟨x, o', none⟩) (by show x < wr.heap.size; omega))
  have hB : Below w.heap.size w (w2.alloc o) := h.bel.trans ((blank_below hb2 o).mono h.bel.size)
  have hB3 : Below w.heap.size w w3 := grown_below hB hB.size (by omega) (own_below h.own (blank_below hb2 o)) hgrow
  refine ⟨set_cell ((far _ _ (by omega)).trans h.c0), ?_, ?_, ?_, ?_, ?_, ?_, ?_, ?_⟩
  · rw [set_cell_ne _ (by omega)]; exact (far _ _ (by omega)).trans h.c1
  · rw [set_cell_ne _ (by omega)]; exact (far _ _ (by omega)).trans h.r0
  · rw [set_cell_ne _ (by omega)]; exact (far _ _ (by omega)).trans h.r1
  · intro o'; rw [set_frozen]; exact (farF _ _ (by omega)).trans (h.f0 o')
  · intro o'; rw [set_frozen]; exact (farF _ _ (by omega)).trans (h.f1 o')
  · rw [show List.replicate (k + 1) (Value.string bl) = List.replicate k (Value.string bl) ++ [Value.string bl] from List.replicate_succ']
    exact own_set e3 (by show w.heap.size + 1 < _; omega) _
  · have := hgrow.size
    simp [World.setCell] at this ⊢
    omega
  · exact hB3.setCell (p := ⟨w.heap.size + 1, 0, none⟩) (by show w.heap.size ≤ w.heap.size + 1; omega) _

set_option maxRecDepth 100000 in
set_option maxHeartbeats 4000000 in
theorem specNewDisk_ok (n : Nat) (w : World) (h1 : 1 ≤ n) (h2 : n ≤ 256) :
    Calls Try.prog 4 #[.int .i64 n] w fun e w' => ∃ g c, e = .returned (TwoR (DN (some ⟨g, 0, none⟩) n c) 0) ∧ SlabT w' g (fun _ => blank) n ∧ Below w.heap.size w w' := by
  have hin : inB n 1 256 = true := decide_eq_true ⟨by omega, by omega⟩
  obtain ⟨i0, hi, hz0, hz1, hz2⟩ := info_parts info9
  have G0 : Grow w blank 0 (.slice none 0 0) ((w.alloc (.cells #[.slice none 0 0, .slice none 0 0] 25)).alloc (.cells #[.slice none 0 0, .slice none 0 0] 25)) :=
    ⟨by go_simp, by go_simp, by go_simp, by go_simp, fun o => by go_simp, fun o => by go_simp, ⟨rfl, .inl ⟨rfl, rfl⟩⟩, by simp, ((Below.refl _ _).alloc (Nat.le_refl _) _).alloc (by simp) _⟩
  have HG0 : Hid _ := G0
  clear G0
  go_enter Try.func4, Try.ntmps4
  go_wp2_with fail
  refine (l01In_any _ _ _ _).mono ?_
  rintro e w1 ⟨rfl, hw⟩
  rw [hin, hw]
  clear hin hw
  go_wp2
  go_loopw [5] (fun i wr => ∃ k : Nat, k ≤ n ∧ i = .int .i64 k ∧ ∃ v, Hid (Grow w blank k v wr)) (fun i _ => n - (intOf i).toNat)
  case atStart => exact ⟨0, by omega, rfl, _, HG0.out⟩
  case round =>
    clear HG0
    obtain ⟨k, hk, rfl, v, HG⟩ := hrel
    by_cases hlt : k < n
    · have q0 := HG.out.c0
      have q1 := HG.out.f0 0
      have hlw := HG.out.lt
      go_wp2_with fail
      go_region_law (first
        | (refine step_blank (by rfl) (by rfl) ?_; intro w2 hb2; have p0 := (hb2.cell (p := ⟨w.heap.size + 1, 0, none⟩) (by show w.heap.size + 1 < wr.heap.size; omega)).trans q0; have p2 : w.heap.size + 1 < w2.heap.size := Nat.lt_of_lt_of_le (by omega) (show wr.heap.size ≤ w2.heap.size from hb2.size); have p3 : w.heap.size + 1 ≠ w2.heap.size := by omega)
        | ((refine step_append_lies (w := w2.alloc (.cells #[.string blank] 9)) (by rfl) _ _ _ (by rfl) (w.heap.size + 2) 9 i0 (.string ⟨#[]⟩) 1 16 Try.underlying22 hi hz0 hz1 hz2 rfl (by decide) v k (List.replicate k (Value.string blank)) (by rfl) (own_below HG.out.own (blank_below hb2 _)) ⟨w2.heap.size, 0, none⟩ 1 1 [.string blank] (by rfl) (by rfl) news_one (oneS _) (by decide) (by unfold maxLen; omega) (by omega) (by have := hb2.size; simp at this ⊢; omega) (w2.heap.size + 1) (by simp) ?_); intro g3 cap3 w3 e3 hgrow hat hg3; (have s0 : w3.cell? ⟨w.heap.size + 1, 0, none⟩ = some v := (hgrow.cell_far ⟨w.heap.size + 1, 0, none⟩ (by have h2 : wr.heap.size ≤ w2.heap.size := hb2.size; show w.heap.size + 1 < _; simp; omega) (own_far (x := w.heap.size + 1) HG.out.own (by omega))).trans ((((blank_below hb2 _).cell (p := ⟨w.heap.size + 1, 0, none⟩) (by show w.heap.size + 1 < wr.heap.size; omega)).trans q0))); (have s1 : w3.frozen? ⟨w.heap.size + 1, 0, none⟩ = false := (hgrow.frozen_far ⟨w.heap.size + 1, 0, none⟩ (by have h2 : wr.heap.size ≤ w2.heap.size := hb2.size; show w.heap.size + 1 < _; simp; omega) (own_far (x := w.heap.size + 1) HG.out.own (by omega))).trans ((((blank_below hb2 _).frozen (p := ⟨w.heap.size + 1, 0, none⟩) (by show w.heap.size + 1 < wr.heap.size; omega)).trans q1))))
        | fail)
      all_goals
        have HN : Hid (Grow w blank (k + 1) (.slice (some ⟨g3, 0, none⟩) (k + 1) cap3) (w3.setCell ⟨w.heap.size + 1, 0, none⟩ (.slice (some ⟨g3, 0, none⟩) (k + 1) cap3))) := HG.out.step hb2 hgrow (by simpa using e3)
        clear e3 hgrow hat hg3 s0 s1 p0 p2 p3 hb2 q0 q1 HG hlw
        go_wp2
        go_roundw
        case rel => exact ⟨k + 1, by omega, by go_num, _, HN.out⟩
        case measure => simp [intOf]; omega
    · obtain rfl : k = n := by omega
      obtain ⟨g, cap, rfl, hgb, hgl⟩ := HG.out.own.form h1
      have HS : Hid (SlabT wr g (fun _ => blank) k) := by
        rcases HG.out.own.2 with ⟨h, _⟩ | ⟨g', c', cur, h, _, hh, _, _, hcs, htk⟩
        · cases h
        · cases h
          refine ⟨cur, hh, fun j hj => ?_⟩
          rw [← Array.getElem?_toList]
          have : cur.toList[j]? = (List.replicate k (Value.string blank))[j]? := by rw [← htk, List.getElem?_take, if_pos (by omega)]
          rw [this, List.getElem?_replicate, if_pos hj]
      have q0 := HG.out.c0
      have q1 := HG.out.c1
      have q2 := HG.out.r0
      have q3 := HG.out.r1
      have f1 := HG.out.f1
      go_wp2
      refine bodyPost_ret (v := TwoR (DN (some ⟨g, 0, none⟩) k cap) 0) (by go_simp; simp [results, Try.results4, go_sem, q2, q3]) rfl ⟨g, cap, rfl, ?_, ?_⟩
      · obtain ⟨cur, hh, hc⟩ := HS.out
        refine ⟨cur, ?_, hc⟩
        simpa [World.setCell, Array.getElem?_modify, show w.heap.size ≠ g by omega] using hh
      · exact (HG.out.bel.setCell (p := ⟨w.heap.size, 0, none⟩) (Nat.le_refl _) _).setCell (p := ⟨w.heap.size, 1, none⟩) (Nat.le_refl _) _
end Go.Proofs.Ytgfgaiimigchkaa
