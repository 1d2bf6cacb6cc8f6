/- impl's play of a history (stage 8). -/
import Derived.Test.YtlcgmifibekegaaEnB
namespace Go.Proofs.Ytlcgmifibekegaa
open Go.RowKit Go.Maps Go.Sort

theorem valY_cons (e : TY) (l : List TY) (k : ByteArray) : valY (e :: l) k = if (e.1.toList == k.toList) = true then some e.2 else valY l k := by
  unfold valY
  rw [List.find?_cons]
  cases (e.1.toList == k.toList) <;> rfl
theorem over_val (k v k' : ByteArray) : ∀ l : List TY, valY (overV l [(k, v, false)]) k' = if k'.toList = k.toList then some v else valY l k'
  | [] => by
    rw [overV_none, overV_nil]
    show valY [(k, v)] k' = _
    rw [valY_cons]
    by_cases e : k'.toList = k.toList
    · rw [if_pos e, if_pos (by simp [e])]
    · rw [if_neg e, if_neg (by simp; exact fun h => e h.symm)]
  | e :: l => by
    cases h1 : Op.bytesLess e.1.toList k.toList with
    | true =>
      rw [overV_less h1, valY_cons, valY_cons, over_val k v k' l]
      by_cases e1 : (e.1.toList == k'.toList) = true
      · rw [if_pos e1, if_pos e1]
        have : ¬ k'.toList = k.toList := fun e2 => by
          have e3 : e.1.toList = k'.toList := by simpa using e1
          exact less_ne h1 (e3.trans e2)
        rw [if_neg this]
      · rw [if_neg e1, if_neg e1]
    | false =>
      cases h2 : (e.1.toList == k.toList) with
      | true =>
        have e3 : e.1.toList = k.toList := by simpa using h2
        rw [overV_same h1 h2, overV_nil]
        show valY ((k, v) :: l) k' = _
        rw [valY_cons, valY_cons, e3]
        by_cases e1 : k'.toList = k.toList
        · rw [if_pos e1, if_pos (by simp [e1])]
        · rw [if_neg e1, if_neg (by simp; exact fun h => e1 h.symm), if_neg (by simp; exact fun h => e1 h.symm)]
      | false =>
        rw [overV_more h1 h2, overV_nil]
        show valY ((k, v) :: e :: l) k' = _
        rw [valY_cons]
        by_cases e1 : k'.toList = k.toList
        · rw [if_pos e1, if_pos (by simp [e1])]
        · rw [if_neg e1, if_neg (by simp; exact fun h => e1 h.symm)]
theorem over_mem (k v : ByteArray) : ∀ (l : List TY) (e : TY), e ∈ overV l [(k, v, false)] → e ∈ l ∨ e = (k, v)
  | [], e, h => by
    rw [overV_none, overV_nil] at h
    exact .inr (by simpa [oneW] using h)
  | d :: l, e, h => by
    cases h1 : Op.bytesLess d.1.toList k.toList with
    | true =>
      rw [overV_less h1] at h
      rcases List.mem_cons.1 h with rfl | h
      · exact .inl (by simp)
      · rcases over_mem k v l e h with h | h
        · exact .inl (List.mem_cons_of_mem _ h)
        · exact .inr h
    | false =>
      cases h2 : (d.1.toList == k.toList) with
      | true =>
        rw [overV_same h1 h2, overV_nil] at h
        have h' : e ∈ (k, v) :: l := h
        rcases List.mem_cons.1 h' with rfl | h
        · exact .inr rfl
        · exact .inl (List.mem_cons_of_mem _ h)
      | false =>
        rw [overV_more h1 h2, overV_nil] at h
        have h' : e ∈ (k, v) :: d :: l := h
        rcases List.mem_cons.1 h' with rfl | h
        · exact .inr rfl
        · exact .inl h
theorem less_trans {x y z : List UInt8} (h1 : Op.bytesLess x y = true) (h2 : Op.bytesLess y z = true) : Op.bytesLess x z = true := by
  rw [bytesLess_eq] at *
  exact decide_eq_true (List.lt_trans (of_decide_eq_true h1) (of_decide_eq_true h2))
theorem over_rise (k v : ByteArray) : ∀ l : List TY, RiseY l → RiseY (overV l [(k, v, false)])
  | [], _ => by
    rw [overV_none, overV_nil]
    show RiseY [(k, v)]
    exact List.pairwise_singleton _ _
  | d :: l, h => by
    have hd := List.pairwise_cons.1 h
    cases h1 : Op.bytesLess d.1.toList k.toList with
    | true =>
      rw [overV_less h1]
      refine List.pairwise_cons.2 ⟨fun e he => ?_, over_rise k v l hd.2⟩
      rcases over_mem k v l e he with he | rfl
      · exact hd.1 e he
      · exact h1
    | false =>
      cases h2 : (d.1.toList == k.toList) with
      | true =>
        have e3 : d.1.toList = k.toList := by simpa using h2
        rw [overV_same h1 h2, overV_nil]
        show RiseY ((k, v) :: l)
        refine List.pairwise_cons.2 ⟨fun e he => ?_, hd.2⟩
        have := hd.1 e he
        rw [e3] at this
        exact this
      | false =>
        have e4 : Op.bytesLess k.toList d.1.toList = true := by
          have := less_tot d.1.toList k.toList
          rw [h1] at this
          have h2' : (k.toList == d.1.toList) = false := by
            simp at h2 ⊢; exact fun h => h2 h.symm
          rw [h2', Bool.or_false] at this
          exact this
        rw [overV_more h1 h2, overV_nil]
        show RiseY ((k, v) :: d :: l)
        refine List.pairwise_cons.2 ⟨fun e he => ?_, h⟩
        rcases List.mem_cons.1 he with rfl | he
        · exact e4
        · exact less_trans e4 (hd.1 e he)
theorem LinkY.put {f : List UInt8 → Option (Int × ByteArray)} {es : List TY} (h : LinkY f es) (k v : ByteArray) (b : Int) : LinkY (putF f k (b, v)) (overV es [(k, v, false)]) := fun k' => by
  rw [over_val]
  unfold putF
  by_cases e : k'.toList = k.toList
  · rw [if_pos e, if_pos e]; rfl
  · rw [if_neg e, if_neg e]; exact h k'
/-- What the map and the entries of a play have to do with one another. -/
def PlM (w : World) (mb n : Nat) (st : List TY) : Prop := ∃ f, MapV w mb n f ∧ LinkY f st ∧ RiseY st ∧ ∀ e ∈ st, e.1.size ≤ maxLen
theorem PlM.put {w : World} {mb n : Nat} {st : List TY} (h : PlM w mb n st) (k v : ByteArray) (hk : k.size ≤ maxLen) (hn : n < maxLen) :
    ∃ w', (Instr.mapUpdate 110 (.map (some mb)) (.string k) (.agg #[.string k, .int .i64 0, .int .i64 0, .string v])).run Try.prog w = .ok () w' ∧ PlM w' mb (n + 1) (overV st [(k, v, false)]) ∧ w.grownBy w' (some mb) := by
  obtain ⟨f, hM, hl, hr, hz⟩ := h
  obtain ⟨w', hrun, hM', hg⟩ := hM.put k hk hn k (0, v) 0
  refine ⟨w', hrun, ⟨_, hM', hl.put k v 0, over_rise k v st hr, fun e he => ?_⟩, hg⟩
  rcases over_mem k v st e he with he | rfl
  · exact hz e he
  · exact hk
theorem PlM.kept {w w' : World} {row : Option Nat} {mb n : Nat} {st : List TY} (h : PlM w mb n st) (hg : w.grownBy w' row) (hne : some mb ≠ row) : PlM w' mb n st := by
  obtain ⟨f, hM, r⟩ := h
  exact ⟨f, hM.kept hg hne, r⟩
theorem PlM.alloc {w : World} {mb n : Nat} {st : List TY} (h : PlM w mb n st) (o : Obj) : PlM (w.alloc o) mb n st := by
  obtain ⟨f, hM, r⟩ := h
  exact ⟨f, hM.alloc o, r⟩
theorem PlM.mono {w : World} {mb n n' : Nat} {st : List TY} (h : PlM w mb n st) (hn : n ≤ n') : PlM w mb n' st := by
  obtain ⟨f, ⟨D, hD, r0⟩, r⟩ := h
  exact ⟨f, ⟨D, hD.mono hn, r0⟩, r⟩
theorem PlM.isMap {w : World} {mb n : Nat} {st : List TY} (h : PlM w mb n st) : ∃ es c, w.heap[mb]? = some (.map es c) := by
  obtain ⟨f, ⟨D, ⟨es, c, hh, _⟩, _⟩, _⟩ := h
  exact ⟨es, c, hh⟩
theorem PlM.look {w : World} {mb n : Nat} {st : List TY} (h : PlM w mb n st) (k : ByteArray) (hk : k.size ≤ maxLen) :
    ∃ kx b e, (Instr.lookup 110 (.map (some mb)) (.string k) false).run Try.prog w = .ok (.agg #[.string kx, .int .i64 b, .int .i64 e, .string ((valY st k).getD noT)]) w := by
  obtain ⟨f, hM, hl, _⟩ := h
  obtain ⟨kx, e, hrun⟩ := hM.look k hk
  have e1 : ((f k.toList).getD noP).2 = (valY st k).getD noT := by
    rw [← hl k]
    cases f k.toList <;> rfl
  rw [e1] at hrun
  exact ⟨kx, _, e, hrun⟩
theorem RowH.kept {w w' : World} {a : Option Addr} {ss : List TH} {mb : Nat} (h : RowH w a ss) (hK : Kept (fun j => j = mb) w w') (hm : ∃ es c, w.heap[mb]? = some (.map es c)) : RowH w' a ss := fun i hi => by
  obtain ⟨b, off, e, hlt, hc, hs⟩ := h i hi
  have hne : ¬ b = mb := fun e => by
    subst e
    obtain ⟨es, c, hh⟩ := hm
    have := hc.1
    simp [World.cell?, hh] at this
  have key : ∀ o, w'.cell? ⟨b, o, none⟩ = w.cell? ⟨b, o, none⟩ := fun o => by
    simp only [World.cell?]
    rw [hK.block b hlt hne]
  refine ⟨b, off, e, Nat.lt_of_lt_of_le hlt hK.size, ⟨?_, ?_, ?_, ?_⟩, hs⟩
  · rw [key]; exact hc.1
  · rw [key]; exact hc.2.1
  · rw [key]; exact hc.2.2.1
  · rw [key]; exact hc.2.2.2
theorem Kept.grown {S : Nat → Prop} {w u u' : World} {row : Option Nat} (h : Kept S w u) (hg : u.grownBy u' row) (hr : ∀ j, row = some j → S j ∨ w.heap.size ≤ j) : Kept S w u' := by
  obtain ⟨g1, g2, g3, g4, g5⟩ := hg
  refine ⟨g1.trans h.os, g2.trans h.tape, g3.trans h.output, Nat.le_trans h.size g4, fun k hk hS => ?_⟩
  refine (g5 k (Nat.lt_of_lt_of_le hk h.size) fun e => ?_).trans (h.block k hk hS)
  rcases hr k e.symm with h1 | h1
  · exact hS h1
  · omega
end Go.Proofs.Ytlcgmifibekegaa
