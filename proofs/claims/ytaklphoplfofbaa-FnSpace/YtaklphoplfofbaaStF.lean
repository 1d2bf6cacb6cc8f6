/- Lists as values that are read; a clone of one; a copy of a space whose lists lie apart (stage 4). -/
import Derived.Test.YtaklphoplfofbaaStE
import Derived.Test.YtaklphoplfofbaaFreeL
import Derived.ArgAppend
import Derived.Lib.AppendZerosOnto
namespace Go.Proofs.Ytaklphoplfofbaa
open Go.RowKit

/-- v reads as the numbers l. -/
def ReadI (w : World) (v : Value) (l : List Int) : Prop := (v = .slice none 0 0 ∧ l = []) ∨ ∃ p cap, v = .slice (some p) l.length cap ∧ l.length ≤ cap ∧ RowI w (some p) l
/-- v reads as the held pages l. -/
def ReadP (w : World) (v : Value) (l : List P2) : Prop := (v = .slice none 0 0 ∧ l = []) ∨ ∃ p cap, v = .slice (some p) l.length cap ∧ l.length ≤ cap ∧ RowP w (some p) l
theorem ReadI.below {w w' : World} {v : Value} {l : List Int} (h : ReadI w v l) (hb : Below w.heap.size w w') : ReadI w' v l := h.imp id fun ⟨p, c, e, hc, r⟩ => ⟨p, c, e, hc, r.below hb⟩
theorem ReadP.below {w w' : World} {v : Value} {l : List P2} (h : ReadP w v l) (hb : Below w.heap.size w w') : ReadP w' v l := h.imp id fun ⟨p, c, e, hc, r⟩ => ⟨p, c, e, hc, r.below hb⟩
theorem ReadI.row {w : World} {v : Value} {l : List Int} (h : ReadI w v l) : ∃ a c, v = .slice a l.length c ∧ RowI w a l := by
  rcases h with ⟨rfl, rfl⟩ | ⟨p, c, rfl, _, r⟩
  · exact ⟨none, 0, rfl, fun i hi => by simp at hi⟩
  · exact ⟨_, _, rfl, r⟩
theorem ReadP.row {w : World} {v : Value} {l : List P2} (h : ReadP w v l) : ∃ a c, v = .slice a l.length c ∧ RowP w a l := by
  rcases h with ⟨rfl, rfl⟩ | ⟨p, c, rfl, _, r⟩
  · exact ⟨none, 0, rfl, fun i hi => by simp at hi⟩
  · exact ⟨_, _, rfl, r⟩
theorem OwnI.read {w : World} {B : Nat} {v : Value} {l : List Int} (h : OwnI w B v l) : ReadI w v l := by
  obtain ⟨a, c, e, r, _⟩ := h.row
  rcases h.2 with ⟨rfl, hn⟩ | ⟨g, cap, cur, rfl, hB, hh, hc, _⟩
  · exact .inl ⟨rfl, List.eq_nil_of_length_eq_zero hn⟩
  · cases e
    exact .inr ⟨_, _, rfl, hc, r⟩
theorem OwnP.row {w : World} {B : Nat} {v : Value} {l : List P2} (h : OwnP w B v l) : ∃ a cap, v = .slice a l.length cap ∧ RowP w a l := by
  rcases h.2 with ⟨rfl, hn⟩ | ⟨g, cap, cur, rfl, hB, hh, hc, hm, hs, ht⟩
  · exact ⟨none, 0, by rw [hn], fun i hi => by omega⟩
  · refine ⟨_, cap, rfl, fun i hi => ⟨g, 0, rfl, slab_lt hh, ?_⟩⟩
    obtain ⟨g0, g1⟩ := cellsP_get l i hi
    have key : ∀ j u, j < l.length * 2 → (cellsP l)[j]? = some u → w.cell? ⟨g, 0 + j, none⟩ = some u := fun j u hj hu => by
      rw [slab_cell hh, Nat.zero_add]
      have := congrArg (fun q => q[j]?) ht
      rw [List.getElem?_take_of_lt hj, hu] at this
      rw [← Array.getElem?_toList, this]
    refine ⟨key _ _ (by omega) g0, ?_⟩
    rw [Nat.add_assoc]
    exact key _ _ (by omega) g1
theorem OwnP.read {w : World} {B : Nat} {v : Value} {l : List P2} (h : OwnP w B v l) : ReadP w v l := by
  obtain ⟨a, c, e, r⟩ := OwnP.row h
  rcases h.2 with ⟨rfl, hn⟩ | ⟨g, cap, cur, rfl, hB, hh, hc, _⟩
  · exact .inl ⟨rfl, List.eq_nil_of_length_eq_zero hn⟩
  · cases e
    exact .inr ⟨_, _, rfl, hc, r⟩
/-- From n on v and v' lie in different blocks. -/
abbrev SepN (n : Nat) (v v' : Value) : Prop := ∀ j, n ≤ j → v.ownBlock = some j → v'.ownBlock = some j → False
theorem own_lt {w : World} {B e m n : Nat} {v : Value} {xs : List Value} (h : w.ownsRow B e m v n xs) {j : Nat} (hj : v.ownBlock = some j) : B ≤ j ∧ j < w.heap.size := by
  rcases h.2 with ⟨rfl, _⟩ | ⟨g, cap, cur, rfl, hB, hh, _⟩
  · cases hj
  · cases hj; exact ⟨hB, slab_lt hh⟩
theorem sep_of {w w' : World} {B B' e m n e' m' n' : Nat} {v v' : Value} {xs ys : List Value} (h : w.ownsRow B e m v n xs) (h' : w'.ownsRow B' e' m' v' n' ys) (hB : w.heap.size ≤ B') (k : Nat) : SepN k v v' := fun j _ a b => by
  have := (own_lt h a).2
  have := (own_lt h' b).1
  omega
theorem SepN.symm {k : Nat} {v v' : Value} (h : SepN k v v') : SepN k v' v := fun j hj a b => h j hj b a
theorem SepN.none (k n c : Nat) (v : Value) : SepN k v (.slice none n c) := fun j _ _ h => by cases h
theorem own_cut {w : World} {B g n cap : Nat} {l : List Int} (h : OwnI w B (.slice (some ⟨g, 0, none⟩) l.length cap) l) (hn : n ≤ l.length) : OwnI w B (.slice (some ⟨g, 0, none⟩) n cap) (l.take n) := by
  refine ⟨by simp, .inr ?_⟩
  rcases h.2 with ⟨h, _⟩ | ⟨g', cap', cur, h, hB, hh, hc, hm, hs, ht⟩
  · cases h
  · cases h
    refine ⟨g, cap, cur, by rw [List.length_take, Nat.min_eq_left hn], hB, hh, by rw [List.length_take]; omega, hm, hs, ?_⟩
    rw [List.map_take, ← ht, List.take_take]
    congr 1
    rw [List.length_take]
    omega

set_option maxRecDepth 100000 in
theorem cloneI_nil (w : World) : Calls Try.prog 72 #[.slice none 0 0] w fun e w' => e = .returned (.slice none 0 0) ∧ w' = w := by
  have hnl := Lib.run_eql_slice_nil (P := Try.prog) w 26 3 none 0 0 0 0 Try.underlying26
  go_enter Try.func72, Try.ntmps72
  go_wp2
  go_ret
  first | exact ⟨rfl, rfl⟩ | skip
theorem cloneI_read (v : Value) (l : List Int) (w : World) (h : ReadI w v l) (hl : l.length ≤ 1048576) :
    Calls Try.prog 72 #[v] w fun e w' => ∃ v', e = .returned v' ∧ OwnI w' w.heap.size v' l ∧ Below w.heap.size w w' := by
  rcases h with ⟨rfl, rfl⟩ | ⟨p, c, rfl, _, r⟩
  · refine (cloneI_nil w).mono ?_
    rintro e w' ⟨rfl, rfl⟩
    exact ⟨_, rfl, OwnI.nil _ _, Below.refl _ _⟩
  · exact cloneI_any p c l w r hl
theorem ownI_of {w : World} {B n : Nat} {v : Value} {l : List Int} (h : w.ownsRow B 3 1 v n (l.map (Value.int .i64))) : OwnI w B v l := by
  have e := h.1
  simp at e
  subst e
  exact h
theorem ownP_of {w : World} {B n : Nat} {v : Value} {l : List P2} (h : w.ownsRow B 88 2 v n (cellsP l)) : OwnP w B v l := by
  have e := h.1
  rw [cellsP_len] at e
  obtain rfl : n = l.length := by omega
  exact h
/-- One number behind a list that has no room, as append makes it. -/
theorem app_pin (a : Option Addr) (c : Nat) (l : List Int) (w : World) (n : Nat) (h : ReadI w (.slice a n c) l) (hn0 : l.length = n) (hl : n ≤ 64) (x : Int) (g : Nat) (hx : w.cell? ⟨g, 0, none⟩ = some (.int .i64 x)) :
    ∃ v' w', (Builtin.append_ #[26, 26] 26 #[.slice a n n, .slice (some ⟨g, 0, none⟩) 1 1]).run Try.prog w = .ok v' w' ∧ w'.ownsRow w.heap.size 3 1 v' (n + 1) ((l ++ [x]).map (Value.int .i64)) ∧ w.grownBy w' none := by
  subst hn0
  obtain ⟨i0, hi, hz0, hz1, hz2⟩ := info_parts info3
  have hn : ∀ j u, [Value.int .i64 x][j]? = some u → w.cell? ((⟨g, 0, none⟩ : Addr).add j) = some u := fun j u hu => by
    match j, hu with
    | 0, hu => simp at hu; subst hu; rw [add_plain]; exact hx
  rcases h with ⟨e, rfl⟩ | ⟨p, c', e, _, r⟩
  · cases e
    obtain ⟨v', w', hrun, r1, r2, _⟩ := run_append_own (P := Try.prog) w w.heap.size 26 26 3 i0 (.int .i64 0) 1 8 Try.underlying26 hi hz0 hz1 hz2 rfl (by decide) (.slice none 0 0) 0 [] (World.ownsRow_nil w _ 3 1) ⟨g, 0, none⟩ 1 1 [.int .i64 x] rfl hn (by intro u hu; simp at hu; subst hu; rfl) (by unfold maxLen; omega) (by omega) (Nat.le_refl _)
    exact ⟨v', w', hrun, r1, r2⟩
  · cases e
    obtain ⟨v', w', hrun, r1, r2⟩ := run_append_arg_grows (P := Try.prog) w 26 26 3 i0 (.int .i64 0) 1 8 Try.underlying26 hi hz0 hz1 hz2 rfl (by decide) p l.length l.length (l.map (Value.int .i64)) (by simp) (rowI_news r) ⟨g, 0, none⟩ 1 1 [.int .i64 x] rfl hn (by omega) (by unfold maxLen; omega) (by omega)
    exact ⟨v', w', hrun, by rw [List.map_append]; exact r1, r2⟩
theorem step_append_run {ops : Array Oper} {o : Oper} {a : Act} {w : World} {K : Act → World → Prop} {Q : Exit → Act → World → Prop} {E : Prop} (hgd : o.guard = none) (s x : Operand) (t tn : TypeId)
    (ho : o.op = .call { callee := .builtin .append, args := #[s, x], argTypes := #[t, tn] }) (vs vx : Value) (hs : a.eval s = vs) (hx : a.eval x = vx)
    (v' : Value) (w' : World) (hr : (Builtin.append_ #[t, tn] o.type #[vs, vx]).run Try.prog w = .ok v' w') (h : K (a.put o.dst v') w') :
    if Region.wanted o (yielded ops a.tmps) = true then Oper.wp Try.prog o a w K Q else E := by
  have hw : Region.wanted o (yielded ops a.tmps) = true := by simp [Region.wanted, hgd]
  rw [if_pos hw]
  exact Lib.wp_append_run w s x t tn ho vs vx hs hx v' w' hr h
end Go.Proofs.Ytaklphoplfofbaa
