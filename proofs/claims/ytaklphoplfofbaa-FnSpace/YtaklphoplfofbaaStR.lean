/- A region that draws its order, by what stands behind each set of its operations. -/
import Derived.Test.YtaklphoplfofbaaStO
import Derived.Deep.RegionHeld3
namespace Go.Proofs.Ytaklphoplfofbaa
open Go.RowKit

theorem ready_lt {md : Region.Mode} {ops : Array Oper} {l : Array Bool} {i : Nat} (h : i ∈ Region.ready md ops l) : i < ops.size := by
  unfold Region.ready at h
  rw [List.mem_filter, List.mem_range] at h
  exact h.1
theorem ready_new {md : Region.Mode} {ops : Array Oper} {l : Array Bool} {i : Nat} (h : i ∈ Region.ready md ops l) : l.getD i true = false := by
  unfold Region.ready at h
  rw [List.mem_filter] at h
  have := h.2
  simp only [Bool.and_eq_true, Bool.not_eq_true'] at this
  exact this.1
theorem ready_deps {md : Region.Mode} {ops : Array Oper} {l : Array Bool} {i : Nat} {o : Oper} (h : i ∈ Region.ready md ops l) (ho : ops[i]? = some o) : o.after.all (fun e => !Region.binds md e || l.getD e.on false) = true := by
  unfold Region.ready at h
  rw [List.mem_filter] at h
  have := h.2
  rw [ho] at this
  simp only [Bool.and_eq_true, Option.map_some, Option.getD_some] at this
  exact this.2

/-- How many are still to come. -/
def toCome (n : Nat) (l : Array Bool) : Nat := ((List.range n).filter fun i => !l.getD i true).length
theorem toCome_set {n i : Nat} {l : Array Bool} (hi : i < n) (hs : l.size = n) (hn : l.getD i true = false) : toCome n (l.setIfInBounds i true) < toCome n l := by
  unfold toCome
  have key : ∀ k, k ≤ n → ((List.range k).filter fun j => !(l.setIfInBounds i true).getD j true).length + (if i < k then 1 else 0) = ((List.range k).filter fun j => !l.getD j true).length := by
    intro k
    induction k with
    | zero => intro _; simp
    | succ k ih =>
      intro hk
      have ih := ih (by omega)
      rw [List.range_succ, List.filter_append, List.filter_append, List.length_append, List.length_append]
      by_cases e : i = k
      · subst e
        have g1 : (l.setIfInBounds i true).getD i true = true := by simp [Array.getD, hs, hi]
        rw [if_neg (by omega)] at ih
        rw [if_pos (by omega)]
        simp only [List.filter_cons, List.filter_nil, g1, hn]
        simp
        simp at ih
        omega
      · have g1 : (l.setIfInBounds i true).getD k true = l.getD k true := by
          simp only [Array.getD_eq_getD_getElem?]
          rw [Array.getElem?_setIfInBounds_ne (by omega)]
        have : (if i < k + 1 then 1 else 0) = (if i < k then 1 else 0) := by
          by_cases h : i < k
          · rw [if_pos h, if_pos (by omega)]
          · rw [if_neg h, if_neg (by omega)]
        rw [this]
        simp only [List.filter_cons, List.filter_nil, g1]
        omega
  have := key n (Nat.le_refl _)
  rw [if_pos hi] at this
  omega

theorem wpAny_inv {P : Program} {md : Region.Mode} {ops : Array Oper} {Q : Exit → Act → World → Prop} (I : Array Bool → Act → World → Prop)
    (hstep : ∀ l a w i, l.size = ops.size → I l a w → i ∈ Region.ready md ops l → wpOp P ops Q i (I (l.setIfInBounds i true)) a w)
    (hend : ∀ l a w, l.size = ops.size → I l a w → Region.ready md ops l = [] → Q .normal a w) :
    ∀ (fuel : Nat) (l : Array Bool) (a : Act) (w : World), l.size = ops.size → toCome ops.size l ≤ fuel → I l a w → wpAny P md ops Q fuel l a w
  | 0, l, a, w, hs, hc, h => by
    have hr : Region.ready md ops l = [] := by
      rw [List.eq_nil_iff_forall_not_mem]
      intro i hi
      have h1 := toCome_set (ready_lt hi) hs (ready_new hi)
      omega
    exact ⟨hr, hend l a w hs h hr⟩
  | fuel + 1, l, a, w, hs, hc, h => by
    refine ⟨fun hr => hend l a w hs h hr, fun i hi => ?_⟩
    refine wpOp_mono (fun a' w' h' => ?_) (hstep l a w i hs h hi)
    have h1 := toCome_set (ready_lt hi) hs (ready_new hi)
    exact wpAny_inv I hstep hend fuel _ a' w' (by simpa using hs) (by omega) h'
theorem toCome_all (n : Nat) : toCome n (Array.replicate n false) ≤ n := by
  unfold toCome
  refine Nat.le_trans (List.length_filter_le _ _) ?_
  simp
/-- The region, by an invariant. -/
theorem wp_region_inv {P : Program} {ops : Array Oper} {Q : Exit → Act → World → Prop} {id : Nat} {a : Act} {w : World} (hm : P.follows .mixedOrders = true) (I : Array Bool → Act → World → Prop)
    (h0 : I (Array.replicate ops.size false) a w.drew)
    (hstep : ∀ l a w i, l.size = ops.size → I l a w → i ∈ Region.ready .any ops l → wpOp P ops Q i (I (l.setIfInBounds i true)) a w)
    (hend : ∀ l a w, l.size = ops.size → I l a w → Region.ready .any ops l = [] → Q .normal a w) : (Code.region id ops true).wp P Q a w :=
  wp_region_any hm (wpAny_inv I hstep hend _ _ _ _ (by simp) (toCome_all _) h0)
/-- Each edge leads back. -/
def backs (md : Region.Mode) (ops : Array Oper) : Bool := (List.range ops.size).all fun i => ((ops[i]?).map (·.after.all fun e => !Region.binds md e || decide (e.on < i))).getD true
theorem ready_done {md : Region.Mode} {ops : Array Oper} {l : Array Bool} (hb : backs md ops = true) (hs : l.size = ops.size) (hr : Region.ready md ops l = []) : ∀ i, i < ops.size → l.getD i false = true := by
  intro i
  induction i using Nat.strongRecOn with
  | ind i ih =>
    intro hi
    cases hc : l.getD i false
    · exfalso
      have ht : l.getD i true = false := by
        have e1 : l[i]? = some l[i] := Array.getElem?_eq_getElem (by omega)
        simp only [Array.getD_eq_getD_getElem?, e1, Option.getD_some] at hc ⊢
        exact hc
      have : i ∈ Region.ready md ops l := by
        unfold Region.ready
        rw [List.mem_filter, List.mem_range]
        refine ⟨hi, ?_⟩
        unfold backs at hb
        rw [List.all_eq_true] at hb
        have h1 := hb i (List.mem_range.mpr hi)
        rw [ht]
        have e1 : ops[i]? = some ops[i] := Array.getElem?_eq_getElem hi
        rw [e1] at h1 ⊢
        simp only [Option.map_some, Option.getD_some, Bool.not_false, Bool.true_and] at h1 ⊢
        rw [Array.all_eq_true] at h1 ⊢
        intro k hk
        have := h1 k hk
        rw [Bool.or_eq_true] at this ⊢
        rcases this with h | h
        · exact .inl h
        · have hlt : ops[i].after[k].on < i := of_decide_eq_true h
          exact .inr (ih _ hlt (by omega))
      rw [hr] at this
      cases this
    · rfl
end Go.Proofs.Ytaklphoplfofbaa
