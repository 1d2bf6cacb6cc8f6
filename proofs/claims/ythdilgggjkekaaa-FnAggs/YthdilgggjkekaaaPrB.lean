/- Marks on lists of rows that own their memory, and what is held of them (stage 13). -/
import Derived.Test.YthdilgggjkekaaaPrA
namespace Go.Proofs.Ythdilgggjkekaaa.R
open Go.RowKit

def Rng (lo hi : Nat) (j : Nat) : Prop := lo ≤ j ∧ j < hi
/-- Rows that lie in blocks of their own, all within lo and hi; of each block P holds. -/
def OwnX (w : World) (lo hi : Nat) (a : Option Addr) (rs : Rs) (P : Nat → Nat → Nat → Prop) : Prop :=
  rs.length = 0 ∨ ∃ (g : Nat) (cur : Array Value) (gs ns cs : Nat → Nat) (ax : Nat → Option Addr), a = some ⟨g, 0, none⟩ ∧ lo ≤ g ∧ g < hi ∧ w.heap[g]? = some (.cells cur 25 (0, 0)) ∧
    (∀ i, i < rs.length → cur[i]? = some (.slice (ax i) (nthR rs i).length (cs i)) ∧ (0 < (nthR rs i).length → ax i = some ⟨gs i, 0, none⟩ ∧ gs i ≠ g ∧ lo ≤ gs i ∧ gs i < hi ∧ (nthR rs i).length ≤ ns i ∧ P i (gs i) (ns i))) ∧
    ∀ i j, i < j → j < rs.length → 0 < (nthR rs i).length → 0 < (nthR rs j).length → gs i ≠ gs j
theorem OwnX.map {w w' : World} {lo hi : Nat} {a : Option Addr} {rs : Rs} {P Q : Nat → Nat → Nat → Prop} (h : OwnX w lo hi a rs P) (hb : ∀ g, lo ≤ g → g < hi → g < w.heap.size → w'.heap[g]? = w.heap[g]?)
    (hP : ∀ i g n, i < rs.length → lo ≤ g → g < hi → P i g n → Q i g n) : OwnX w' lo hi a rs Q := by
  rcases h with h | ⟨g, cur, gs, ns, cs, ax, e, h1, h2, hh, hc, hd⟩
  · exact .inl h
  · refine .inr ⟨g, cur, gs, ns, cs, ax, e, h1, h2, (hb g h1 h2 (slab_lt hh)).trans hh, fun i hi' => ⟨(hc i hi').1, fun h0 => ?_⟩, hd⟩
    obtain ⟨q1, q2, q3, q4, q5, q6⟩ := (hc i hi').2 h0
    exact ⟨q1, q2, q3, q4, q5, hP i _ _ hi' q3 q4 q6⟩
/-- Rows of the call's own, with their values. -/
def OwnR (w : World) (lo hi : Nat) (a : Option Addr) (rs : Rs) : Prop := OwnX w lo hi a rs (fun i g n => SlabK w g n (nthR rs i) (nthR rs i).length)
theorem SlabK.at {w w' : World} {g n k : Nat} {vs : List V3} (h : SlabK w g n vs k) (hb : w'.heap[g]? = w.heap[g]?) : SlabK w' g n vs k := by
  obtain ⟨cur, hh, r⟩ := h
  exact ⟨cur, hb.trans hh, r⟩
theorem OwnR.block {w w' : World} {lo hi : Nat} {a : Option Addr} {rs : Rs} (h : OwnR w lo hi a rs) (hb : ∀ g, lo ≤ g → g < hi → g < w.heap.size → w'.heap[g]? = w.heap[g]?) : OwnR w' lo hi a rs :=
  OwnX.map h hb (fun _ g _ _ h1 h2 hS => hS.at (hb g h1 h2 hS.lt))
theorem OwnR.below {w w' : World} {lo hi : Nat} {a : Option Addr} {rs : Rs} (h : OwnR w lo hi a rs) (hb : Below w.heap.size w w') : OwnR w' lo hi a rs := h.block fun g _ _ hg => hb.block g hg
theorem OwnR.shp {w : World} {lo hi : Nat} {a : Option Addr} {rs : Rs} (h : OwnR w lo hi a rs) : OwnX w lo hi a rs (fun _ g n => MkV w g n 0 0) :=
  OwnX.map h (fun _ _ _ _ => rfl) (fun _ _ _ _ _ _ hS => hS.shp)
theorem OwnR.row {w : World} {lo hi : Nat} {a : Option Addr} {rs : Rs} (h : OwnR w lo hi a rs) (ht : TextR rs) (hs : SmallR rs) : RowR w a rs := fun i hi' => by
  rcases h with h | ⟨g, cur, gs, ns, cs, ax, e, h1, h2, hh, hc, hd⟩
  · omega
  · obtain ⟨e1, e2⟩ := hc i hi'
    refine ⟨g, 0, ax i, cs i, e, slab_lt hh, by rw [slab_cell hh, Nat.zero_add]; exact e1, ?_, small_max (hs.2 i hi')⟩
    intro j hj
    obtain ⟨q1, q2, q3, q4, q5, cu, qh, _, qc⟩ := e2 (by omega)
    have := qc j hj
    refine ⟨gs i, 0, q1, slab_lt qh, ⟨?_, ?_, ?_⟩, ht i hi' j hj⟩
    · rw [slab_cell qh, Nat.zero_add]; exact this.1
    · rw [slab_cell qh, Nat.zero_add]; exact this.2.1
    · rw [slab_cell qh, Nat.zero_add]; exact this.2.2
theorem SlabR.own {w : World} {g lo : Nat} {rs : Rs} (h : SlabR w g rs.length rs rs.length) (hlo : lo ≤ g) : OwnR w lo w.heap.size (some ⟨g, 0, none⟩) rs := by
  have hl := h.lt
  obtain ⟨cur, gs, hh, hn, hc, hm⟩ := h
  refine .inr ⟨g, cur, gs, fun i => (nthR rs i).length, fun i => (nthR rs i).length, fun i => some ⟨gs i, 0, none⟩, rfl, hlo, hl, hh, fun i hi => ⟨(hc i hi).1, fun _ => ⟨rfl, ?_, ?_, (hc i hi).2.2.lt, Nat.le_refl _, (hc i hi).2.2⟩⟩, fun i j hij hj _ _ => ?_⟩
  · have := (hc i hi).2.1; omega
  · have := (hc i hi).2.1; omega
  · have := hm i j hij hj; omega

/-- The mark at which row i begins. -/
def kAt (k : Int) (rs : Rs) : Nat → Int
  | 0 => k
  | i + 1 => kAt k rs i + 3 * (nthR rs i).length
theorem kAt_bd {k : Int} {rs : Rs} (hs : SmallR rs) : ∀ i, i ≤ rs.length → k ≤ kAt k rs i ∧ kAt k rs i ≤ k + 3145728 * i
  | 0, _ => ⟨Int.le_refl _, by simp [kAt]⟩
  | i + 1, h => by
    obtain ⟨h1, h2⟩ := kAt_bd (k := k) hs i (by omega)
    have := hs.2 i (by omega)
    simp only [kAt]
    push_cast
    omega
/-- Rows that are marked from k on. -/
def MkR (w : World) (lo hi : Nat) (a : Option Addr) (rs : Rs) (k : Int) : Prop := OwnX w lo hi a rs (fun i g n => MkV w g n (kAt k rs i) (nthR rs i).length)
theorem MkV.at {w w' : World} {g n m : Nat} {k : Int} (h : MkV w g n k m) (hb : w'.heap[g]? = w.heap[g]?) : MkV w' g n k m := by
  obtain ⟨cur, hh, r⟩ := h
  exact ⟨cur, hb.trans hh, r⟩
theorem MkR.below {w w' : World} {lo hi : Nat} {a : Option Addr} {rs : Rs} {k : Int} (h : MkR w lo hi a rs k) (hb : Below w.heap.size w w') : MkR w' lo hi a rs k :=
  OwnX.map h (fun g _ _ hg => hb.block g hg) (fun _ _ _ _ _ _ hM => hM.below hb)
/-- The first j rows are marked. -/
def MkJ (w : World) (rs : Rs) (gs ns : Nat → Nat) (k : Int) (j : Nat) : Prop := ∀ i, i < rs.length → 0 < (nthR rs i).length → (i < j → MkV w (gs i) (ns i) (kAt k rs i) (nthR rs i).length) ∧ (j ≤ i → MkV w (gs i) (ns i) 0 0)
theorem MkJ.skip {w : World} {rs : Rs} {gs ns : Nat → Nat} {k : Int} {j : Nat} (h : MkJ w rs gs ns k j) (h0 : (nthR rs j).length = 0) : MkJ w rs gs ns k (j + 1) := fun i hi hp => by
  obtain ⟨h1, h2⟩ := h i hi hp
  have hne : i ≠ j := fun e => by subst e; omega
  exact ⟨fun h => h1 (by omega), fun h => h2 (by omega)⟩
theorem MkJ.step {w w' : World} {rs : Rs} {gs ns : Nat → Nat} {k : Int} {j : Nat} (h : MkJ w rs gs ns k j) (hj : j < rs.length) (h0 : 0 < (nthR rs j).length)
    (hd : ∀ i j, i < j → j < rs.length → 0 < (nthR rs i).length → 0 < (nthR rs j).length → gs i ≠ gs j) (hK : Kept (fun x => x = gs j) w w') (hM : MkV w' (gs j) (ns j) (kAt k rs j) (nthR rs j).length) : MkJ w' rs gs ns k (j + 1) := fun i hi hp => by
  obtain ⟨h1, h2⟩ := h i hi hp
  rcases Nat.lt_trichotomy i j with hij | rfl | hij
  · exact ⟨fun _ => (h1 hij).kept hK (hd i j hij hj hp h0), fun h => by omega⟩
  · exact ⟨fun _ => hM, fun h => by omega⟩
  · exact ⟨fun h => by omega, fun _ => (h2 (by omega)).kept hK (fun e => hd j i hij hi h0 hp e.symm)⟩
end Go.Proofs.Ythdilgggjkekaaa.R
