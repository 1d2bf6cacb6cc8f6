/- What stands in the laws on RowKey and IndexKey (stage 9). -/
import Derived.Test.YtepkdodicglilaaGreatDoorRkA
import Derived.Test.YtepkdodicglilaaGreatDoorMkB
import Derived.Test.YtepkdodicglilaaGreatDoorMkC
namespace Go.Proofs.YtepkdodicglilaaGreatDoor
open Go.RowKit

/-- The arguments lie as they lay. -/
abbrev ArgR (w : World) (b : Nat) (nm : ByteArray) (key : Int) (ca xa : Option Addr) (cc xc : Nat) (cs : List TC) (xs : List TX) (a : Option Addr) (vs : List V3) (w' : World) : Prop :=
  BoxT b nm (.slice ca cs.length cc) key (.slice xa xs.length xc) w' ∧ (RowC w' ca cs ∧ RowX w' xa xs ∧ RowV w' a vs) ∧ Below w.heap.size w w'
theorem ArgR.keep {w : World} {b : Nat} {nm : ByteArray} {key : Int} {ca xa : Option Addr} {cc xc : Nat} {cs : List TC} {xs : List TX} {a : Option Addr} {vs : List V3} {w1 w2 : World} (h : ArgR w b nm key ca xa cc xc cs xs a vs w1) (hb : Below w1.heap.size w1 w2) : ArgR w b nm key ca xa cc xc cs xs a vs w2 :=
  ⟨h.1.below hb, ⟨h.2.1.1.below hb, h.2.1.2.1.below hb, h.2.1.2.2.below hb⟩, below_step h.2.2 (Nat.le_refl _) hb⟩
/-- The copies. -/
abbrev CpyR (hi yb g1 g2 g3 : Nat) (nm : ByteArray) (key : Int) (cs : List TC) (xs : List TX) (vs : List V3) (w' : World) : Prop :=
  BoxT yb nm (fullS g1 cs.length) key (fullS g2 xs.length) w' ∧ ((RowC w' (some ⟨g1, 0, none⟩) cs ∧ RowX w' (some ⟨g2, 0, none⟩) xs) ∧ RowV w' (some ⟨g3, 0, none⟩) vs) ∧ (ShpC w' g1 cs.length ∧ ShpX w' hi g2 xs.length (fun i => (nthX xs i).2.length) ∧ MkV w' g3 vs.length 0 0)
theorem CpyR.keep {hi yb g1 g2 g3 : Nat} {nm : ByteArray} {key : Int} {cs : List TC} {xs : List TX} {vs : List V3} {w1 w2 : World} (h : CpyR hi yb g1 g2 g3 nm key cs xs vs w1) (hb : Below w1.heap.size w1 w2) : CpyR hi yb g1 g2 g3 nm key cs xs vs w2 :=
  ⟨h.1.below hb, ⟨⟨h.2.1.1.1.below hb, h.2.1.1.2.below hb⟩, h.2.1.2.below hb⟩, ⟨h.2.2.1.below hb, h.2.2.2.1.below hb, h.2.2.2.2.below hb⟩⟩
/-- Arguments, copies, both answers, and what lay in wA. -/
abbrev BigR (A C : World → Prop) (n : Nat) (f : Nat → Int) (ua ia : Option Addr) (wA w' : World) : Prop := (A w' ∧ C w') ∧ (ReadB w' ua n f ∧ OwnB w' ia n f) ∧ Below wA.heap.size wA w'
theorem BigR.keep {A C : World → Prop} {n : Nat} {f : Nat → Int} {ua ia : Option Addr} {wA w1 w2 : World} (hA : ∀ w1 w2, A w1 → Below w1.heap.size w1 w2 → A w2) (hC : ∀ w1 w2, C w1 → Below w1.heap.size w1 w2 → C w2) (h : BigR A C n f ua ia wA w1) (hb : Below w1.heap.size w1 w2) : BigR A C n f ua ia wA w2 :=
  ⟨⟨hA _ _ h.1.1 hb, hC _ _ h.1.2 hb⟩, ⟨h.2.1.1.below hb, h.2.1.2.below hb⟩, below_step h.2.2 (Nat.le_refl _) hb⟩
/-- Behind the marks: arguments, what is held, and what lay in wA. -/
abbrev EndR (A : World → Prop) (n : Nat) (ia : Option Addr) (wA w' : World) : Prop := A w' ∧ ReadB w' ia n (markB 1) ∧ Below wA.heap.size wA w'
theorem EndR.keep {A : World → Prop} {n : Nat} {ia : Option Addr} {wA w1 w2 : World} (hA : ∀ w1 w2, A w1 → Below w1.heap.size w1 w2 → A w2) (h : EndR A n ia wA w1) (hb : Below w1.heap.size w1 w2) : EndR A n ia wA w2 :=
  ⟨hA _ _ h.1 hb, h.2.1.below hb, below_step h.2.2 (Nat.le_refl _) hb⟩
theorem OwnB.kept {S : Nat → Prop} {w w' : World} {a : Option Addr} {n : Nat} {f : Nat → Int} (h : OwnB w a n f) (hK : Kept S w w') (hS : ∀ g, a = some ⟨g, 0, none⟩ → ¬ S g) : OwnB w' a n f := by
  rcases h with rfl | ⟨g, cur, lo, hi, e, hh, r⟩
  · exact .inl rfl
  · exact .inr ⟨g, cur, lo, hi, e, (hK.block g (slab_lt hh) (hS g e)).trans hh, r⟩
end Go.Proofs.YtepkdodicglilaaGreatDoor
