/- The law on TreeSize, walked (stage 11). -/
import Derived.Test.YthjibgnhpkonbaaTrF
import Derived.Test.YthjibgnhpkonbaaTrO
namespace Go.Proofs.Ythjibgnhpkonbaa
open Go.RowKit

/-- The argument and a copy of it lie in two blocks; what lay in w lies there still. -/
abbrev TwoT (w : World) (b y : Nat) (x : ND) (ka : Option Addr) (kc g : Nat) (ks : Fo) (w' : World) : Prop :=
  BoxN b x (.slice ka ks.len kc) w' ∧ BoxN y x (fullS g ks.len) w' ∧ RowT 0 w' ka 0 ks ∧ RowT 0 w' (some ⟨g, 0, none⟩) 0 ks ∧ Below w.heap.size w w'
theorem TwoT.keep {w : World} {b y : Nat} {x : ND} {ka : Option Addr} {kc g : Nat} {ks : Fo} {w1 w2 : World} (h : TwoT w b y x ka kc g ks w1) (hb : Below w1.heap.size w1 w2) : TwoT w b y x ka kc g ks w2 :=
  ⟨h.1.below hb, h.2.1.below hb, h.2.2.1.below hb, h.2.2.2.1.below hb, below_step h.2.2.2.2 (Nat.le_refl _) hb⟩

end Go.Proofs.Ythjibgnhpkonbaa
