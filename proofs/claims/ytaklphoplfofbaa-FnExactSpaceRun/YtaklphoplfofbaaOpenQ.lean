/- How a list of acts that is handed to a law is opened (stage 4). -/
import Derived.Test.YtaklphoplfofbaaOpenA
namespace Go.Proofs.Ytaklphoplfofbaa
open Go.ChangeShapes Go.WideShapes Go.ChangeAt Go.RowKit Go.Joins

set_option maxRecDepth 100000 in
theorem open_rowQ {H : Type} {enc : TypeId × Value → H} {W : World} {fuel : Nat} {v : Value} {x : DataW H × List MemPlace}
    (hf : DataW.trod enc Try.prog W 0 (fun _ => true) true fuel 63 [v] = some x) : ∃ a len cap, v = .slice a len cap ∧ ∃ ps : List P2, ps.length = len ∧ RowP W a ps ∧ len ≤ maxLen := by
  rcases Deep.open_slice Try.underlying63 hf with ⟨hcs, _⟩ | ⟨ad, l, c, m, n, D, Pl, hcs, _, hl, hm, hmm, _, hel⟩
  · simp at hcs
    exact ⟨none, 0, 0, hcs, [], rfl, fun i hi => by simp at hi, Nat.zero_le _⟩
  · simp at hcs hmm
    subst hcs hmm
    refine ⟨_, _, _, rfl, ?_⟩
    rw [cells56] at hel
    have key : ∀ i, i < l → ∃ p : P2, ∃ b off, some ad = some ⟨b, off, none⟩ ∧ b < W.heap.size ∧ CellP W b (off + i * 2) p := fun i hi => by
      obtain ⟨cs', h1, h2⟩ := hel i (by omega)
      obtain ⟨_, hlen, hcell⟩ := World.cells?_some h1
      obtain ⟨y0, y1, n', _, _, e0, e1⟩ := trod_struct2 Try.underlying56 h2
      match cs', hlen with
      | [c0, c1], _ =>
        obtain ⟨k, q0, _, _⟩ := DataW.trod_int Try.underlying3 e0
        obtain ⟨t, q1, _, ht⟩ := DataW.trod_int Try.underlying3 e1
        simp [cells3] at q0
        simp [cells3] at q1
        subst q0 q1
        have d0 := hcell 0 (by omega)
        have d1 := hcell 1 (by omega)
        obtain ⟨b, off, spot⟩ := ad
        obtain ⟨cs0, g1, _⟩ := hel 0 (by omega)
        have hs : spot = none := by
          have := World.cell?_spot ((World.cells?_some g1).2.2 0 (by omega) |>.trans (List.getElem?_eq_getElem (by rw [(World.cells?_some g1).2.1]; omega)))
          simpa [Addr.add] using this
        subst hs
        rw [add_plain, add_plain] at d0 d1
        exact ⟨(k, t), b, off, rfl, World.block_lt_of_cell? W _ d0, ⟨d0, d1⟩⟩
    obtain ⟨ps, hpl, hps⟩ := exists_listP l key
    refine ⟨ps, hpl, fun i hi => ?_, Nat.le_trans hl hm⟩
    obtain ⟨b, off, e, r⟩ := hps i (by omega)
    exact ⟨b, off, e, r⟩

end Go.Proofs.Ytaklphoplfofbaa
