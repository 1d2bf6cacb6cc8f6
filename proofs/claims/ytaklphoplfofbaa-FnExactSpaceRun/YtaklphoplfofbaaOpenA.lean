/- How an act that is handed to a law is opened (stage 4). -/
import Derived.Test.YtaklphoplfofbaaOpenS
namespace Go.Proofs.Ytaklphoplfofbaa
open Go.ChangeShapes Go.WideShapes Go.ChangeAt Go.RowKit Go.Joins

theorem cells56 : Try.prog.cellsOf 56 = 2 := by kernel_rfl
theorem array2 {α : Type} {cs : Array α} (h : cs.size = 2) : ∃ c0 c1, cs = #[c0, c1] := by
  obtain ⟨l⟩ := cs
  match l, h with
  | [c0, c1], _ => exact ⟨c0, c1, rfl⟩

set_option maxRecDepth 100000 in
theorem open_act {H : Type} {enc : TypeId × Value → H} {W : World} {base : Nat} {v : Value} {d : DataW H} {p : List MemPlace}
    (hv : Value.okWide Try.prog W .any base 56 v) (h : DataW.Trod enc Try.prog W 0 (fun _ => true) true 56 v d p) : ∃ k n : Int, v = .agg #[.int .i64 k, .int .i64 n] := by
  obtain ⟨cs, rfl, hsz⟩ := okWide_struct Try.underlying56 hv
  obtain ⟨v0, v1, rfl⟩ := array2 (hsz.trans cells56)
  obtain ⟨fuel, hf⟩ := h
  obtain ⟨y0, y1, n', _, _, e0, e1⟩ := trod_struct2 Try.underlying56 hf
  simp [Value.cells, cells3] at e0 e1
  obtain ⟨k, q0, _, _⟩ := DataW.trod_int Try.underlying3 e0
  obtain ⟨n, q1, _, _⟩ := DataW.trod_int Try.underlying3 e1
  simp at q0 q1
  subst q0 q1
  exact ⟨k, n, rfl⟩
end Go.Proofs.Ytaklphoplfofbaa
