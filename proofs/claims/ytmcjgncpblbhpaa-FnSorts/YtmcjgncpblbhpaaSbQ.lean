/- SameBag of lists that may be nil (stage 13). -/
import Derived.Test.YtmcjgncpblbhpaaSbP
namespace Go.Proofs.Ytmcjgncpblbhpaa
open Go.RowKit

/-- A list of rows as a value: nil, or one whose rows have addresses. -/
def LstA (w : World) (v : Value) (rs : Rs) : Prop := (v = .slice none 0 0 ∧ rs = []) ∨ ∃ g c, v = .slice (some ⟨g, 0, none⟩) rs.length c ∧ RowA w (some ⟨g, 0, none⟩) rs ∧ g < w.heap.size
theorem LstA.below {w w' : World} {v : Value} {rs : Rs} (h : LstA w v rs) (hb : Below w.heap.size w w') : LstA w' v rs := by
  rcases h with h | ⟨g, c, e, h1, h2⟩
  · exact .inl h
  · exact .inr ⟨g, c, e, h1.below hb, Nat.lt_of_lt_of_le h2 hb.size⟩
theorem LstA.row {w : World} {v : Value} {rs : Rs} (h : LstA w v rs) : ∃ a c, v = .slice a rs.length c ∧ RowA w a rs := by
  rcases h with ⟨rfl, rfl⟩ | ⟨g, c, e, h1, h2⟩
  · exact ⟨none, 0, rfl, fun i hi => by simp at hi⟩
  · exact ⟨_, c, e, h1⟩
theorem BldR.lst {w : World} {B hi : Nat} {v : Value} {rs : Rs} (h : BldR w B hi v rs) (hp : ∀ i, i < rs.length → 0 < (nthR rs i).length) (ht : TextR rs) (hs : SmallR rs) : LstA w v rs := by
  have h' := h
  obtain ⟨a, c, e, hr, hq⟩ := h.rowA hp ht hs
  rcases hq with hq | ⟨g, rfl, _, hg⟩
  · refine .inl ⟨hq, ?_⟩
    rw [hq] at e
    simp only [Value.slice.injEq] at e
    exact List.eq_nil_of_length_eq_zero e.2.1.symm
  · exact .inr ⟨g, c, e, hr, hg⟩
theorem srt_nil : SrtR [] [] := ⟨[], by simp, List.Pairwise.nil, rfl⟩
theorem sortedBy_lst (v : Value) (rs : Rs) (w : World) (h : LstA w v rs) (ho : okRs 16 rs = true) :
    Calls Try.prog 42 #[v, .func (.func 43) #[] #[]] w fun e w' => ∃ a c ts, e = .returned (.slice a rs.length c) ∧ SrtR rs ts ∧ ts.length = rs.length ∧ RowR w' a ts ∧ Below w.heap.size w w' := by
  rcases h with ⟨rfl, rfl⟩ | ⟨g, c, rfl, h1, h2⟩
  · refine (sortedBy_nil w).mono ?_
    rintro e w' ⟨rfl, rfl⟩
    exact ⟨none, 0, [], rfl, srt_nil, rfl, fun i hi => by simp at hi, Below.refl _ _⟩
  · exact sortedBy_any g 0 c rs w h1 (small16 ho).1 (small16 ho).2 h2
set_option maxRecDepth 100000 in
set_option maxHeartbeats 8000000 in
theorem implSame_lst (va vb : Value) (aa bb : Rs) (w : World) (ha : LstA w va aa) (hb : LstA w vb bb) (sa : SmallR aa) (sb : SmallR bb) (o1 : okRs 16 aa = true) (o2 : okRs 16 bb = true) :
    Calls Try.prog 13 #[va, vb] w (RetB aa bb w) := by
  have PP : Hid (∀ W, Below w.heap.size w W → (Calls Try.prog 42 #[va, .func (.func 43) #[] #[]] W fun e w' => ∃ a c ts, e = .returned (.slice a aa.length c) ∧ SrtR aa ts ∧ ts.length = aa.length ∧ RowR w' a ts ∧ Below W.heap.size W w') ∧ (Calls Try.prog 42 #[vb, .func (.func 43) #[] #[]] W fun e w' => ∃ a c ts, e = .returned (.slice a bb.length c) ∧ SrtR bb ts ∧ ts.length = bb.length ∧ RowR w' a ts ∧ Below W.heap.size W w')) := fun W hW => ⟨sortedBy_lst va aa W (ha.below hW) o1, sortedBy_lst vb bb W (hb.below hW) o2⟩
  obtain ⟨a1, ca, rfl, ra⟩ := ha.row
  obtain ⟨a2, cb, rfl, rb⟩ := hb.row
  have l1 := (small16 o1).1
  have l2 := (small16 o2).1
  have A1 := rowsOK_any 16 aa a1 ca w ra.row sa
  have A2 := fun W (hW : Below w.heap.size w W) => rowsOK_any 16 bb a2 cb W (rb.row.below hW) sb
  have HC : Hid (sbC aa bb = 0) := by
    show _ = _
    unfold sbC
    rw [if_neg (by omega), if_pos ⟨o1, o2⟩]
  have hn : ¬ (4096 : Int) < (aa.length : Int) := by omega
  have hm : ¬ (4096 : Int) < (bb.length : Int) := by omega
  have HEq : Hid (∀ (ta tb : Rs) a1 c1 a2 c2 W, SrtR aa ta → SrtR bb tb → ta.length = aa.length → tb.length = bb.length → RowR W a1 ta → RowR W a2 tb → Calls Try.prog 41 #[.slice a1 aa.length c1, .slice a2 bb.length c2, .func (.func 44) #[] #[]] W fun e w' => (∃ x : Bool, e = .returned (.bool x) ∧ (x = true ↔ aa.Perm bb)) ∧ Below W.heap.size W w') := fun ta tb a1 c1 a2 c2 W s1 s2 e1 e2 r1 r2 => by
    have := equalFunc_any a1 a2 c1 c2 ta tb W r1 r2 (by omega)
    rw [e1, e2] at this
    refine this.mono ?_
    rintro e w' ⟨rfl, hb⟩
    exact ⟨⟨_, rfl, srt_same s1 s2⟩, hb⟩
  rw [o1] at A1
  rw [o2] at A2
  clear o1 o2 ha hb sa sb ra rb l1 l2
  generalize aa.length = n at *
  generalize bb.length = m at *
  go_enter Try.func13, Try.ntmps13
  go_wp2_with (first | (go_at_call 39; refine A1.mono ?_; rintro e w1 ⟨rfl, b1⟩; clear A1) | (go_at_call 39; refine (A2 _ b1).mono ?_; rintro e w2 ⟨rfl, b2⟩; clear A2; have B2 := below_step b1 (Nat.le_refl _) b2; clear b1 b2) | fail)
  go_wp2_with fail
  refine (PP.out _ B2).1.mono ?_
  rintro e w3 ⟨a3, c3, t3, rfl, s3, e3, r3, b3⟩
  have B3 := below_step B2 (Nat.le_refl _) b3
  have H3 : Hid (SrtR aa t3 ∧ t3.length = n ∧ RowR w3 a3 t3) := ⟨s3, e3, r3⟩
  clear s3 e3 r3 b3 B2
  go_wp2_with fail
  refine (PP.out _ B3).2.mono ?_
  rintro e w4 ⟨a4, c4, t4, rfl, s4, e4, r4, b4⟩
  have B4 := below_step B3 (Nat.le_refl _) b4
  have C5 := HEq.out t3 t4 a3 c3 a4 c4 w4 H3.out.1 s4 H3.out.2.1 e4 (H3.out.2.2.below b4) r4
  clear s4 e4 r4 b4 B3 H3 PP HEq
  go_wp2_with fail
  refine C5.mono ?_
  rintro e w5 ⟨⟨x, rfl, hx⟩, b5⟩
  have B5 := below_step B4 (Nat.le_refl _) b5
  have HX : Hid (x = true ↔ aa.Perm bb) := hx
  clear C5 hx b5 B4
  go_wp2
  go_ret2
  exact RetB.good HC.out HX.out B5
end Go.Proofs.Ytmcjgncpblbhpaa
