/- Nodes and forests: measured and copied (stage 5). -/
import Derived.Test.YthflalpapdaidaaTreA
namespace Go.Proofs.Ythflalpapdaidaa
open Go.RowKit

/-- A node: whether it is a leaf, its keys, its values, its kids. -/
abbrev Nd : Type := Bool × List ByteArray × List ByteArray × List Int
def nthN (ns : List Nd) (i : Nat) : Nd := ns.getD i (false, [], [], [])
/-- Its lists can be read. -/
def NodeR (w : World) (ka va ia : Option Addr) (n : Nd) : Prop :=
  RowS w ka n.2.1 ∧ RowS w va n.2.2.1 ∧ RowI w ia n.2.2.2 ∧ n.2.1.length ≤ maxLen ∧ n.2.2.1.length ≤ maxLen ∧ n.2.2.2.length ≤ maxLen
theorem NodeR.below {w w' : World} {ka va ia : Option Addr} {n : Nd} (h : NodeR w ka va ia n) (hb : Below w.heap.size w w') : NodeR w' ka va ia n :=
  ⟨h.1.below hb, h.2.1.below hb, h.2.2.1.below hb, h.2.2.2⟩
/-- A node as a value. -/
abbrev NV (l : Bool) (ka : Option Addr) (kn kc : Nat) (va : Option Addr) (vn vc : Nat) (ia : Option Addr) (im ic : Nat) : Value := .agg #[.bool l, .slice ka kn kc, .slice va vn vc, .slice ia im ic]
def NodeAt (w : World) (b o : Nat) (n : Nd) : Prop :=
  ∃ ka kc va vc ia ic, w.cell? ⟨b, o, none⟩ = some (.bool n.1) ∧ w.cell? ⟨b, o + 1, none⟩ = some (.slice ka n.2.1.length kc) ∧ w.cell? ⟨b, o + 2, none⟩ = some (.slice va n.2.2.1.length vc) ∧ w.cell? ⟨b, o + 3, none⟩ = some (.slice ia n.2.2.2.length ic) ∧ NodeR w ka va ia n
theorem NodeAt.below {w w' : World} {b o : Nat} {n : Nd} (h : NodeAt w b o n) (hlt : b < w.heap.size) (hb : Below w.heap.size w w') : NodeAt w' b o n := by
  obtain ⟨ka, kc, va, vc, ia, ic, h0, h1, h2, h3, hr⟩ := h
  exact ⟨ka, kc, va, vc, ia, ic, (hb.cell (p := ⟨b, o, none⟩) hlt).trans h0, (hb.cell (p := ⟨b, o + 1, none⟩) hlt).trans h1, (hb.cell (p := ⟨b, o + 2, none⟩) hlt).trans h2, (hb.cell (p := ⟨b, o + 3, none⟩) hlt).trans h3, hr.below hb⟩
/-- The nodes ns can be read at a. -/
def RowN (w : World) (a : Option Addr) (ns : List Nd) : Prop :=
  ∀ i, i < ns.length → ∃ b off, a = some ⟨b, off, none⟩ ∧ b < w.heap.size ∧ NodeAt w b (off + i * 4) (nthN ns i)
theorem RowN.below {w w' : World} {a : Option Addr} {ns : List Nd} (h : RowN w a ns) (hb : Below w.heap.size w w') : RowN w' a ns := fun i hi => by
  obtain ⟨b, off, e, hlt, hc⟩ := h i hi
  exact ⟨b, off, e, Nat.lt_of_lt_of_le hlt hb.size, hc.below hlt hb⟩
/-- Its lists are short. -/
def SmallN (n : Nd) : Prop := n.2.1.length ≤ 1048576 ∧ n.2.2.1.length ≤ 1048576 ∧ n.2.2.2.length ≤ 1048576

set_option maxRecDepth 100000 in
set_option maxHeartbeats 1000000 in
theorem szNode_any (ka va ia : Option Addr) (kc vc ic : Nat) (n : Nd) (left : Int) (w : World) (h : NodeR w ka va ia n) (h0 : 0 ≤ left) (h1 : left ≤ 1048576) :
    Calls Try.prog 109 #[NV n.1 ka n.2.1.length kc va n.2.2.1.length vc ia n.2.2.2.length ic, .int .i64 left] w fun e w' => ∃ r : Int, e = .returned (.int .i64 r) ∧ -1 ≤ r ∧ r ≤ left ∧ (0 ≤ r → SmallN n) ∧ Below w.heap.size w w' := by
  obtain ⟨l, ks, vs, is⟩ := n
  obtain ⟨hk, hv, hi, lk, lv, li⟩ := h
  have HK : Hid (RowS w ka ks) := hk
  have HV : Hid (RowS w va vs) := hv
  have LK : Hid (ks.length ≤ maxLen) := lk
  have LV : Hid (vs.length ≤ maxLen) := lv
  have LI : Hid (is.length ≤ maxLen) := li
  clear hk hv hi lk lv li
  show Calls Try.prog 109 #[NV l ka ks.length kc va vs.length vc ia is.length ic, .int .i64 left] w fun e w' => ∃ r : Int, e = .returned (.int .i64 r) ∧ -1 ≤ r ∧ r ≤ left ∧ (0 ≤ r → SmallN (l, ks, vs, is)) ∧ Below w.heap.size w w'
  have B0 : Below w.heap.size w (w.alloc (.cells #[.bool l, .slice ka ks.length kc, .slice va vs.length vc, .slice ia is.length ic] 143)) := (Below.refl _ _).alloc (Nat.le_refl _) _
  go_enter Try.func109, Try.ntmps109
  go_wp2_with fail
  refine (szS_any ka kc ks left _ (HK.out.below B0) LK.out h0 h1).mono ?_
  rintro e w1 ⟨x, rfl, x0, x1, x2, hb1⟩
  have c2 : w1.cell? ⟨w.heap.size, 2, none⟩ = some (.slice va vs.length vc) := (hb1.cell (p := ⟨w.heap.size, 2, none⟩) (by simp)).trans (by go_simp)
  have c3 : w1.cell? ⟨w.heap.size, 3, none⟩ = some (.slice ia is.length ic) := (hb1.cell (p := ⟨w.heap.size, 3, none⟩) (by simp)).trans (by go_simp)
  have s1 : w.heap.size < w1.heap.size := by have := hb1.size; simp at this; omega
  have B1 := B0.trans (hb1.mono B0.size)
  clear B0 hb1
  by_cases hx : x < 0
  · go_wp2
    go_ret
    exact ⟨-1, rfl, by omega, by omega, fun h => by omega, B1⟩
  have g0 := x2 (by omega)
  clear x2
  go_wp2_with fail
  refine (szS_any va vc vs x w1 (HV.out.below B1) LV.out (by omega) (by omega)).mono ?_
  rintro e w2 ⟨y, rfl, y0, y1, y2, hb2⟩
  have d3 : w2.cell? ⟨w.heap.size, 3, none⟩ = some (.slice ia is.length ic) := (hb2.cell (p := ⟨w.heap.size, 3, none⟩) s1).trans c3
  have B2 := B1.trans (hb2.mono B1.size)
  clear c2 c3 hb2 B1
  by_cases hy : y < 0
  · go_wp2
    go_ret
    exact ⟨-1, rfl, by omega, by omega, fun h => by omega, B2⟩
  have g1 := y2 (by omega)
  clear y2
  go_wp2_with fail
  refine (szI_any ia ic is.length y w2 LI.out (by omega) (by omega)).mono ?_
  rintro e w3 ⟨z, rfl, z0, z1, z2, hb3⟩
  have B3 := B2.trans (hb3.mono B2.size)
  by_cases hz : z < 0
  · go_wp2
    go_ret
    exact ⟨-1, rfl, by omega, by omega, fun h => by omega, B3⟩
  have g2 := z2 (by omega)
  have HG : Hid (SmallN (l, ks, vs, is)) := by
    show _ ≤ _ ∧ _ ≤ _ ∧ _ ≤ _
    simp only
    omega
  clear z2
  go_wp2
  go_ret
  exact ⟨z, rfl, by omega, by omega, fun _ => HG.out, B3⟩

set_option maxRecDepth 100000 in
set_option maxHeartbeats 1000000 in
theorem szN_any (a : Option Addr) (cap : Nat) (ns : List Nd) (left : Int) (w : World) (hrow : RowN w a ns) (hlen : ns.length ≤ maxLen) (h0 : 0 ≤ left) (h1 : left ≤ 1048576) :
    Calls Try.prog 76 #[.slice a ns.length cap, .int .i64 left] w fun e w' => ∃ r : Int, e = .returned (.int .i64 r) ∧ -1 ≤ r ∧ r ≤ left ∧ (0 ≤ r → (ns.length : Int) ≤ left ∧ ∀ i, i < ns.length → SmallN (nthN ns i)) ∧ Below w.heap.size w w' := by
  unfold maxLen at hlen
  have HR : Hid (RowN w a ns) := hrow
  clear hrow
  generalize hL : ns.length = len at *
  have HL : Hid (ns.length = len) := hL
  clear hL
  by_cases hlt : left - (len : Int) < 0
  · go_enter Try.func76, Try.ntmps76
    go_wp2
    go_ret
    exact ⟨-1, rfl, by omega, by omega, fun h => by omega, Below.refl _ _⟩
  · go_enter Try.func76, Try.ntmps76
    go_wp2
    go_loopw [1, 5] (fun l i wr => ∃ (k : Nat) (l' : Int), k ≤ len ∧ i = .int .i64 k ∧ l = .int .i64 l' ∧ 0 ≤ l' ∧ l' ≤ left ∧ Hid (∀ i, i < k → SmallN (nthN ns i)) ∧ Below w.heap.size w wr) (fun _ i _ => len - (intOf i).toNat)
    case atStart => exact ⟨0, _, by omega, rfl, rfl, by omega, by omega, fun i hi => by omega, Below.refl _ _⟩
    case round =>
      obtain ⟨k, l', hk, rfl, rfl, hl0, hl1, HS, hbl⟩ := hrel
      by_cases hlt : k < len
      · obtain ⟨b, off, rfl, hlb, ka, kc, va, vc, ia, ic, q0, q1, q2, q3, hr⟩ := (HR.out.below hbl) k (by rw [HL.out]; exact hlt)
        have HRr : Hid (NodeR wr ka va ia (nthN ns k)) := hr
        clear hr
        have HS' : Hid (SmallN (nthN ns k) → ∀ i, i < k + 1 → SmallN (nthN ns i)) := fun h i hi => by
          by_cases e : i = k
          · rw [e]; exact h
          · exact HS.out i (by omega)
        generalize nthN ns k = nd at *
        obtain ⟨l, ks, vs, is⟩ := nd
        simp only at q0 q1 q2 q3
        go_wp2_with fail
        refine (szNode_any ka va ia kc vc ic (l, ks, vs, is) l' wr HRr.out hl0 (by omega)).mono ?_
        rintro e w1 ⟨r, rfl, r0, r1, r2, hb1⟩
        have hB := below_step hbl (Nat.le_refl _) hb1
        by_cases hneg : r < 0
        · go_wp2
          go_ret
          exact ⟨-1, rfl, by omega, by omega, fun h => by omega, hB⟩
        · have HN : Hid (∀ i, i < k + 1 → SmallN (nthN ns i)) := HS'.out (r2 (by omega))
          clear q0 q1 q2 q3 hb1 hlb r2 HS'
          go_wp2
          go_roundw
          case rel => exact ⟨k + 1, _, by omega, by go_num, rfl, by omega, by omega, HN, hB⟩
          case measure => simp [intOf]; omega
      · obtain rfl : k = len := by omega
        go_wp2
        go_ret
        exact ⟨l', rfl, by omega, by omega, fun _ => ⟨by omega, HS.out⟩, hbl⟩

/-- A forest as a value: the slice of its nodes. -/
abbrev FV (v : Value) : Value := .agg #[v]
set_option maxRecDepth 100000 in
theorem szF_any (a : Option Addr) (cap : Nat) (ns : List Nd) (left : Int) (w : World) (hrow : RowN w a ns) (hlen : ns.length ≤ maxLen) (h0 : 0 ≤ left) (h1 : left ≤ 1048576) :
    Calls Try.prog 34 #[FV (.slice a ns.length cap), .int .i64 left] w fun e w' => ∃ r : Int, e = .returned (.int .i64 r) ∧ -1 ≤ r ∧ r ≤ left ∧ (0 ≤ r → (ns.length : Int) ≤ left ∧ ∀ i, i < ns.length → SmallN (nthN ns i)) ∧ Below w.heap.size w w' := by
  have HR : Hid (RowN w a ns) := hrow
  have HL : Hid (ns.length ≤ maxLen) := hlen
  clear hrow hlen
  have B0 : Below w.heap.size w (w.alloc (.cells #[.slice a ns.length cap] 55)) := (Below.refl _ _).alloc (Nat.le_refl _) _
  go_enter Try.func34, Try.ntmps34
  go_wp2_with fail
  refine (szN_any a cap ns left _ (HR.out.below B0) HL.out h0 h1).mono ?_
  rintro e w1 ⟨x, rfl, x0, x1, x2, hb1⟩
  have B1 := B0.trans (hb1.mono B0.size)
  have HX : Hid (0 ≤ x → (ns.length : Int) ≤ left ∧ ∀ i, i < ns.length → SmallN (nthN ns i)) := x2
  clear x2
  by_cases hx : x < 0
  · go_wp2
    go_ret
    exact ⟨-1, rfl, by omega, by omega, fun h => by omega, B1⟩
  · go_wp2
    go_ret
    exact ⟨x, rfl, by omega, by omega, HX.out, B1⟩
end Go.Proofs.Ythflalpapdaidaa
