/- What marks leave of other lists; what both RowBytes answer. -/
import Derived.Test.YtfkenogbfbbbjaaL01
import Derived.Test.YtfkenogbfbbbjaaMarks2
namespace Go.Proofs.Ytfkenogbfbbbjaa
open Go.RowKit

/-- Nothing but a's own block was written. -/
def Side (a : Option Addr) (w w' : World) : Prop := w' = w ∨ ∃ g, a = some ⟨g, 0, none⟩ ∧ But g w w'
theorem ReadB.side {w0 w w' : World} {a a' : Option Addr} {n : Nat} {f f0 : Nat → Int} (h : ReadB w a' n f) (h0 : ReadB w0 a' n f0) (hs : Side a w w') (hg : ∀ g, a = some ⟨g, 0, none⟩ → w0.heap.size ≤ g) : ReadB w' a' n f := fun i hi => by
  obtain ⟨b, off, e, hlt, hc⟩ := h i hi
  obtain ⟨b', off', e', hlt', _⟩ := h0 i hi
  rw [e] at e'
  cases e'
  rcases hs with rfl | ⟨g, ha, hB⟩
  · exact ⟨b, off, e, hlt, hc⟩
  · have := hg g ha
    exact ⟨b, off, e, Nat.lt_of_lt_of_le hlt hB.size, (hB.cell (p := ⟨b, off + i, none⟩) hlt (by show b ≠ g; omega)).trans hc⟩
theorem Side.below {B : Nat} {w0 w w' : World} {a : Option Addr} (hs : Side a w w') (hb : Below B w0 w) (hB : B ≤ w.heap.size) (hg : ∀ g, a = some ⟨g, 0, none⟩ → B ≤ g) : Below B w0 w' := by
  rcases hs with rfl | ⟨g, ha, hBt⟩
  · exact hb
  · exact hBt.below hb (hg g ha) hB
theorem OwnB.but {w w' : World} {a : Option Addr} {n g : Nat} {f : Nat → Int} (h : OwnB w a n f) (hB : But g w w') (hne : ∀ g7, a = some ⟨g7, 0, none⟩ → g7 ≠ g) : OwnB w' a n f := by
  rcases h with rfl | ⟨g7, cur, lo, hi, e, hh, r⟩
  · exact .inl rfl
  · refine .inr ⟨g7, cur, lo, hi, e, ?_, r⟩
    have hlt : g7 < w.heap.size := by
      rcases Nat.lt_or_ge g7 w.heap.size with h | h
      · exact h
      · rw [Array.getElem?_eq_none h] at hh; cases hh
    exact (hB.block g7 hlt (hne g7 e)).trans hh
theorem OwnB.below {w w' : World} {a : Option Addr} {n : Nat} {f : Nat → Int} (h : OwnB w a n f) (hb : Below w.heap.size w w') : OwnB w' a n f := by
  rcases h with rfl | ⟨g7, cur, lo, hi, e, hh, r⟩
  · exact .inl rfl
  · refine .inr ⟨g7, cur, lo, hi, e, ?_, r⟩
    have hlt : g7 < w.heap.size := by
      rcases Nat.lt_or_ge g7 w.heap.size with h | h
      · exact h
      · rw [Array.getElem?_eq_none h] at hh; cases hh
    exact (hb.block g7 hlt).trans hh
theorem ReadB.but {w0 w w' : World} {a' : Option Addr} {n g : Nat} {f f0 : Nat → Int} (h : ReadB w a' n f) (h0 : ReadB w0 a' n f0) (hB : But g w w') (hg : w0.heap.size ≤ g) : ReadB w' a' n f :=
  h.side (a := some ⟨g, 0, none⟩) h0 (.inr ⟨g, rfl, hB⟩) (fun g' e => by cases e; exact hg)

theorem markB_none (a : Option Addr) (cap : Nat) (k0 : Int) (w : World) :
    Calls Try.prog 36 #[.slice a (0 : Nat) cap, .int .i64 k0] w fun e w' => e = .returned (.int .i64 k0) ∧ w' = w := by
  go_enter Try.func36, Try.ntmps36
  go_wp2
  refine wp_loop_rounds 1 ?_
  rw [rounds_succ]
  go_wp2
  go_ret
  exact ⟨rfl, rfl⟩

/-- A new list of bytes: none of it, or a block of its own. -/
def NewB (B : Nat) (a : Option Addr) (n : Nat) : Prop := (a = none ∧ n = 0) ∨ ∃ g, a = some ⟨g, 0, none⟩ ∧ B ≤ g
theorem NewB.at {B n : Nat} {a : Option Addr} (h : NewB B a n) : ∀ g, a = some ⟨g, 0, none⟩ → B ≤ g := fun g e => by
  rcases h with ⟨rfl, _⟩ | ⟨g', rfl, hB⟩
  · cases e
  · cases e; exact hB
theorem markB_new (B : Nat) (a : Option Addr) (cap n : Nat) (f : Nat → Int) (k0 : Int) (w : World) (hnew : NewB B a n) (h : OwnB w a n f) (hn : n ≤ 4194304) (h0 : 0 ≤ k0) (h1 : k0 ≤ 1000000000) :
    Calls Try.prog 36 #[.slice a n cap, .int .i64 k0] w fun e w' => e = .returned (.int .i64 (k0 + n)) ∧ ReadB w' a n (markB k0) ∧ Side a w w' := by
  rcases hnew with ⟨rfl, rfl⟩ | ⟨g, rfl, _⟩
  · refine (markB_none none cap k0 w).mono ?_
    rintro e w' ⟨rfl, rfl⟩
    exact ⟨by simp, fun i hi => by omega, .inl rfl⟩
  · refine (markB_any _ cap n f k0 w h hn h0 h1).mono ?_
    rintro e w' ⟨rfl, ho, hB, _⟩
    exact ⟨rfl, ho.read, .inr ⟨g, rfl, hB⟩⟩

/-- How many bytes a row has. -/
def rowN (vs : List V3) : Nat := if okRow vs then (encRow vs).length else 0
theorem rowN_le (vs : List V3) : rowN vs ≤ 4194304 := by
  unfold rowN
  split
  · rename_i h
    obtain ⟨h8, hall⟩ := okRow_all h
    have := flat_len vs hall
    unfold encRow
    rw [List.length_cons]
    omega
  · omega

theorem implRowBytes_any (a : Option Addr) (cap : Nat) (vs : List V3) (w : World) (hrow : RowV w a vs) (hlen : vs.length ≤ 1048576) :
    Calls Try.prog 42 #[.slice a vs.length cap] w fun e w' => ∃ a2 c, e = .returned (.tuple #[.slice a2 (rowN vs) c, .int .i64 (rowCode vs)]) ∧ NewB w.heap.size a2 (rowN vs) ∧ OwnB w' a2 (rowN vs) (byteVal (encRow vs)) ∧ Below w.heap.size w w' := by
  by_cases hok : okRow vs = true
  · have h8 := (okRow_all hok).1
    have hcode : rowCode vs = 0 := by unfold rowCode; rw [if_neg (by omega), hok]; rfl
    have hN : rowN vs = (encRow vs).length := by unfold rowN; rw [if_pos hok]
    rw [hcode, hN]
    refine (implRowBytes_ok a cap vs w hrow hok).mono ?_
    rintro e w' ⟨g, c, rfl, hg, ho, hb⟩
    exact ⟨_, c, rfl, .inr ⟨g, rfl, hg⟩, ho, hb⟩
  · have hN : rowN vs = 0 := by unfold rowN; rw [if_neg hok]
    have hcode : rowCode vs ≠ 0 := by unfold rowCode; rw [if_neg hok]; split <;> decide
    rw [hN]
    have H1 : Hid (RowV w a vs) := hrow
    have HC : Hid (rowCode vs ≠ 0) := hcode
    clear hrow hok hN hcode
    go_enter Try.func42, Try.ntmps42
    go_wp2_with fail
    refine (rowCells_any a cap vs w H1.out hlen).mono ?_
    rintro e w1 ⟨v, rfl, _, hb1⟩
    obtain ⟨code, hcd⟩ : ∃ code, rowCode vs = code := ⟨_, rfl⟩
    have hcode : code ≠ 0 := by rw [← hcd]; exact HC.out
    have HD : Hid (rowCode vs = code) := hcd
    rw [hcd]
    clear hcd
    go_wp2
    go_ret2
    exact ⟨none, 0, by rw [HD.out]; rfl, .inl ⟨rfl, rfl⟩, .inl rfl, hb1⟩

theorem own_read {u : World} {B : Nat} {v : Value} {xs : List Value} (h : u.ownsRow B 5 1 v xs.length xs) (hx : ∀ x ∈ xs, ∃ c : Int, x = .int .u8 c ∧ 0 ≤ c ∧ c ≤ 255) : ∃ a c, v = .slice a xs.length c ∧ ReadB u a xs.length (byteVal xs) := by
  obtain ⟨hl, h⟩ := h
  rcases h with ⟨rfl, h0⟩ | ⟨g, cap, cur, rfl, _, hh, hn, _, hcs, htk⟩
  · exact ⟨none, 0, by rw [h0], fun i hi => by omega⟩
  · refine ⟨_, _, rfl, fun i hi => ⟨g, 0, rfl, ?_, ?_⟩⟩
    · rcases Nat.lt_or_ge g u.heap.size with h | h
      · exact h
      · rw [Array.getElem?_eq_none h] at hh; cases hh
    · have hxi : xs[i]? = cur[i]? := by rw [← htk, List.getElem?_take, if_pos (by omega), Array.getElem?_toList]
      rw [slab_cell hh, Nat.zero_add, ← hxi]
      obtain ⟨c, hc, _⟩ := hx xs[i] (List.getElem_mem hi)
      rw [List.getElem?_eq_getElem hi, hc]
      unfold byteVal
      rw [List.getElem?_eq_getElem hi, hc]

theorem specRowBytes_any (a : Option Addr) (cap : Nat) (vs : List V3) (w : World) (hrow : RowV w a vs) (hlen : vs.length ≤ 1048576) :
    Calls Try.prog 41 #[.slice a vs.length cap] w fun e w' => ∃ a2 c, e = .returned (.tuple #[.slice a2 (rowN vs) c, .int .i64 (rowCode vs)]) ∧ ReadB w' a2 (rowN vs) (byteVal (encRow vs)) ∧ Below w.heap.size w w' := by
  have H1 : Hid (RowV w a vs) := hrow
  clear hrow
  by_cases hlong : 4096 < vs.length
  · have hok : okRow vs = false := okRow_long (by omega)
    have HN : Hid (rowN vs = 0) := by show _ = _; unfold rowN; rw [hok]; rfl
    have HC : Hid (rowCode vs = 2) := by show _ = _; unfold rowCode; rw [if_pos hlong]
    clear hok
    go_enter Try.func41, Try.ntmps41
    go_wp2
    go_ret2
    exact ⟨some ⟨w.heap.size, 0, none⟩, 0, by rw [HN.out, HC.out]; rfl, by rw [HN.out]; exact fun i hi => by omega, (Below.refl _ _).alloc (Nat.le_refl _) _⟩
  · cases hok : okRow vs with
    | false =>
      have HN : Hid (rowN vs = 0) := by show _ = _; unfold rowN; rw [hok]; rfl
      have HC : Hid (rowCode vs = 1) := by show _ = _; unfold rowCode; rw [if_neg hlong, hok]; rfl
      go_enter Try.func41, Try.ntmps41
      go_wp2_with fail
      refine (l01Row_any a cap vs w H1.out hlen).mono ?_
      rintro e w1 ⟨rfl, hb1⟩
      rw [hok]
      clear hok
      go_wp2
      go_ret2
      exact ⟨some ⟨w1.heap.size, 0, none⟩, 0, by rw [HN.out, HC.out]; rfl, by rw [HN.out]; exact fun i hi => by omega, hb1.alloc hb1.size _⟩
    | true =>
      have HN : Hid (rowN vs = (encRow vs).length) := by show _ = _; unfold rowN; rw [hok]; rfl
      have HC : Hid (rowCode vs = 0) := by show _ = _; unfold rowCode; rw [if_neg hlong, hok]; rfl
      have HK : Hid (okRow vs = true) := hok
      go_enter Try.func41, Try.ntmps41
      go_wp2_with fail
      refine (l01Row_any a cap vs w H1.out hlen).mono ?_
      rintro e w1 ⟨rfl, hb1⟩
      rw [hok]
      clear hok
      go_wp2_with fail
      refine (l01Bytes_any a cap vs w1 (H1.out.below hb1) HK.out).mono ?_
      rintro e w2 ⟨v, rfl, hown, hb2⟩
      obtain ⟨a2, c2, rfl, hR⟩ := own_read hown (encRow_bytes HK.out)
      have B2 := below_step hb1 (Nat.le_refl _) hb2
      clear hown hb1 hb2
      go_wp2
      go_ret2
      exact ⟨a2, c2, by rw [HN.out, HC.out]; rfl, by rw [HN.out]; exact hR, B2⟩
end Go.Proofs.Ytfkenogbfbbbjaa
