/- The laws on calls that answer bytes: what their walk keeps. -/
import Derived.Test.YtjiehohfbddpcaaSlM
namespace Go.Proofs.Ytjiehohfbddpcaa
open Go.RowKit

/-- Bytes that can be read, below a bound. -/
def ReadU (B : Nat) (w : World) (a : Option Addr) (l : List UInt8) : Prop :=
  ∀ i, i < l.length → ∃ b off, a = some ⟨b, off, none⟩ ∧ b < B ∧ w.cell? ⟨b, off + i, none⟩ = some (.int .u8 (byU l i))
theorem ReadU.of {w : World} {a : Option Addr} {l : List UInt8} (h : ReadL w a l) : ReadU w.heap.size w a l := h
theorem ReadU.keep {B : Nat} {w w' : World} {a : Option Addr} {l : List UInt8} (h : ReadU B w a l) (hb : Below B w w') : ReadU B w' a l := fun i hi => by
  obtain ⟨b, off, e, hlt, hc⟩ := h i hi
  exact ⟨b, off, e, hlt, (hb.cell (p := ⟨b, off + i, none⟩) hlt).trans hc⟩
theorem ReadU.read {B : Nat} {w : World} {a : Option Addr} {l : List UInt8} (h : ReadU B w a l) (hB : B ≤ w.heap.size) : ReadL w a l := fun i hi => by
  obtain ⟨b, off, e, hlt, hc⟩ := h i hi
  exact ⟨b, off, e, Nat.lt_of_lt_of_le hlt hB, hc⟩

theorem OwnZ.open {w : World} {B : Nat} {v : Value} {l : List UInt8} (h : OwnZ w B v l) : ∃ a n c, v = .slice a n c ∧ Hid (l.length = n) ∧ Hid (ReadL w a l) := by
  rcases h with h | ⟨rfl, a, rfl⟩
  · obtain ⟨g, n, c, rfl, hn, _, hr⟩ := h.open
    exact ⟨_, n, c, rfl, hn, hr⟩
  · exact ⟨a, 0, 0, rfl, rfl, fun i hi => absurd hi (Nat.not_lt_zero _)⟩
theorem OwnZ.read {w : World} {B n c : Nat} {a : Option Addr} {l : List UInt8} (h : OwnZ w B (.slice a n c) l) : ReadL w a l := by
  obtain ⟨a', n', c', e, _, hr⟩ := h.open
  cases e
  exact hr.out
theorem OwnZ.below {w w' : World} {B : Nat} {v : Value} {l : List UInt8} (h : OwnZ w B v l) (hb : Below w.heap.size w w') : OwnZ w' B v l := h.imp (fun o => o.below hb) id
theorem OwnL.but {w w' : World} {B g : Nat} {v : Value} {l : List UInt8} (h : OwnL w B v l) (hb : But g w w') (hg : g < B) : OwnL w' B v l := by
  obtain ⟨q, cap, cur, fz, e, hB, hh, r⟩ := h
  exact ⟨q, cap, cur, fz, e, hB, (hb.block q (slab_lt hh) (by omega)).trans hh, r⟩
theorem OwnZ.but {w w' : World} {B g : Nat} {v : Value} {l : List UInt8} (h : OwnZ w B v l) (hb : But g w w') (hg : g < B) : OwnZ w' B v l := h.imp (fun o => o.but hb hg) id

set_option maxRecDepth 100000 in
theorem mark_none (a : Option Addr) (c : Nat) (w : World) : Calls Try.prog 9 #[.slice a 0 c, .int .i64 1] w fun e w' => e = .returned (.int .i64 1) ∧ w' = w := by
  go_enter Try.func9, Try.ntmps9
  go_wp2
  refine wp_loop_rounds 1 ?_
  rw [rounds_succ]
  go_wp2
  go_ret
  exact ⟨rfl, rfl⟩
theorem mark_z (a : Option Addr) (n c B : Nat) (l : List UInt8) (w : World) (h : OwnZ w B (.slice a n c) l) (hn : n ≤ 1048576) (hB : B ≤ w.heap.size) :
    Calls Try.prog 9 #[.slice a n c, .int .i64 1] w fun e w' => e = .returned (.int .i64 (1 + n)) ∧ OwnZ w' B (.slice a n c) (markU 1 n) ∧ Below B w w' := by
  rcases h with h | ⟨rfl, a', e⟩
  · obtain ⟨g, n', c', e, _, hg, _⟩ := h.open
    cases e
    exact (mark_own g c n B l w h hn).mono fun e w' ⟨he, ho, hb⟩ => ⟨he, .inl ho, hb.below (Below.refl _ _) hg hB⟩
  · cases e
    exact (mark_none a 0 w).mono fun e w' ⟨he, hw⟩ => by
      subst hw
      exact ⟨by rw [he]; rfl, .inr ⟨rfl, a, rfl⟩, Below.refl _ _⟩
end Go.Proofs.Ytjiehohfbddpcaa
