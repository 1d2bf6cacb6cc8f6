/- The sum of a seal, the lowest byte first. -/
import Derived.Test.YtjiehohfbddpcaaSlB
namespace Go.Proofs.Ytjiehohfbddpcaa
open Go.RowKit

theorem own4 {w : World} {B : Nat} {v : Value} {a b c d : UInt8} (h : OwnL w B v [a, b, c, d]) : ∃ g cap, v = .slice (some ⟨g, 0, none⟩) 4 cap ∧ B ≤ g ∧
    ((w.cell? ⟨g, 0, none⟩ = some (.int .u8 a.toNat) ∧ w.cell? ⟨g, 1, none⟩ = some (.int .u8 b.toNat) ∧ w.cell? ⟨g, 2, none⟩ = some (.int .u8 c.toNat) ∧ w.cell? ⟨g, 3, none⟩ = some (.int .u8 d.toNat)) ∧
     (w.frozen? ⟨g, 0, none⟩ = false ∧ w.frozen? ⟨g, 1, none⟩ = false ∧ w.frozen? ⟨g, 2, none⟩ = false ∧ w.frozen? ⟨g, 3, none⟩ = false)) ∧
    ∀ x y z u : UInt8, OwnL ((((w.setCell ⟨g, 0, none⟩ (.int .u8 x.toNat)).setCell ⟨g, 3, none⟩ (.int .u8 u.toNat)).setCell ⟨g, 1, none⟩ (.int .u8 y.toNat)).setCell ⟨g, 2, none⟩ (.int .u8 z.toNat)) B v [x, y, z, u] := by
  obtain ⟨g, cap, cur, fz, rfl, hB, hh, hz, hl, hm, hs, hc⟩ := h
  have e : [a, b, c, d].length = 4 := rfl
  rw [e] at hl hc
  refine ⟨g, cap, rfl, hB, ⟨⟨?_, ?_, ?_, ?_⟩, ⟨?_, ?_, ?_, ?_⟩⟩, fun x y z u => ?_⟩
  · rw [row_cell hh]; exact hc 0 (by omega)
  · rw [row_cell hh]; exact hc 1 (by omega)
  · rw [row_cell hh]; exact hc 2 (by omega)
  · rw [row_cell hh]; exact hc 3 (by omega)
  · exact row_free hh (by omega)
  · exact row_free hh (by omega)
  · exact row_free hh (by omega)
  · exact row_free hh (by omega)
  · refine ⟨g, cap, _, fz, rfl, hB, row_set (row_set (row_set (row_set hh _) _) _) _, hz, hl, hm, by simpa using hs, fun i hi => ?_⟩
    have hi : i < 4 := hi
    rcases (by omega : i = 0 ∨ i = 1 ∨ i = 2 ∨ i = 3) with rfl | rfl | rfl | rfl <;> simp [Array.getElem?_setIfInBounds, hs, byU] <;> omega

set_option maxRecDepth 100000 in
set_option maxHeartbeats 4000000 in
theorem reverse4 (v : Value) (a b c d : UInt8) (B : Nat) (w : World) (h : OwnL w B v [a, b, c, d]) :
    Calls Try.prog 27 #[v] w fun e w' => e = .returned (.tuple #[]) ∧ OwnL w' B v [d, c, b, a] ∧ Below B w w' := by
  obtain ⟨g, cap, rfl, hB, ⟨⟨c0, c1, c2, c3⟩, ⟨f0, f1, f2, f3⟩⟩, ho⟩ := own4 h
  have HO : Hid (OwnL _ B (.slice (some ⟨g, 0, none⟩) 4 cap) [d, c, b, a]) := ho d c b a
  have HB : Hid (B ≤ g) := hB
  clear ho h hB
  generalize (a.toNat : Int) = a' at *
  generalize (b.toNat : Int) = b' at *
  generalize (c.toNat : Int) = c' at *
  generalize (d.toNat : Int) = d' at *
  go_enter Try.func27, Try.ntmps27
  go_wp2
  refine wp_loop_rounds 3 ?_
  rw [rounds_succ]
  go_wp2_with fail
  go_region
  go_wp2
  rw [rounds_succ]
  go_wp2_with fail
  go_region
  go_wp2
  rw [rounds_succ]
  go_wp2
  exact bodyPost_end (results_none rfl _ _ _) rfl ⟨rfl, (HO.out.below ((Below.refl _ _).drew)).below ((Below.refl _ _).drew), ((((((Below.refl _ _).setCell HB.out _).setCell HB.out _).setCell HB.out _).setCell HB.out _).drew).drew⟩

def low4 (n : Int) : List UInt8 := [b8 n, b8 (n / 256), b8 (n / 65536), b8 (n / 16777216)]
set_option maxRecDepth 100000 in
set_option maxHeartbeats 4000000 in
theorem sealSum_any (a : Option Addr) (c n : Nat) (l : List UInt8) (w : World) (h : ReadL w a l) (hl : Hid (l.length = n)) (hn : n ≤ 65536) :
    Calls Try.prog 16 #[.slice a n c] w fun e w' => ∃ v', e = .returned v' ∧ OwnL w' w.heap.size v' (low4 (sumL l)) ∧ Below w.heap.size w w' := by
  go_enter Try.func16, Try.ntmps16
  go_wp2_with fail
  refine (implSum_n a c n l w h hl hn).mono ?_
  rintro e w1 ⟨rfl, hb1⟩
  obtain ⟨x, hx⟩ : ∃ x : Int, ((sumL l : Nat) : Int) = x := ⟨_, rfl⟩
  have HX : Hid (((sumL l : Nat) : Int) = x) := hx
  rw [hx]
  clear hx
  go_wp2_with fail
  refine (appendNumber0 x w1).mono ?_
  rintro e w2 ⟨v2, rfl, ho2, hb2⟩
  have HO2 : Hid (OwnL w2 w.heap.size v2 (num4 x)) := by obtain ⟨q, cap, cur, fz, e, hq, r⟩ := ho2; exact ⟨q, cap, cur, fz, e, Nat.le_trans hb1.size hq, r⟩
  have HB2 : Hid (Below w.heap.size w w2) := hb1.trans (hb2.mono hb1.size)
  clear ho2 hb1 hb2
  go_wp2_with fail
  refine (reverse4 v2 _ _ _ _ w.heap.size w2 HO2.out).mono ?_
  rintro e w3 ⟨rfl, ho3, hb3⟩
  have HO3 : Hid (OwnL w3 w.heap.size v2 (low4 x)) := ho3
  have HB3 : Hid (Below w.heap.size w w3) := HB2.out.trans hb3
  clear ho3 hb3 HO2 HB2
  go_wp2
  go_ret
  exact ⟨v2, by simp, by rw [HX.out]; exact HO3.out, HB3.out⟩
end Go.Proofs.Ytjiehohfbddpcaa
