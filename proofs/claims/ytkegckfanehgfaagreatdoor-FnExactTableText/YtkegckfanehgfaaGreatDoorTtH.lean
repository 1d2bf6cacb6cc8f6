/- The specification's TableText, and the law walked (stage 9). -/
import Derived.Test.YtkegckfanehgfaaGreatDoorTtG
import Derived.Test.YtkegckfanehgfaaGreatDoorTbO
namespace Go.Proofs.YtkegckfanehgfaaGreatDoor
open Go.RowKit

set_option maxRecDepth 100000 in
set_option maxHeartbeats 4000000 in
theorem specText_any (nm : ByteArray) (ca xa : Option Addr) (cc xc : Nat) (cs : List TC) (key : Int) (xs : List TX) (w : World) (hC : RowC w ca cs) (hX : RowX w xa xs) (hs : nm.size ≤ maxLen) (lc : cs.length ≤ 1048576) (lx : xs.length ≤ 1048576) (hz : ∀ i, i < xs.length → SmallX (nthX xs i)) (kc : cs.length ≤ cc) (kx : xs.length ≤ xc) :
    Calls Tryz.prog 5 #[TbV nm (.slice ca cs.length cc) key (.slice xa xs.length xc)] w fun e w' => e = .returned (retT nm cs key xs) ∧ Below w.heap.size w w' := by
  obtain ⟨V0, hV0⟩ : ∃ V0, w.alloc (.cells #[.string nm, .slice ca cs.length cc, .int .i64 key, .slice xa xs.length xc] 32) = V0 := ⟨_, rfl⟩
  have A0 : Below w.heap.size w V0 := hV0 ▸ (Below.refl _ _).alloc (Nat.le_refl _) _
  have XA : Hid (V0.heap[w.heap.size]? = some (.cells #[.string nm, .slice ca cs.length cc, .int .i64 key, .slice xa xs.length xc] 32 (0, 0))) := (hV0 ▸ heap_new' _ _ _ rfl : V0.heap[w.heap.size]? = _)
  have c0 : V0.cell? ⟨w.heap.size, 0, none⟩ = some (.string nm) := slab_cell XA.out
  have c1 : V0.cell? ⟨w.heap.size, 1, none⟩ = some (.slice ca cs.length cc) := slab_cell XA.out
  have c2 : V0.cell? ⟨w.heap.size, 2, none⟩ = some (.int .i64 key) := slab_cell XA.out
  have c3 : V0.cell? ⟨w.heap.size, 3, none⟩ = some (.slice xa xs.length xc) := slab_cell XA.out
  have hcall := specTableOK_any nm ca xa cc xc cs key xs V0 (hC.below A0) (hX.below A0) hs lc lx hz kc kx
  have HR : Hid (RowC w ca cs ∧ RowX w xa xs) := ⟨hC, hX⟩
  clear hC hX hs lc lx hz kc kx
  go_enter Tryz.func5, Tryz.ntmps5
  go_wp2_with fail
  refine hcall.mono ?_
  rintro e W1 ⟨rfl, b1⟩
  have B1 : Below w.heap.size w W1 := below_step A0 (Nat.le_refl _) b1
  have XB : Hid (W1.heap[w.heap.size]? = some (.cells #[.string nm, .slice ca cs.length cc, .int .i64 key, .slice xa xs.length xc] 32 (0, 0))) := (b1.block _ (slab_lt XA.out)).trans XA.out
  clear hcall c0 c1 c2 c3 A0 b1 XA hV0 V0
  by_cases hP : TabP nm cs key xs
  case neg =>
    rw [← asB_false hP]
    have HE : Hid (retT nm cs key xs = _) := retT_false hP
    clear hP
    go_wp2
    go_ret2
    exact ⟨ret_val HE.out.symm, B1⟩
  rw [← asB_true hP]
  have HP : Hid (TabP nm cs key xs) := hP
  have c0 : W1.cell? ⟨w.heap.size, 0, none⟩ = some (.string nm) := slab_cell XB.out
  have c1 : W1.cell? ⟨w.heap.size, 1, none⟩ = some (.slice ca cs.length cc) := slab_cell XB.out
  have c2 : W1.cell? ⟨w.heap.size, 2, none⟩ = some (.int .i64 key) := slab_cell XB.out
  have c3 : W1.cell? ⟨w.heap.size, 3, none⟩ = some (.slice xa xs.length xc) := slab_cell XB.out
  clear hP
  go_wp2_with fail
  refine (l09Text_any nm ca xa cc xc cs key xs W1 (HR.out.1.below B1) (HR.out.2.below B1) HP.out).mono ?_
  rintro e W2 ⟨s, rfl, hs, b2⟩
  have HE : Hid (retT nm cs key xs = .tuple #[.string s, .int .i64 0]) := retT_true HP.out hs
  have HB : Hid (Below w.heap.size w W2) := below_step B1 (Nat.le_refl _) b2
  clear hs b2 B1 c0 c1 c2 c3
  go_wp2
  go_ret2
  exact ⟨ret_val HE.out.symm, HB.out⟩

/-- A pair of a text and a code, opened. -/
theorem retT_pair (nm : ByteArray) (cs : List TC) (key : Int) (xs : List TX) : ∃ (s : ByteArray) (c : Int), retT nm cs key xs = .tuple #[.string s, .int .i64 c] := by
  unfold retT
  split
  · exact ⟨_, _, rfl⟩
  · exact ⟨_, _, rfl⟩
end Go.Proofs.YtkegckfanehgfaaGreatDoor
