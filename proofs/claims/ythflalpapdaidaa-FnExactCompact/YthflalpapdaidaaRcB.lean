/- Marks on a forest that was copied (stage 5). -/
import Derived.Test.YthflalpapdaidaaRcA
namespace Go.Proofs.Ythflalpapdaidaa
open Go.RowKit

abbrev fullS (g n : Nat) : Value := .slice (some ⟨g, 0, none⟩) n n
/-- A block of n cells of a type, whatever they hold. -/
def BlkOf (w : World) (g n : Nat) (e : TypeId) : Prop := ∃ c : Array Value, w.heap[g]? = some (.cells c e (0, 0)) ∧ c.size = n
/-- A list of n nodes in block g whose lists lie in other blocks, all between lo and hi. -/
def ShpN (w : World) (lo hi g n : Nat) : Prop :=
  lo ≤ g ∧ g < hi ∧ hi ≤ w.heap.size ∧ ∃ cur, w.heap[g]? = some (.cells cur 93 (0, 0)) ∧ cur.size = n * 4 ∧ ∀ i, i < n → ∃ g1 g2 g3 n1 n2 n3, (lo ≤ g1 ∧ g1 < hi ∧ g1 ≠ g) ∧ (lo ≤ g2 ∧ g2 < hi ∧ g2 ≠ g) ∧ (lo ≤ g3 ∧ g3 < hi ∧ g3 ≠ g) ∧ (n1 ≤ 1048576 ∧ n2 ≤ 1048576 ∧ n3 ≤ 1048576) ∧
    cur[i * 4 + 1]? = some (fullS g1 n1) ∧ cur[i * 4 + 2]? = some (fullS g2 n2) ∧ cur[i * 4 + 3]? = some (fullS g3 n3) ∧ BlkOf w g1 n1 9 ∧ BlkOf w g2 n2 9 ∧ BlkOf w g3 n3 3
theorem BlkOf.keep {w w' : World} {g n : Nat} {e : TypeId} (h : BlkOf w g n e) {j : Nat} (hj : ∀ k, k < w.heap.size → k ≠ j → w'.heap[k]? = w.heap[k]?) {m : Nat} {e' : TypeId} (hb : BlkOf w j m e') (hb' : BlkOf w' j m e') : BlkOf w' g n e := by
  by_cases e0 : g = j
  · subst e0
    obtain ⟨c, h1, h2⟩ := h
    obtain ⟨d, h3, h4⟩ := hb
    rw [h1] at h3
    cases h3
    rw [← h2, h4]
    exact hb'
  · obtain ⟨c, h1, h2⟩ := h
    exact ⟨c, (hj g (slab_lt h1) e0).trans h1, h2⟩
theorem ShpN.list {w w' : World} {lo hi g n j m : Nat} {e' : TypeId} (h : ShpN w lo hi g n) (hjg : j ≠ g) (hs : w.heap.size ≤ w'.heap.size) (hj : ∀ k, k < w.heap.size → k ≠ j → w'.heap[k]? = w.heap[k]?) (hb : BlkOf w j m e') (hb' : BlkOf w' j m e') : ShpN w' lo hi g n := by
  obtain ⟨a1, a2, a3, cur, hh, hsz, hc⟩ := h
  refine ⟨a1, a2, Nat.le_trans a3 hs, cur, (hj g (slab_lt hh) (fun e => hjg e.symm)).trans hh, hsz, fun i hi => ?_⟩
  obtain ⟨g1, g2, g3, n1, n2, n3, b1, b2, b3, b4, c1, c2, c3, d1, d2, d3⟩ := hc i hi
  exact ⟨g1, g2, g3, n1, n2, n3, b1, b2, b3, b4, c1, c2, c3, d1.keep hj hb hb', d2.keep hj hb hb', d3.keep hj hb hb'⟩
theorem ShpN.leaf {w : World} {lo hi g n k : Nat} (h : ShpN w lo hi g n) (v : Value) : ShpN (w.setCell ⟨g, k * 4, none⟩ v) lo hi g n := by
  obtain ⟨a1, a2, a3, cur, hh, hsz, hc⟩ := h
  refine ⟨a1, a2, by simpa [World.setCell] using a3, _, slab_set hh _, by simpa using hsz, fun i hi => ?_⟩
  obtain ⟨g1, g2, g3, n1, n2, n3, b1, b2, b3, b4, c1, c2, c3, ⟨e1, d1, f1⟩, ⟨e2, d2, f2⟩, ⟨e3, d3, f3⟩⟩ := hc i hi
  refine ⟨g1, g2, g3, n1, n2, n3, b1, b2, b3, b4, ?_, ?_, ?_, ⟨e1, (set_other v (by show g ≠ g1; omega)).trans d1, f1⟩, ⟨e2, (set_other v (by show g ≠ g2; omega)).trans d2, f2⟩, ⟨e3, (set_other v (by show g ≠ g3; omega)).trans d3, f3⟩⟩
  all_goals
    rw [Array.getElem?_setIfInBounds_ne (by omega)]
    assumption
theorem ShpN.at {w : World} {lo hi g n j : Nat} (h : ShpN w lo hi g n) (hj : j < n) : ∃ g1 g2 g3 n1 n2 n3, (lo ≤ g1 ∧ g1 < hi ∧ g1 ≠ g) ∧ (lo ≤ g2 ∧ g2 < hi ∧ g2 ≠ g) ∧ (lo ≤ g3 ∧ g3 < hi ∧ g3 ≠ g) ∧ (n1 ≤ 1048576 ∧ n2 ≤ 1048576 ∧ n3 ≤ 1048576) ∧
    w.cell? ⟨g, j * 4 + 1, none⟩ = some (fullS g1 n1) ∧ w.cell? ⟨g, j * 4 + 2, none⟩ = some (fullS g2 n2) ∧ w.cell? ⟨g, j * 4 + 3, none⟩ = some (fullS g3 n3) ∧ BlkOf w g1 n1 9 ∧ BlkOf w g2 n2 9 ∧ BlkOf w g3 n3 3 := by
  obtain ⟨a1, a2, a3, cur, hh, hsz, hc⟩ := h
  obtain ⟨g1, g2, g3, n1, n2, n3, b1, b2, b3, b4, c1, c2, c3, d⟩ := hc j hj
  exact ⟨g1, g2, g3, n1, n2, n3, b1, b2, b3, b4, (slab_cell hh).trans c1, (slab_cell hh).trans c2, (slab_cell hh).trans c3, d⟩
/-- A list of the copy is marked: all stands as it did. -/
theorem ShpN.marked {w w0 w' : World} {lo hi g n j m : Nat} {e' : TypeId} (h : ShpN w lo hi g n ∧ Kept (fun j => lo ≤ j ∧ j < hi) w0 w) (hj : lo ≤ j ∧ j < hi ∧ j ≠ g) (hb : BlkOf w j m e') (hb' : BlkOf w' j m e') (hk : Kept (fun i => i = j) w w') : ShpN w' lo hi g n ∧ Kept (fun j => lo ≤ j ∧ j < hi) w0 w' :=
  ⟨h.1.list hj.2.2 hk.size (fun k h1 h2 => hk.block k h1 h2) hb hb', h.2.trans (hk.mono fun k e => by rw [e]; exact ⟨hj.1, hj.2.1⟩)⟩
theorem SlabN.shp {w : World} {g lo : Nat} {ns : List Nd} (h : SlabN w g ns.length ns ns.length) (hlo : lo ≤ g) (hs : ∀ i, i < ns.length → SmallN (nthN ns i)) : ShpN w lo w.heap.size g ns.length := by
  have hl := h.lt
  obtain ⟨cur, hh, hsz, hc⟩ := h
  refine ⟨hlo, hl, Nat.le_refl _, cur, hh, hsz, fun i hi => ?_⟩
  obtain ⟨g1, g2, g3, l1, l2, l3, p0, p1, p2, p3, s1, s2, s3⟩ := hc i hi
  have t1 := s1.lt
  have t2 := s2.lt
  have t3 := s3.lt
  obtain ⟨d1, h1, z1, _⟩ := s1
  obtain ⟨d2, h2, z2, _⟩ := s2
  obtain ⟨d3, h3, z3, _⟩ := s3
  exact ⟨g1, g2, g3, _, _, _, ⟨by omega, t1, by omega⟩, ⟨by omega, t2, by omega⟩, ⟨by omega, t3, by omega⟩, hs i hi, p1, p2, p3, ⟨d1, h1, z1⟩, ⟨d2, h2, z2⟩, ⟨d3, h3, z3⟩⟩

set_option maxRecDepth 100000 in
set_option maxHeartbeats 4000000 in
theorem markN_any (g n lo hi : Nat) (k : Int) (w : World) (h : ShpN w lo hi g n) (hn : n ≤ 1048576) (k0 : 0 ≤ k) (k1 : k ≤ 1048576) :
    Calls Try.prog 82 #[fullS g n, .int .i64 k] w fun e w' => ∃ r : Int, e = .returned (.int .i64 r) ∧ 0 ≤ r ∧ r ≤ k + 4000000 * (n : Int) ∧ Kept (fun j => lo ≤ j ∧ j < hi) w w' := by
  have H : Hid (ShpN w lo hi g n) := h
  clear h
  go_enter Try.func82, Try.ntmps82
  go_wp2
  go_loopw [1, 5] (fun q i wr => ∃ (j : Nat) (r : Int), j ≤ n ∧ i = .int .i64 j ∧ q = .int .i64 r ∧ 0 ≤ r ∧ r ≤ k + 4000000 * (j : Int) ∧ Hid (ShpN wr lo hi g n ∧ Kept (fun j => lo ≤ j ∧ j < hi) w wr)) (fun _ i _ => n - (intOf i).toNat)
  case atStart => exact ⟨0, k, by omega, rfl, rfl, k0, by omega, ⟨H.out, Kept.refl _ _⟩⟩
  case round =>
    obtain ⟨j, r, hj, rfl, rfl, r0, r1, HS⟩ := hrel
    by_cases hlt : j < n
    · obtain ⟨a1, a2, a3, cur, hh, hsz, hc⟩ := HS.out.1
      have hf : ∀ o, wr.frozen? ⟨g, o, none⟩ = false := fun o => slab_free hh
      obtain ⟨v0, hv0⟩ := blk_there (o := j * 4) hh (by omega)
      have HS1 : Hid (ShpN (wr.setCell ⟨g, j * 4, none⟩ (.bool (r % 3 == 0))) lo hi g n ∧ Kept (fun j => lo ≤ j ∧ j < hi) w (wr.setCell ⟨g, j * 4, none⟩ (.bool (r % 3 == 0)))) := ⟨HS.out.1.leaf _, HS.out.2.set _ ⟨a1, a2⟩⟩
      obtain ⟨g1, g2, g3, n1, n2, n3, b1, b2, b3, b4, m1, _, _, d1, _, _⟩ := HS.out.1.at hlt
      have e1 : BlkOf (wr.setCell ⟨g, j * 4, none⟩ (.bool (r % 3 == 0))) g1 n1 9 := by
        obtain ⟨c, h1, h2⟩ := d1
        exact ⟨c, (set_other _ (by show g ≠ g1; omega)).trans h1, h2⟩
      obtain ⟨c1, hc1, hs1⟩ := e1
      have hcall := markS_vals g1 n1 n1 n1 c1 (r + 1) _ hc1 hs1 (Nat.le_refl _) (by omega) (by omega) b4.1
      have E1 : Hid (BlkOf (wr.setCell ⟨g, j * 4, none⟩ (.bool (r % 3 == 0))) g1 n1 9) := ⟨c1, hc1, hs1⟩
      have B1 : Hid (lo ≤ g1 ∧ g1 < hi ∧ g1 ≠ g) := b1
      have hn1 := b4.1
      clear hh hsz hc HS d1 b1 b2 b3 b4 hc1 hs1 a1 a2 a3
      go_wp2_with fail
      refine hcall.mono ?_
      rintro e w2 ⟨rfl, ⟨c1', h1', z1', _⟩, K1⟩
      have S2 := ShpN.marked HS1.out B1.out E1.out ⟨c1', h1', z1'⟩ K1
      have HS2 : Hid (ShpN w2 lo hi g n ∧ Kept (fun j => lo ≤ j ∧ j < hi) w w2) := S2
      clear hcall HS1 E1 B1 K1 h1' z1' m1 S2 hf hv0
      obtain ⟨f1, f2, f3, l1, l2, l3, q1, q2, q3, q4, _, m2, _, _, d2, _⟩ := HS2.out.1.at hlt
      obtain ⟨c2, hc2, hs2⟩ := d2
      have hcall := markS_vals f2 l2 l2 l2 c2 (r + 1 + n1) w2 hc2 hs2 (Nat.le_refl _) (by omega) (by omega) q4.2.1
      have E2 : Hid (BlkOf w2 f2 l2 9) := ⟨c2, hc2, hs2⟩
      have B2 : Hid (lo ≤ f2 ∧ f2 < hi ∧ f2 ≠ g) := q2
      have hn2 := q4.2.1
      clear q1 q2 q3 q4 hc2 hs2
      go_wp2_with fail
      refine hcall.mono ?_
      rintro e w3 ⟨rfl, ⟨c2', h2', z2', _⟩, K2⟩
      have HS3 : Hid (ShpN w3 lo hi g n ∧ Kept (fun j => lo ≤ j ∧ j < hi) w w3) := ShpN.marked HS2.out B2.out E2.out ⟨c2', h2', z2'⟩ K2
      clear hcall HS2 E2 B2 K2 h2' z2' m2
      obtain ⟨u1, u2, u3, v1, v2, v3, q1, q2, q3, q4, _, _, m3, _, _, d3⟩ := HS3.out.1.at hlt
      obtain ⟨c3, hc3, hs3⟩ := d3
      have hcall := markI_slab u3 v3 v3 v3 c3 (r + 1 + n1 + l2) w3 hc3 hs3 (Nat.le_refl _) (by omega) (by omega) q4.2.2
      have E3 : Hid (BlkOf w3 u3 v3 3) := ⟨c3, hc3, hs3⟩
      have B3 : Hid (lo ≤ u3 ∧ u3 < hi ∧ u3 ≠ g) := q3
      have hn3 := q4.2.2
      clear q1 q2 q3 q4 hc3 hs3
      go_wp2_with fail
      refine hcall.mono ?_
      rintro e w4 ⟨rfl, ⟨c3', h3', z3', _⟩, K3⟩
      have HS4 : Hid (ShpN w4 lo hi g n ∧ Kept (fun j => lo ≤ j ∧ j < hi) w w4) := ShpN.marked HS3.out B3.out E3.out ⟨c3', h3', z3'⟩ K3
      clear hcall HS3 E3 B3 K3 h3' z3' m3
      go_wp2
      go_roundw
      case rel => exact ⟨j + 1, _, by omega, by go_num, rfl, by omega, by omega, HS4⟩
      case measure => simp [intOf]; omega
    · obtain rfl : j = n := by omega
      go_wp2
      go_ret
      exact ⟨r, rfl, r0, r1, HS.out.2⟩
set_option maxRecDepth 100000 in
theorem markF_any (g n lo hi : Nat) (k : Int) (w : World) (h : ShpN w lo hi g n) (hn : n ≤ 1048576) (k0 : 0 ≤ k) (k1 : k ≤ 1048576) :
    Calls Try.prog 40 #[FV (fullS g n), .int .i64 k] w fun e w' => ∃ r : Int, e = .returned (.int .i64 r) ∧ 0 ≤ r ∧ r ≤ k + 4000000 * (n : Int) ∧ Kept (fun j => lo ≤ j ∧ j < hi) w w' := by
  have b0 : Below w.heap.size w (w.alloc (.cells #[fullS g n] 25)) := (Below.refl _ _).alloc (Nat.le_refl _) _
  have h1 : ShpN (w.alloc (.cells #[fullS g n] 25)) lo hi g n := by
    obtain ⟨a1, a2, a3, cur, hh, hsz, hc⟩ := h
    refine ⟨a1, a2, Nat.le_trans a3 b0.size, cur, (b0.block g (slab_lt hh)).trans hh, hsz, fun i hi => ?_⟩
    obtain ⟨g1, g2, g3, n1, n2, n3, b1, b2, b3, b4, c1, c2, c3, ⟨e1, d1, f1⟩, ⟨e2, d2, f2⟩, ⟨e3, d3, f3⟩⟩ := hc i hi
    exact ⟨g1, g2, g3, n1, n2, n3, b1, b2, b3, b4, c1, c2, c3, ⟨e1, (b0.block _ (slab_lt d1)).trans d1, f1⟩, ⟨e2, (b0.block _ (slab_lt d2)).trans d2, f2⟩, ⟨e3, (b0.block _ (slab_lt d3)).trans d3, f3⟩⟩
  have hc := markN_any g n lo hi k _ h1 hn k0 k1
  clear h h1
  go_enter Try.func40, Try.ntmps40
  go_wp2_with fail
  refine hc.mono ?_
  rintro e w1 ⟨r, rfl, r0, r1, K⟩
  have HK : Hid (Kept (fun j => lo ≤ j ∧ j < hi) w w1) := (Kept.of_below b0).trans K
  clear K hc b0
  go_wp2
  go_ret
  exact ⟨r, rfl, r0, r1, HK.out⟩
end Go.Proofs.Ythflalpapdaidaa
