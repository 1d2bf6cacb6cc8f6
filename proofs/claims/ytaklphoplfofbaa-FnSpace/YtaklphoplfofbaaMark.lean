/- Lists and spaces are marked, and marks are looked for (stage 4). -/
import Derived.Test.YtaklphoplfofbaaFreeC
namespace Go.Proofs.Ytaklphoplfofbaa
open Go.RowKit

/-- All blocks but those of S stand. -/
structure Kept (S : Nat → Prop) (w w' : World) : Prop where
  os : w'.os = w.os
  tape : w'.tape = w.tape
  output : w'.output = w.output
  size : w.heap.size ≤ w'.heap.size
  block : ∀ k, k < w.heap.size → ¬ S k → w'.heap[k]? = w.heap[k]?
theorem Kept.refl (S : Nat → Prop) (w : World) : Kept S w w := ⟨rfl, rfl, rfl, Nat.le_refl _, fun _ _ _ => rfl⟩
theorem Kept.trans {S : Nat → Prop} {w w1 w2 : World} (h : Kept S w w1) (h' : Kept S w1 w2) : Kept S w w2 :=
  ⟨h'.os.trans h.os, h'.tape.trans h.tape, h'.output.trans h.output, Nat.le_trans h.size h'.size, fun k hk hS => (h'.block k (Nat.lt_of_lt_of_le hk h.size) hS).trans (h.block k hk hS)⟩
theorem Kept.mono {S S' : Nat → Prop} {w w1 : World} (h : Kept S w w1) (hS : ∀ k, S k → S' k) : Kept S' w w1 := ⟨h.os, h.tape, h.output, h.size, fun k hk hn => h.block k hk fun h' => hn (hS k h')⟩
theorem Kept.of_below {S : Nat → Prop} {w w1 : World} (h : Below w.heap.size w w1) : Kept S w w1 := ⟨h.os, h.tape, h.output, h.size, fun k hk _ => h.block k hk⟩
theorem Kept.below {S : Nat → Prop} {B : Nat} {w w1 : World} (h : Kept S w w1) (hB : B ≤ w.heap.size) (hS : ∀ k, S k → B ≤ k) : Below B w w1 :=
  ⟨h.os, h.tape, h.output, h.size, fun k hk => h.block k (by omega) fun h' => by have := hS k h'; omega⟩
theorem Kept.alloc {S : Nat → Prop} {w w1 : World} (h : Kept S w w1) (o : Obj) : Kept S w (w1.alloc o) := h.trans (Kept.of_below ((Below.refl _ _).alloc (Nat.le_refl _) _))
theorem Kept.set {S : Nat → Prop} {w w1 : World} {g o : Nat} (h : Kept S w w1) (v : Value) (hg : S g) : Kept S w (w1.setCell ⟨g, o, none⟩ v) :=
  h.trans ⟨rfl, rfl, rfl, by simp [World.setCell], fun k _ hk => set_other v (fun e => hk (e ▸ hg))⟩

/-- The numbers from k on, n of them. -/
def marksL (k : Int) (n : Nat) : List Int := (List.range n).map (fun i : Nat => k + (i : Int))
theorem marksL_len (k : Int) (n : Nat) : (marksL k n).length = n := by simp [marksL]
theorem marksL_nth (k : Int) (n i : Nat) (h : i < n) : nthI (marksL k n) i = k + i := by
  rw [nthI_get (by rw [marksL_len]; exact h)]
  simp [marksL]

set_option maxRecDepth 100000 in
set_option maxHeartbeats 1000000 in
theorem markI_slab (g n c N : Nat) (cur0 : Array Value) (k : Int) (w : World) (hh : w.heap[g]? = some (.cells cur0 3 (0, 0))) (hN : cur0.size = N) (hn : n ≤ N) (k0 : 0 ≤ k) (k1 : k ≤ 1000000000) (hn2 : n ≤ 1048576) :
    Calls Try.prog 27 #[.slice (some ⟨g, 0, none⟩) n c, .int .i64 k] w fun r w' => r = .returned (.int .i64 (k + n)) ∧ (∃ cur, w'.heap[g]? = some (.cells cur 3 (0, 0)) ∧ cur.size = N ∧ ∀ i, i < n → cur[i]? = some (.int .i64 (k + i))) ∧ Kept (fun j => j = g) w w' := by
  have HH : Hid (w.heap[g]? = some (.cells cur0 3 (0, 0))) := hh
  have HN : Hid (cur0.size = N) := hN
  clear hh hN
  go_enter Try.func27, Try.ntmps27
  go_wp2
  go_loopw [1, 5] (fun m i wr => ∃ j : Nat, j ≤ n ∧ i = .int .i64 j ∧ m = .int .i64 (k + j) ∧ (∃ cur, wr.heap[g]? = some (.cells cur 3 (0, 0)) ∧ cur.size = N ∧ ∀ i, i < j → cur[i]? = some (.int .i64 (k + i))) ∧ Kept (fun j => j = g) w wr) (fun _ i _ => n - (intOf i).toNat)
  case atStart => exact ⟨0, by omega, rfl, by simp, ⟨cur0, HH.out, HN.out, fun i hi => by omega⟩, Kept.refl _ _⟩
  case round =>
    obtain ⟨j, hj, rfl, rfl, ⟨cur, hc, hs, hv⟩, hK⟩ := hrel
    have HC : Hid (wr.heap[g]? = some (.cells cur 3 (0, 0)) ∧ cur.size = N ∧ ∀ i, i < j → cur[i]? = some (.int .i64 (k + i))) := ⟨hc, hs, hv⟩
    clear hc hs hv
    by_cases hlt : j < n
    · obtain ⟨v0, hv0⟩ : ∃ v, wr.cell? ⟨g, j, none⟩ = some v := ⟨cur[j]'(by have := HC.out.2.1; omega), by rw [slab_cell HC.out.1]; exact Array.getElem?_eq_getElem _⟩
      have hf : wr.frozen? ⟨g, j, none⟩ = false := slab_free HC.out.1
      have HNx : Hid (∃ cur', (wr.setCell ⟨g, j, none⟩ (.int .i64 (k + j))).heap[g]? = some (.cells cur' 3 (0, 0)) ∧ cur'.size = N ∧ ∀ i, i < j + 1 → cur'[i]? = some (.int .i64 (k + i))) := by
        refine ⟨_, slab_set HC.out.1 _, by simpa using HC.out.2.1, fun i hi => ?_⟩
        by_cases e : i = j
        · subst e
          rw [Array.getElem?_setIfInBounds_self_of_lt (by have := HC.out.2.1; omega)]
        · rw [Array.getElem?_setIfInBounds_ne (by omega)]; exact HC.out.2.2 i (by omega)
      go_wp2
      go_roundw
      case rel => exact ⟨j + 1, by omega, by go_num, by go_num, HNx.out, hK.set _ rfl⟩
      case measure => simp [intOf]; omega
    · obtain rfl : j = n := by omega
      go_wp2
      go_ret
      exact ⟨rfl, ⟨cur, HC.out⟩, hK⟩

set_option maxRecDepth 100000 in
set_option maxHeartbeats 1000000 in
theorem heldI_marks (a : Option Addr) (n c : Nat) (k : Int) (w : World) (h : RowI w a (marksL k n)) (k0 : 0 ≤ k) (k1 : k ≤ 1000000000) (hn : n ≤ 1048576) :
    Calls Try.prog 28 #[.slice a n c, .int .i64 k] w fun r w' => r = .returned (.int .i64 (k + n)) ∧ w' = w := by
  have H : Hid (RowI w a (marksL k n)) := h
  clear h
  go_enter Try.func28, Try.ntmps28
  go_wp2
  go_loop [1, 5] (fun m i => ∃ j : Nat, j ≤ n ∧ i = .int .i64 j ∧ m = .int .i64 (k + j)) (fun _ i => n - (intOf i).toNat)
  case atStart => exact ⟨0, by omega, rfl, by simp⟩
  case round =>
    obtain ⟨j, hj, rfl, rfl⟩ := hrel
    by_cases hlt : j < n
    · obtain ⟨b, off, rfl, hlb, hc⟩ := H.out j (by rw [marksL_len]; exact hlt)
      rw [marksL_nth k n j hlt] at hc
      go_wp2
      go_round
      case rel => exact ⟨j + 1, by omega, by go_num, by go_num⟩
      case measure => simp [intOf]; omega
    · obtain rfl : j = n := by omega
      go_wp2
      go_ret
      exact ⟨rfl, rfl⟩

set_option maxRecDepth 100000 in
set_option maxHeartbeats 2000000 in
theorem markH_slab (g n c N : Nat) (cur0 : Array Value) (k : Int) (w : World) (hh : w.heap[g]? = some (.cells cur0 88 (0, 0))) (hN : cur0.size = N) (hn : n * 2 ≤ N) (k0 : 0 ≤ k) (k1 : k ≤ 1000000000) (hn2 : n ≤ 1048576) :
    Calls Try.prog 53 #[.slice (some ⟨g, 0, none⟩) n c, .int .i64 k] w fun r w' => r = .returned (.int .i64 (k + 2 * n)) ∧ Kept (fun j => j = g) w w' := by
  have HH : Hid (w.heap[g]? = some (.cells cur0 88 (0, 0))) := hh
  have HN : Hid (cur0.size = N) := hN
  clear hh hN
  go_enter Try.func53, Try.ntmps53
  go_wp2
  go_loopw [1, 5] (fun m i wr => ∃ j : Nat, j ≤ n ∧ i = .int .i64 j ∧ m = .int .i64 (k + 2 * j) ∧ (∃ cur, wr.heap[g]? = some (.cells cur 88 (0, 0)) ∧ cur.size = N) ∧ Kept (fun j => j = g) w wr) (fun _ i _ => n - (intOf i).toNat)
  case atStart => exact ⟨0, by omega, rfl, by simp, ⟨cur0, HH.out, HN.out⟩, Kept.refl _ _⟩
  case round =>
    obtain ⟨j, hj, rfl, rfl, ⟨cur, hc, hs⟩, hK⟩ := hrel
    have HC : Hid (wr.heap[g]? = some (.cells cur 88 (0, 0)) ∧ cur.size = N) := ⟨hc, hs⟩
    clear hc hs
    by_cases hlt : j < n
    · obtain ⟨v0, hv0⟩ : ∃ v, wr.cell? ⟨g, j * 2, none⟩ = some v := ⟨cur[j * 2]'(by have := HC.out.2; omega), by rw [slab_cell HC.out.1]; exact Array.getElem?_eq_getElem _⟩
      obtain ⟨v1, hv1⟩ : ∃ v, wr.cell? ⟨g, j * 2 + 1, none⟩ = some v := ⟨cur[j * 2 + 1]'(by have := HC.out.2; omega), by rw [slab_cell HC.out.1]; exact Array.getElem?_eq_getElem _⟩
      have hf : ∀ o, wr.frozen? ⟨g, o, none⟩ = false := fun o => slab_free HC.out.1
      have HNx : Hid (∀ x y, ∃ cur', ((wr.setCell ⟨g, j * 2, none⟩ x).setCell ⟨g, j * 2 + 1, none⟩ y).heap[g]? = some (.cells cur' 88 (0, 0)) ∧ cur'.size = N) := fun x y =>
        ⟨_, slab_set (slab_set HC.out.1 _) _, by simpa using HC.out.2⟩
      go_wp2
      go_roundw
      case rel => exact ⟨j + 1, by omega, by go_num, by go_num, HNx.out _ _, (hK.set _ rfl).set _ rfl⟩
      case measure => simp [intOf]; omega
    · obtain rfl : j = n := by omega
      go_wp2
      go_ret
      exact ⟨rfl, hK⟩

theorem SlabI.kept {S : Nat → Prop} {w w' : World} {g n k : Nat} {ss : List Int} (h : SlabI w g n ss k) (hK : Kept S w w') (hS : ¬ S g) : SlabI w' g n ss k := by
  have hl := h.lt
  obtain ⟨cur, hh, r⟩ := h
  exact ⟨cur, (hK.block g hl hS).trans hh, r⟩
theorem SlabP.kept {S : Nat → Prop} {w w' : World} {g n k : Nat} {ps : List P2} (h : SlabP w g n ps k) (hK : Kept S w w') (hS : ¬ S g) : SlabP w' g n ps k := by
  have hl := h.lt
  obtain ⟨cur, hh, r⟩ := h
  exact ⟨cur, (hK.block g hl hS).trans hh, r⟩
theorem BoxS.kept {S : Nat → Prop} {b : Nat} {t e : Int} {n h p : Value} {w w' : World} (x : BoxS b t e n h p w) (hK : Kept S w w') (hS : ¬ S b) : BoxS b t e n h p w' := by
  obtain ⟨x0, x1, x2, x3, x4, x5⟩ := x
  have e := hK.block b x5 hS
  have c : ∀ o, w'.cell? ⟨b, o, none⟩ = w.cell? ⟨b, o, none⟩ := fun o => World.cell?_of_block (a := ⟨b, o, none⟩) e
  exact ⟨(c 0).trans x0, (c 1).trans x1, (c 2).trans x2, (c 3).trans x3, (c 4).trans x4, Nat.lt_of_lt_of_le x5 hK.size⟩

set_option maxRecDepth 100000 in
set_option maxHeartbeats 2000000 in
theorem markSpace_slab (t e : Int) (g1 g2 g3 c1 c2 c3 : Nat) (ss : List Int) (ps : List P2) (qs : List Int) (w : World) (h1 : SlabI w g1 ss.length ss ss.length) (h2 : SlabP w g2 ps.length ps ps.length) (h3 : SlabI w g3 qs.length qs qs.length) (n12 : g1 ≠ g2) (n13 : g1 ≠ g3) (n23 : g2 ≠ g3)
    (l1 : ss.length ≤ 1048576) (l2 : ps.length ≤ 1048576) (l3 : qs.length ≤ 1048576) :
    Calls Try.prog 20 #[SV t e (.slice (some ⟨g1, 0, none⟩) ss.length c1) (.slice (some ⟨g2, 0, none⟩) ps.length c2) (.slice (some ⟨g3, 0, none⟩) qs.length c3), .int .i64 1] w fun r w' => ∃ x : Int, r = .returned (.int .i64 x) ∧ 0 ≤ x ∧ Kept (fun j => j = g1 ∨ j = g2 ∨ j = g3) w w' := by
  have H1 : Hid (SlabI w g1 ss.length ss ss.length) := h1
  have H2 : Hid (SlabP w g2 ps.length ps ps.length) := h2
  have H3 : Hid (SlabI w g3 qs.length qs qs.length) := h3
  have b1 := h1.lt
  have b2 := h2.lt
  have b3 := h3.lt
  clear h1 h2 h3
  obtain ⟨x, hx⟩ : ∃ x, ss.length = x := ⟨_, rfl⟩
  obtain ⟨y, hy⟩ : ∃ y, ps.length = y := ⟨_, rfl⟩
  obtain ⟨z, hz⟩ : ∃ z, qs.length = z := ⟨_, rfl⟩
  rw [hx] at l1 H1 ⊢
  rw [hy] at l2 H2 ⊢
  rw [hz] at l3 H3 ⊢
  clear hx hy hz
  have K0 : Kept (fun j => j = g1 ∨ j = g2 ∨ j = g3) w (w.alloc (SC t e (.slice (some ⟨g1, 0, none⟩) x c1) (.slice (some ⟨g2, 0, none⟩) y c2) (.slice (some ⟨g3, 0, none⟩) z c3) 29)) := (Kept.refl _ _).alloc _
  have X0 : Hid (BoxS w.heap.size t e (.slice (some ⟨g1, 0, none⟩) x c1) (.slice (some ⟨g2, 0, none⟩) y c2) (.slice (some ⟨g3, 0, none⟩) z c3) (w.alloc (SC t e (.slice (some ⟨g1, 0, none⟩) x c1) (.slice (some ⟨g2, 0, none⟩) y c2) (.slice (some ⟨g3, 0, none⟩) z c3) 29))) := BoxS.new 29
  obtain ⟨cur1, hh1, hs1, _⟩ : SlabI (w.alloc (SC t e (.slice (some ⟨g1, 0, none⟩) x c1) (.slice (some ⟨g2, 0, none⟩) y c2) (.slice (some ⟨g3, 0, none⟩) z c3) 29)) g1 x ss x := H1.out.below ((Below.refl w.heap.size w).alloc (Nat.le_refl _) _) b1
  have J2 : Hid (SlabP (w.alloc (SC t e (.slice (some ⟨g1, 0, none⟩) x c1) (.slice (some ⟨g2, 0, none⟩) y c2) (.slice (some ⟨g3, 0, none⟩) z c3) 29)) g2 y ps y) := H2.out.below ((Below.refl w.heap.size w).alloc (Nat.le_refl _) _) b2
  have J3 : Hid (SlabI (w.alloc (SC t e (.slice (some ⟨g1, 0, none⟩) x c1) (.slice (some ⟨g2, 0, none⟩) y c2) (.slice (some ⟨g3, 0, none⟩) z c3) 29)) g3 z qs z) := H3.out.below ((Below.refl w.heap.size w).alloc (Nat.le_refl _) _) b3
  clear H1 H2 H3
  have HH1 : Hid ((w.alloc (SC t e (.slice (some ⟨g1, 0, none⟩) x c1) (.slice (some ⟨g2, 0, none⟩) y c2) (.slice (some ⟨g3, 0, none⟩) z c3) 29)).heap[g1]? = some (.cells cur1 3 (0, 0))) := hh1
  clear hh1
  go_enter Try.func20, Try.ntmps20
  go_wp2_with fail
  refine (markI_slab g1 x c1 x cur1 1 _ HH1.out hs1 (Nat.le_refl _) (by omega) (by omega) l1).mono ?_
  rintro r w1 ⟨rfl, _, k1⟩
  have K1 := K0.trans (k1.mono fun j hj => .inl hj)
  have X1 := X0.out.kept k1 (by omega)
  obtain ⟨cur2, hh2, hs2, _⟩ := J2.out.kept k1 (fun h => n12 h.symm)
  have J3' : Hid (SlabI w1 g3 z qs z) := J3.out.kept k1 (fun h => n13 h.symm)
  have HH2 : Hid (w1.heap[g2]? = some (.cells cur2 88 (0, 0))) := hh2
  have X1' : Hid (BoxS w.heap.size t e (.slice (some ⟨g1, 0, none⟩) x c1) (.slice (some ⟨g2, 0, none⟩) y c2) (.slice (some ⟨g3, 0, none⟩) z c3) w1) := X1
  obtain ⟨_, _, _, x13, _, _⟩ := X1
  clear hh2 K0 X0 k1 J2 J3 HH1
  go_wp2_with fail
  refine (markH_slab g2 y c2 (y * 2) cur2 (1 + x) _ HH2.out hs2 (Nat.le_refl _) (by omega) (by omega) l2).mono ?_
  rintro r w2 ⟨rfl, k2⟩
  have K2 := K1.trans (k2.mono fun j hj => .inr (.inl hj))
  obtain ⟨_, _, _, _, x24, _⟩ := X1'.out.kept k2 (by omega)
  obtain ⟨cur3, hh3, hs3, _⟩ := J3'.out.kept k2 (fun h => n23 h.symm)
  have HH3 : Hid (w2.heap[g3]? = some (.cells cur3 3 (0, 0))) := hh3
  clear hh3 K1 X1' k2 J3' HH2 x13
  go_wp2_with fail
  refine (markI_slab g3 z c3 z cur3 (1 + x + 2 * y) _ HH3.out hs3 (Nat.le_refl _) (by omega) (by omega) l3).mono ?_
  rintro r w3 ⟨rfl, _, k3⟩
  have K3 := K2.trans (k3.mono fun j hj => .inr (.inr hj))
  clear K2 k3 HH3
  go_wp2
  go_ret
  exact ⟨1 + x + 2 * y + z, by go_num, by omega, K3⟩
end Go.Proofs.Ytaklphoplfofbaa
