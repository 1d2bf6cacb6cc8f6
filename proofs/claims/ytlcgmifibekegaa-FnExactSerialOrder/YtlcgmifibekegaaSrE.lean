/- Marks on acts that are looked for (stage 8). -/
import Derived.Test.YtlcgmifibekegaaSrD
namespace Go.Proofs.Ytlcgmifibekegaa
open Go.RowKit

abbrev StM (W : World) (b o : Nat) (s : ByteArray) (w' : World) : Prop := w'.cell? ⟨b, o, none⟩ = some (.string s) ∧ b < w'.heap.size ∧ Below W.heap.size W w'
theorem StM.keep {W : World} {b o : Nat} {s : ByteArray} {w1 w2 : World} (h : StM W b o s w1) (hb : Below w1.heap.size w1 w2) : StM W b o s w2 :=
  ⟨(hb.cell (p := ⟨b, o, none⟩) h.2.1).trans h.1, Nat.lt_of_lt_of_le h.2.1 hb.size, below_step h.2.2 (Nat.le_refl _) hb⟩
set_option maxRecDepth 100000 in
set_option maxHeartbeats 4000000 in
theorem heldH_marks (a : Option Addr) (n c : Nat) (k : Int) (w : World) (h : RowH w a (marksH k n)) (k0 : 0 ≤ k) (k1 : k ≤ 10000000) (hn : n ≤ 1048576) :
    Calls Try.prog 57 #[.slice a n c, .int .i64 k] w fun r w' => r = .returned (.int .i64 (k + 4 * n)) ∧ Below w.heap.size w w' := by
  have H : Hid (RowH w a (marksH k n)) := h
  clear h
  go_enter Try.func57, Try.ntmps57
  go_wp2
  go_loopw [1, 5] (fun m i wr => ∃ j : Nat, j ≤ n ∧ i = .int .i64 j ∧ m = .int .i64 (k + 4 * j) ∧ Below w.heap.size w wr) (fun _ i _ => n - (intOf i).toNat)
  case atStart => exact ⟨0, by omega, rfl, by simp, Below.refl _ _⟩
  case round =>
    obtain ⟨j, hj, rfl, rfl, hbl⟩ := hrel
    by_cases hlt : j < n
    · have hltI : (j : Int) < (n : Int) := by omega
      obtain ⟨b, off, rfl, hlb, ⟨q0, q1, q2, q3⟩, _, _⟩ := (H.out.below hbl) j (by rw [marksH_len]; exact hlt)
      rw [marksH_nth k n j hlt] at q0 q1 q2 q3
      simp only at q0 q1 q2 q3
      have Q3 : Hid (wr.cell? ⟨b, off + j * 4 + 3, none⟩ = some (.string (mtx (k + 4 * j + 1 + 1 + 1)))) := q3
      have hC : Hid (StM wr b (off + j * 4 + 2) (mtx (k + 4 * j + 1 + 1)) wr.drew) := ⟨q2, hlb, (Below.refl _ _).drew⟩
      have hwj : IntKind.i64.wrap (j : Int) = (j : Int) := wrap_nat (by omega)
      clear q3 q2
      go_wp2_with fail
      refine wp_region_class (C := StM wr b (off + j * 4 + 2) (mtx (k + 4 * j + 1 + 1))) (by kernel_rfl) (by kernel_rfl) hC.out ?_
      repeat (first | go_big_quiet_skip | (go_big_quiet_want; apply Exists.intro; refine ⟨?_, ?_⟩; (focus (intro w' hw'; first | (obtain ⟨m0, m1, m2⟩ := hw'; go_simp; with_reducible rfl) | (go_simp; refine (markText_any (k + 4 * j + 1 + 1) w' (by omega) (by omega)).mono ?_; rintro e w'' ⟨rfl, _, hb⟩; exact ⟨rfl, hw'.keep hb⟩))); (try simp only [Act.put, List.setIfInBounds_toArray, List.set_cons_zero, List.set_cons_succ]); go_big_quiet_on))
      refine wpQuiet_nil ?_
      intro w2 hw2
      have hB2 : Below wr.heap.size wr w2 := hw2.2.2
      have r3 : w2.cell? ⟨b, off + j * 4 + 3, none⟩ = some (.string (mtx (k + 4 * j + 1 + 1 + 1))) := (hB2.cell (p := ⟨b, off + j * 4 + 3, none⟩) hlb).trans Q3.out
      have hlb2 : b < w2.heap.size := hw2.2.1
      have B2 := below_step hbl (Nat.le_refl _) hB2
      have hC2 : Hid (StM w2 b (off + j * 4 + 3) (mtx (k + 4 * j + 1 + 1 + 1)) w2.drew) := ⟨r3, hlb2, (Below.refl _ _).drew⟩
      clear hw2 hC q0 q1 r3 Q3 hB2 hbl
      go_wp2_with fail
      refine wp_region_class (C := StM w2 b (off + j * 4 + 3) (mtx (k + 4 * j + 1 + 1 + 1))) (by kernel_rfl) (by kernel_rfl) hC2.out ?_
      repeat (first | go_big_quiet_skip | (go_big_quiet_want; apply Exists.intro; refine ⟨?_, ?_⟩; (focus (intro w' hw'; first | (obtain ⟨m0, m1, m2⟩ := hw'; go_simp; with_reducible rfl) | (go_simp; refine (markText_any (k + 4 * j + 1 + 1 + 1) w' (by omega) (by omega)).mono ?_; rintro e w'' ⟨rfl, _, hb⟩; exact ⟨rfl, hw'.keep hb⟩))); (try simp only [Act.put, List.setIfInBounds_toArray, List.set_cons_zero, List.set_cons_succ]); go_big_quiet_on))
      refine wpQuiet_nil ?_
      intro w3 hw3
      have B3 := below_step B2 (Nat.le_refl _) hw3.2.2
      clear hw3 hC2 B2
      go_wp2
      go_roundw
      case rel => exact ⟨j + 1, by omega, by go_num, by go_num, B3⟩
      case measure => simp [intOf]; omega
    · obtain rfl : j = n := by omega
      go_wp2
      go_ret
      exact ⟨rfl, hbl⟩
theorem heldH_own {w : World} {B : Nat} {v : Value} {n : Nat} {k : Int} (h : OwnH w B v (marksH k n)) (k0 : 0 ≤ k) (k1 : k ≤ 10000000) (hn : n ≤ 1048576) : Calls Try.prog 57 #[v, .int .i64 k] w fun r w' => r = .returned (.int .i64 (k + 4 * n)) ∧ Below w.heap.size w w' := by
  obtain ⟨a, c, rfl, r⟩ := h.row (fun i hi => by
    rw [marksH_len] at hi
    rw [marksH_nth k n i hi]
    exact ⟨mtx_size _ (by omega) (by omega), mtx_size _ (by omega) (by omega)⟩)
  rw [marksH_len]
  exact heldH_marks a n c k w r k0 k1 hn
theorem eqH_own {w : World} {B B' : Nat} {v v' : Value} {l : List TH} (h : OwnH w B v l) (h' : OwnH w B' v' l) (hz : ∀ i, i < l.length → (nthH l i).2.2.1.size ≤ maxLen ∧ (nthH l i).2.2.2.size ≤ maxLen) (hl : l.length ≤ 1048576) : Calls Try.prog 37 #[v, v'] w fun r w' => r = .returned (.bool true) ∧ Below w.heap.size w w' := by
  obtain ⟨a, c, rfl, r⟩ := h.row hz
  obtain ⟨a', c', rfl, r'⟩ := h'.row hz
  exact eqH_same a a' c c' l w r r' hl
theorem markI_slabK (g n c : Nat) (ss : List Int) (w : World) (h : SlabI w g n ss n) (hn : n ≤ 1048576) (k : Int) (k0 : 0 ≤ k) (k1 : k ≤ 100000000) :
    Calls Try.prog 41 #[.slice (some ⟨g, 0, none⟩) n c, .int .i64 k] w fun r w' => r = .returned (.int .i64 (k + n)) ∧ Kept (fun j => j = g) w w' := by
  obtain ⟨cur, hh, hs, _⟩ := h
  refine (markI_slab g n c n cur k w hh hs (Nat.le_refl _) k0 (by omega) hn).mono ?_
  rintro r w' ⟨rfl, _, hK⟩
  exact ⟨rfl, hK⟩
end Go.Proofs.Ytlcgmifibekegaa
