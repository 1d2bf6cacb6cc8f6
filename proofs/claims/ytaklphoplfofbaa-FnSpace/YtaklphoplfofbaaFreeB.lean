/- SpaceFree of both sides (stage 4). -/
import Derived.Test.YtaklphoplfofbaaFreeA
namespace Go.Proofs.Ytaklphoplfofbaa
open Go.RowKit Go.Maps Go.WideShapes Go.ChangeMaps Go.MapKept

theorem any_false_of {ss : List Int} {p : Int} (h : ∀ j, j < ss.length → nthI ss j ≠ p) : ss.any (fun x => x == p) = false := by
  rw [List.any_eq_false]
  intro x hx
  obtain ⟨i, hi, rfl⟩ := List.getElem_of_mem hx
  have := h i hi
  rw [nthI_get hi] at this
  simpa using this
theorem any_true_of {ss : List Int} {p : Int} {k : Nat} (hk : k < ss.length) (h : nthI ss k = p) : ss.any (fun x => x == p) = true := by
  rw [List.any_eq_true]
  exact ⟨ss[k], List.getElem_mem hk, by rw [← nthI_get hk]; simpa using h⟩

set_option maxRecDepth 100000 in
theorem l03Has_any (a : Option Addr) (c : Nat) (ss : List Int) (p : Int) (w : World) (h : RowI w a ss) (hl : ss.length ≤ 1048576) :
    Calls Try.prog 71 #[.slice a ss.length c, .int .i64 p] w fun r w' => r = .returned (.bool (ss.any (fun x => x == p))) ∧ w' = w := by
  have H : Hid (RowI w a ss) := h
  clear h
  obtain ⟨x, hx⟩ : ∃ x, ss.length = x := ⟨_, rfl⟩
  have HX : Hid (ss.length = x) := hx
  rw [hx] at hl ⊢
  clear hx
  go_enter Try.func71, Try.ntmps71
  go_wp2
  go_loop [5] (fun i => ∃ k : Nat, k ≤ x ∧ i = .int .i64 k ∧ ∀ j, j < k → nthI ss j ≠ p) (fun i => x - (intOf i).toNat)
  case atStart => exact ⟨0, by omega, rfl, fun j hj => by omega⟩
  case round =>
    obtain ⟨k, hk, rfl, hA⟩ := hrel
    have HA : Hid (∀ j, j < k → nthI ss j ≠ p) := hA
    clear hA
    by_cases hlt : k < x
    · obtain ⟨b, off, rfl, hlb, hc⟩ := H.out k (by rw [HX.out]; exact hlt)
      obtain ⟨u, hu⟩ : ∃ u, nthI ss k = u := ⟨_, rfl⟩
      have HU : Hid (nthI ss k = u) := hu
      rw [hu] at hc
      clear hu
      by_cases q : u = p
      · go_wp2
        go_ret
        exact ⟨ret_bool' (any_true_of (k := k) (by rw [HX.out]; exact hlt) (HU.out.trans q)).symm, rfl⟩
      go_wp2
      go_round
      case rel => exact ⟨k + 1, by omega, by go_num, all_step' (P := fun j => nthI ss j ≠ p) HA.out (by rw [HU.out]; exact q)⟩
      case measure => simp [intOf]; omega
    · obtain rfl : k = x := by omega
      go_wp2
      go_ret
      exact ⟨ret_bool' (any_false_of (by rw [HX.out]; exact HA.out)).symm, rfl⟩

theorem any_take {ps : List P2} {p : Int} {k : Nat} (h : k < ps.length) : (ps.take (k + 1)).any (fun x => x.1 == p) = ((ps.take k).any (fun x => x.1 == p) || ((nthP ps k).1 == p)) := by
  rw [List.take_succ_eq_append_getElem h, List.any_append, nthP_get h]
  simp

set_option maxRecDepth 100000 in
set_option maxHeartbeats 4000000 in
theorem l04Free_any (t : Nat) (e : Int) (a1 a2 : Option Addr) (c1 c2 : Nat) (v3 : Value) (ss : List Int) (ps : List P2) (w : World) (h1 : RowI w a1 ss) (h2 : RowP w a2 ps) (l1 : ss.length ≤ 1048576) (l2 : ps.length ≤ 1048576) (ht : t ≤ 64) :
    Calls Try.prog 59 #[SV t e (.slice a1 ss.length c1) (.slice a2 ps.length c2) v3] w fun r w' => ∃ v, r = .returned v ∧ OwnI w' w.heap.size v (freeK (usedB ss ps) t) ∧ Below w.heap.size w w' := by
  have H1 : Hid (RowI w a1 ss) := h1
  have H2 : Hid (RowP w a2 ps) := h2
  have L1 : Hid (ss.length ≤ 1048576) := l1
  clear h1 h2 l1
  obtain ⟨y, hy⟩ : ∃ y, ps.length = y := ⟨_, rfl⟩
  have HY : Hid (ps.length = y) := hy
  rw [hy] at l2 ⊢
  clear hy
  obtain ⟨i0, hi, hz0, hz1, hz2⟩ := info_parts info3
  have B0 : Below w.heap.size w ((w.alloc (SC t e (.slice a1 ss.length c1) (.slice a2 y c2) v3 29)).alloc (.cells #[] 3)) := ((Below.refl _ _).alloc (Nat.le_refl _) _).alloc (by simp) _
  have b0 : Below (w.heap.size + 1) (w.alloc (SC t e (.slice a1 ss.length c1) (.slice a2 y c2) v3 29)) ((w.alloc (SC t e (.slice a1 ss.length c1) (.slice a2 y c2) v3 29)).alloc (.cells #[] 3)) := (Below.refl _ _).alloc (by simp) _
  have X0 : Hid (BoxS w.heap.size t e (.slice a1 ss.length c1) (.slice a2 y c2) v3 (w.alloc (SC t e (.slice a1 ss.length c1) (.slice a2 y c2) v3 29))) := BoxS.new 29
  have W0 : Hid (Below w.heap.size w (w.alloc (SC t e (.slice a1 ss.length c1) (.slice a2 y c2) v3 29))) := (Below.refl _ _).alloc (Nat.le_refl _) _
  have o0 : OwnI ((w.alloc (SC t e (.slice a1 ss.length c1) (.slice a2 y c2) v3 29)).alloc (.cells #[] 3)) (w.heap.size + 1) (.slice (some ⟨w.heap.size + 1, 0, none⟩) 0 0) [] := by
    have := OwnI.made (w.alloc (SC t e (.slice a1 ss.length c1) (.slice a2 y c2) v3 29)) (w.heap.size + 1) (by simp)
    have e1 : (w.alloc (SC t e (.slice a1 ss.length c1) (.slice a2 y c2) v3 29)).heap.size = w.heap.size + 1 := by simp
    rw [e1] at this
    exact this
  go_enter Try.func59, Try.ntmps59
  go_wp2
  go_loopw [3, 4, 5, 6] (fun v i _ _ wr => ∃ k : Nat, k ≤ t ∧ i = .int .i64 k ∧ OwnI wr (w.heap.size + 1) v (freeK (usedB ss ps) k) ∧ Below (w.heap.size + 1) (w.alloc (SC t e (.slice a1 ss.length c1) (.slice a2 y c2) v3 29)) wr) (fun _ i _ _ _ => t - (intOf i).toNat)
  case atStart => exact ⟨0, by omega, rfl, o0, b0⟩
  case round =>
    clear o0 b0 B0
    obtain ⟨k, hk, rfl, hO, hbl⟩ := hrel
    have HO : Hid (OwnI wr (w.heap.size + 1) u3 (freeK (usedB ss ps) k)) := hO
    have BB := W0.out.trans (hbl.mono (by omega))
    obtain ⟨x0, x1, x2, x3, x4, x5⟩ := X0.out.below hbl (by omega)
    clear hO
    by_cases hlt : k < t
    · go_wp2_with fail
      refine (l03Has_any a1 c1 ss k wr (H1.out.below BB) L1.out).mono ?_
      rintro r w1 ⟨rfl, hq⟩
      obtain rfl := hq.symm
      obtain ⟨q, hq⟩ : ∃ q, ss.any (fun x => x == (k : Int)) = q := ⟨_, rfl⟩
      have HQ : Hid (ss.any (fun x => x == (k : Int)) = q) := hq
      rw [hq]
      clear hq
      have HP : Hid (RowP wr a2 ps) := H2.out.below BB
      go_wp2
      go_loop [5, 6] (fun u i => ∃ j : Nat, j ≤ y ∧ i = .int .i64 j ∧ u = .bool (q || (ps.take j).any (fun x => x.1 == (k : Int)))) (fun _ i => y - (intOf i).toNat)
      case atStart => exact ⟨0, by omega, rfl, by simp⟩
      case round =>
        obtain ⟨j, hj, rfl, rfl⟩ := hrel
        obtain ⟨f, hf⟩ : ∃ f, (q || (ps.take j).any (fun x => x.1 == (k : Int))) = f := ⟨_, rfl⟩
        have HF : Hid ((q || (ps.take j).any (fun x => x.1 == (k : Int))) = f) := hf
        rw [hf]
        clear hf
        by_cases hlt2 : j < y
        · obtain ⟨b, off, rfl, hlb, hc0, hc1⟩ := HP.out j (by rw [HY.out]; exact hlt2)
          have hs := any_take (p := (k : Int)) (show j < ps.length by rw [HY.out]; exact hlt2)
          obtain ⟨u, hu⟩ : ∃ u, (nthP ps j).1 = u := ⟨_, rfl⟩
          rw [hu] at hc0 hs
          have HN : Hid ((q || (ps.take (j + 1)).any (fun x => x.1 == (k : Int))) = (f || (u == (k : Int)))) := by
            show _ = _
            rw [hs, ← Bool.or_assoc, HF.out]
          clear hs hu
          cases f
          · go_wp2
            go_round
            case rel => exact ⟨j + 1, by omega, by go_num, by rw [HN.out]; simp⟩
            case measure => simp [intOf]; omega
          · go_wp2
            go_round
            case rel => exact ⟨j + 1, by omega, by go_num, by rw [HN.out]; simp⟩
            case measure => simp [intOf]; omega
        · obtain rfl : j = y := by omega
          have HU : Hid (usedB ss ps k = f) := by
            show _ = _
            rw [← HF.out, ← HQ.out, List.take_of_length_le (by rw [HY.out]; exact Nat.le_refl _)]
            rfl
          cases f
          · have HN : Hid (freeK (usedB ss ps) (k + 1) = freeK (usedB ss ps) k ++ [(k : Int)]) := by
              show (if usedB ss ps k = true then _ else _) = _
              rw [HU.out]
              rfl
            have hl := freeK_len (usedB ss ps) k
            obtain ⟨fl, hfl⟩ : ∃ fl, freeK (usedB ss ps) k = fl := ⟨_, rfl⟩
            rw [hfl] at HN HO hl
            clear hfl
            go_wp2_with (at_builtin; refine wpList_append_own _ rfl _ _ 26 rfl (w.heap.size + 1) 3 i0 (.int .i64 0) 1 8 Try.underlying26 hi hz0 hz1 hz2 rfl (by decide) _ _ _ rfl (HO.out.alloc _) ⟨wr.heap.size, 0, none⟩ 1 1 [.int .i64 k] rfl rfl (cell_one_new _ _ _) (ints_oneCell .i64 [(k : Int)]) ?m1 ?m2 ?m3 ?_)
            case m1 => unfold maxLen; omega
            case m2 => omega
            case m3 => first | omega | (simp; omega)
            intro v' w2 ho2 g2 _
            have HO2 : Hid (OwnI w2 (w.heap.size + 1) v' (freeK (usedB ss ps) (k + 1))) := by show OwnI _ _ _ _; rw [HN.out]; exact OwnI.snoc ho2
            have B2 : Hid (Below (w.heap.size + 1) (w.alloc (SC t e (.slice a1 ss.length c1) (.slice a2 j c2) v3 29)) w2) := own_below (hbl.alloc (by omega) _) (by simp; omega) (HO.out.alloc _) g2
            clear ho2 g2
            go_wp2
            go_roundw
            case rel => exact ⟨k + 1, by omega, by go_num, HO2.out, B2.out⟩
            case measure => simp [intOf]; omega
          · have HN : Hid (freeK (usedB ss ps) (k + 1) = freeK (usedB ss ps) k) := by
              show (if usedB ss ps k = true then _ else _) = _
              rw [HU.out]
              rfl
            go_wp2
            go_roundw
            case rel => exact ⟨k + 1, by omega, by go_num, by rw [HN.out]; exact HO.out, hbl⟩
            case measure => simp [intOf]; omega
    · obtain rfl : k = t := by omega
      go_wp2
      go_ret
      refine ⟨_, rfl, ?_, BB⟩
      exact ⟨HO.out.1, HO.out.2.imp id (fun ⟨g, cap, cur, e, hB, r⟩ => ⟨g, cap, cur, e, by omega, r⟩)⟩
end Go.Proofs.Ytaklphoplfofbaa
