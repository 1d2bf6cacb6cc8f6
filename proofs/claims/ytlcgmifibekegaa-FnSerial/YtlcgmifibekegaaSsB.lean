/- The graph that a law draws (stage 8). -/
import Derived.Test.YtlcgmifibekegaaSsA
import Derived.Test.YtlcgmifibekegaaOrF
namespace Go.Proofs.Ytlcgmifibekegaa
open Go.RowKit

theorem own_diff {w : World} {B B' : Nat} {v v' : Value} {l : List Int} {l' : List P2} (h : OwnI w B v l) (h' : OwnP w B' v' l') : ∀ j, v.ownBlock = some j → v'.ownBlock ≠ some j := by
  intro j hj hj'
  rcases h.2 with ⟨rfl, _⟩ | ⟨g, c, cur, rfl, _, hh, _⟩
  · cases hj
  · rcases h'.2 with ⟨rfl, _⟩ | ⟨g', c', cur', rfl, _, hh', _⟩
    · cases hj'
    · cases hj
      have e : g' = g := by simpa [Value.ownBlock] using hj'
      rw [e] at hh'
      rw [hh] at hh'
      cases hh'
theorem src_keep {w w' : World} {b : Nat} {a : Option Addr} {len cap m : Nat} (h : Src w b a len cap m) (hb : Below (b + 1) w w') (hc : ∀ i, i < len → ∃ cb off, a = some ⟨cb, off, none⟩ ∧ cb < b + 1) : Src w' b a len cap m := by
  have hl : b < b + 1 := by omega
  obtain ⟨k, seed, hk, h1, h2, h3, h4⟩ := h.ks
  refine ⟨(hb.cell (p := ⟨b, 0, none⟩) hl).trans h.c0, ⟨k, seed, hk, (hb.cell (p := ⟨b, 1, none⟩) hl).trans h1, (hb.cell (p := ⟨b, 2, none⟩) hl).trans h2, h3, h4⟩, (hb.frozen (p := ⟨b, 1, none⟩) hl).trans h.f1, (hb.frozen (p := ⟨b, 2, none⟩) hl).trans h.f2, h.lenle, fun i hi => ?_⟩
  obtain ⟨cb, off, c, e, hne, hlt, h0, h5, hx⟩ := h.code i hi
  obtain ⟨cb', off', e', hlt'⟩ := hc i hi
  rw [e] at e'
  cases e'
  exact ⟨cb, off, c, e, hne, Nat.lt_of_lt_of_le hlt hb.size, h0, h5, (hb.cell (p := ⟨cb, off + i, none⟩) hlt').trans hx⟩
/-- What a choice leaves. -/
theorem own_but {w w' : World} {b e m n : Nat} {v : Value} {xs : List Value} (h : w.ownsRow (b + 1) e m v n xs) (hb : But b w w') : w'.ownsRow (b + 1) e m v n xs := own_at h (fun j hj => hb.block j (own_lt h hj).2 (by have := (own_lt h hj).1; omega))
set_option maxRecDepth 100000 in
set_option maxHeartbeats 8000000 in
theorem draw_any {w : World} {a : Option Addr} {cap : Nat} {l : List UInt8} (h : ReadL w a l) (hlen : l.length ≤ 1048576) :
    Calls Try.prog 80 #[.slice a l.length cap] w fun e w' => ∃ v5 v6 ns es, e = .returned (.tuple #[v5, v6]) ∧ OwnI w' w.heap.size v5 ns ∧ OwnP w' w.heap.size v6 es ∧ ns.length ≤ 6 ∧ es.length ≤ 7 ∧ Below w.heap.size w w' := by
  have hsrc := source_any (cap := cap) h (by omega)
  obtain ⟨len, hl⟩ : ∃ n, l.length = n := ⟨_, rfl⟩
  have HCB : Hid (∀ i, i < len → ∃ cb off, a = some ⟨cb, off, none⟩ ∧ cb < w.heap.size + 1) := fun i hi => by
    obtain ⟨b, off, e, hlt, _⟩ := h i (by rw [hl]; exact hi)
    exact ⟨b, off, e, by omega⟩
  rw [hl] at hsrc hlen ⊢
  clear h hl
  go_enter Try.func80, Try.ntmps80
  go_wp2_with fail
  refine hsrc.mono ?_
  rintro e w1 ⟨rfl, hs1, hz1, b1⟩
  clear hsrc
  have HO0 : OwnI (w1.alloc (.cells #[] 3)) (w.heap.size + 1) (.slice (some ⟨w.heap.size + 1, 0, none⟩) 0 0) [] := by have := OwnI.made w1 (w.heap.size + 1) (by omega); rw [hz1] at this; exact this
  have HP0 : OwnP ((w1.alloc (.cells #[] 3)).alloc (.cells #[] 48)) (w.heap.size + 1) (.slice (some ⟨w.heap.size + 1 + 1, 0, none⟩) 0 0) [] := by
    have := OwnP.made (w1.alloc (.cells #[] 3)) (w.heap.size + 1) (by simp; omega)
    simpa [hz1] using this
  have b2 : Below w1.heap.size w1 ((w1.alloc (.cells #[] 3)).alloc (.cells #[] 48)) := ((Below.refl _ _).alloc (Nat.le_refl _) _).alloc (by simp) _
  have hs2 := hs1.below b2
  have B2 := below_step b1 (Nat.le_refl _) b2
  have hz2 : w.heap.size + 1 ≤ ((w1.alloc (.cells #[] 3)).alloc (.cells #[] 48)).heap.size := by simp; omega
  have HS2 : Hid (OwnI ((w1.alloc (.cells #[] 3)).alloc (.cells #[] 48)) (w.heap.size + 1) (.slice (some ⟨w.heap.size + 1, 0, none⟩) 0 0) [] ∧ OwnP ((w1.alloc (.cells #[] 3)).alloc (.cells #[] 48)) (w.heap.size + 1) (.slice (some ⟨w.heap.size + 1 + 1, 0, none⟩) 0 0) []) := ⟨HO0.alloc _, HP0⟩
  clear hs1 HO0 HP0 b1 b2
  go_wp2_with fail
  refine (next_any 7 hs2 (by omega) (by omega) (by omega)).mono ?_
  rintro e w3 ⟨r, rfl, r0, r7, hs3, but3⟩
  have HS3 : Hid (OwnI w3 (w.heap.size + 1) (.slice (some ⟨w.heap.size + 1, 0, none⟩) 0 0) [] ∧ OwnP w3 (w.heap.size + 1) (.slice (some ⟨w.heap.size + 1 + 1, 0, none⟩) 0 0) [] ∧ Src w3 w.heap.size a len cap 1) := ⟨own_but HS2.out.1 but3, own_but HS2.out.2 but3, hs3⟩
  have B3 : Below w.heap.size w w3 := but3.below B2 (Nat.le_refl _) B2.size
  have hz3 : w.heap.size + 1 ≤ w3.heap.size := by have := but3.size; omega
  obtain ⟨k0, rfl⟩ : ∃ k : Nat, r = (k : Int) := ⟨r.toNat, by omega⟩
  clear hs2 HS2 B2 hz2 but3 hs3
  go_wp2
  go_loopw [5, 7] (fun v i wr => ∃ (k : Nat) (ns : List Int) (m : Nat), i = .int .i64 k ∧ ns.length + k ≤ 6 ∧ m + 2 * k ≤ 20 ∧ Hid (OwnI wr (w.heap.size + 1) v ns ∧ OwnP wr (w.heap.size + 1) (.slice (some ⟨w.heap.size + 1 + 1, 0, none⟩) 0 0) [] ∧ Src wr w.heap.size a len cap m) ∧ Below w.heap.size w wr ∧ w.heap.size + 1 ≤ wr.heap.size) (fun _ i _ => (intOf i).toNat)
  case atStart => exact ⟨k0, [], 1, rfl, by simp; omega, by omega, HS3, B3, hz3⟩
  case round =>
    clear HS3 B3 hz3 r0 r7
    obtain ⟨k, ns, m, rfl, hln, hmk, HO, hbl, hzr⟩ := hrel
    by_cases hk0 : k = 0
    · subst hk0
      have hs := HO.out.2.2
      go_wp2_with fail
      refine (next_any 8 hs (by omega) (by omega) (by omega)).mono ?_
      rintro e w3 ⟨r, rfl, r0, r7, hs3, but3⟩
      have HS3 : Hid (OwnI w3 (w.heap.size + 1) u5 ns ∧ OwnP w3 (w.heap.size + 1) (.slice (some ⟨w.heap.size + 1 + 1, 0, none⟩) 0 0) [] ∧ Src w3 w.heap.size a len cap (m + 1)) := ⟨own_but HO.out.1 but3, own_but HO.out.2.1 but3, hs3⟩
      have B3 : Below w.heap.size w w3 := but3.below hbl (Nat.le_refl _) hbl.size
      have hz3 : w.heap.size + 1 ≤ w3.heap.size := by have := but3.size; omega
      obtain ⟨k0, rfl⟩ : ∃ k : Nat, r = (k : Int) := ⟨r.toNat, by omega⟩
      have HLN : Hid (ns.length ≤ 6) := (by omega : ns.length ≤ 6)
      clear hs HO but3 hs3 hbl hzr
      go_wp2
      go_loopw [6, 8] (fun v i wr => ∃ (k : Nat) (es : List P2) (m : Nat), i = .int .i64 k ∧ es.length + k ≤ 7 ∧ m + 2 * k ≤ 40 ∧ Hid (OwnI wr (w.heap.size + 1) u5 ns ∧ OwnP wr (w.heap.size + 1) v es ∧ Src wr w.heap.size a len cap m) ∧ Below w.heap.size w wr ∧ w.heap.size + 1 ≤ wr.heap.size) (fun _ i _ => (intOf i).toNat)
      case atStart => exact ⟨k0, [], m + 1, rfl, by simp; omega, by omega, HS3, B3, hz3⟩
      case round =>
        clear HS3 B3 hz3 r0 r7 hmk
        obtain ⟨k, es, m, rfl, hln, hmk, HO, hbl, hzr⟩ := hrel
        by_cases hk0 : k = 0
        · subst hk0
          have HF : Hid (OwnI wr w.heap.size u5 ns ∧ OwnP wr w.heap.size u6 es) := ⟨own_mono HO.out.1 (by omega), own_mono HO.out.2.1 (by omega)⟩
          go_wp2
          go_ret2
          exact ⟨_, _, ns, es, rfl, HF.out.1, HF.out.2, HLN.out, by omega, hbl⟩
        · have hkI : (0 : Int) < (k : Int) := by omega
          have hs := HO.out.2.2
          go_wp2_with fail
          refine (next_any 8 hs (by omega) (by omega) (by omega)).mono ?_
          rintro e w2 ⟨r1, rfl, r10, r19, hs2, but2⟩
          have HO2 : Hid (OwnI w2 (w.heap.size + 1) u5 ns ∧ OwnP w2 (w.heap.size + 1) u6 es) := ⟨own_but HO.out.1 but2, own_but HO.out.2.1 but2⟩
          have B2 : Below w.heap.size w w2 := but2.below hbl (Nat.le_refl _) hbl.size
          have hz2 : w.heap.size + 1 ≤ w2.heap.size := by have := but2.size; omega
          clear hs but2 HO hbl hzr
          go_wp2_with fail
          refine (next_any 8 hs2 (by omega) (by omega) (by omega)).mono ?_
          rintro e w3 ⟨r2, rfl, r20, r29, hs3, but3⟩
          have O3 : OwnI (w3.alloc (.cells #[.int .i64 r1, .int .i64 r2] 48)) (w.heap.size + 1) u5 ns := (own_but HO2.out.1 but3 : OwnI w3 _ _ _).alloc _
          have P3 : OwnP (w3.alloc (.cells #[.int .i64 r1, .int .i64 r2] 48)) (w.heap.size + 1) u6 es := (own_but HO2.out.2 but3 : OwnP w3 _ _ _).alloc _
          have B3 : Below w.heap.size w w3 := but3.below B2 (Nat.le_refl _) B2.size
          have hz3 : w.heap.size + 1 ≤ w3.heap.size := by have := but3.size; omega
          obtain ⟨v', w4, hrun, o4, gr4⟩ := app_held u6 es (w3.alloc (.cells #[.int .i64 r1, .int .i64 r2] 48)) (w.heap.size + 1) P3 (by omega) (r1, r2) w3.heap.size (heap_new' _ _ _ rfl) (by simp; omega)
          have BA : Below (w.heap.size + 1) w3 w4 := own_belowX ((Below.refl _ _).alloc (by omega) _) (by simp; omega) P3 gr4
          have HO4 : Hid (OwnI w4 (w.heap.size + 1) u5 ns ∧ OwnP w4 (w.heap.size + 1) v' (es ++ [(r1, r2)]) ∧ Src w4 w.heap.size a len cap (m + 1 + 1)) := ⟨own_at O3 (fun j hj => gr4.block j (own_lt O3 hj).2 (fun e => own_diff O3 P3 j hj e.symm)), o4, src_keep hs3 BA HCB.out⟩
          have B4 : Below w.heap.size w w4 := B3.trans (BA.mono (by omega))
          have hz4 : w.heap.size + 1 ≤ w4.heap.size := by have := BA.size; omega
          have hln' : (es ++ [(r1, r2)]).length + (k - 1) ≤ 7 := by rw [List.length_append]; simp; omega
          clear O3 P3 gr4 o4 BA hs2 HO2 B2 but3 hs3
          go_wp2_with (at_builtin; refine Lib.wpList_append_run _ rfl _ _ _ _ rfl _ _ rfl rfl _ _ hrun ?_)
          go_roundw
          case rel => exact ⟨k - 1, es ++ [(r1, r2)], m + 1 + 1, by go_num, hln', by omega, HO4, B4, hz4⟩
          case measure => simp [intOf]; omega
    · have hkI : (0 : Int) < (k : Int) := by omega
      have hs := HO.out.2.2
      go_wp2_with fail
      refine (next_any 9 hs (by omega) (by omega) (by omega)).mono ?_
      rintro e w2 ⟨r1, rfl, r10, r19, hs2, but2⟩
      have HO2 : Hid (OwnI (w2.alloc (.cells #[.int .i64 k, .int .i64 r1] 3)) (w.heap.size + 1) u5 ns ∧ OwnP (w2.alloc (.cells #[.int .i64 k, .int .i64 r1] 3)) (w.heap.size + 1) (.slice (some ⟨w.heap.size + 1 + 1, 0, none⟩) 0 0) []) := ⟨(own_but HO.out.1 but2 : OwnI w2 _ _ _).alloc _, (own_but HO.out.2.1 but2 : OwnP w2 _ _ _).alloc _⟩
      have B2 : Below w.heap.size w (w2.alloc (.cells #[.int .i64 k, .int .i64 r1] 3)) := (but2.below hbl (Nat.le_refl _) hbl.size).alloc (by have := but2.size; omega) _
      have hs2' := hs2.below ((Below.refl _ _).alloc (Nat.le_refl _) (.cells #[.int .i64 k, .int .i64 r1] 3))
      have hz2 : w.heap.size + 1 ≤ w2.heap.size := by have := but2.size; omega
      have hy : (w2.alloc (.cells #[.int .i64 k, .int .i64 r1] 3)).heap[w2.heap.size]? = some (.cells #[.int .i64 k, .int .i64 r1] 3 (0, 0)) := heap_new' _ _ _ rfl
      clear hs hs2 but2 HO hbl hzr
      go_wp2_with fail
      refine (next_any 9 hs2' (by omega) (by omega) (by omega)).mono ?_
      rintro e w3 ⟨r2, rfl, r20, r29, hs3, but3⟩
      have HO3 : Hid (OwnI w3 (w.heap.size + 1) u5 ns ∧ OwnP w3 (w.heap.size + 1) (.slice (some ⟨w.heap.size + 1 + 1, 0, none⟩) 0 0) [] ∧ Src w3 w.heap.size a len cap (m + 1 + 1)) := ⟨own_but HO2.out.1 but3, own_but HO2.out.2 but3, hs3⟩
      have B3 : Below w.heap.size w w3 := but3.below B2 (Nat.le_refl _) B2.size
      have hy3 := (but3.block w2.heap.size (by simp) (by omega)).trans hy
      have hz3 : w.heap.size + 1 ≤ w3.heap.size := by have := but3.size; simp at this; omega
      have y0 : w3.cell? ⟨w2.heap.size, 0, none⟩ = some (.int .i64 k) := slab_cell hy3
      have y1 : w3.cell? ⟨w2.heap.size, 1, none⟩ = some (.int .i64 r1) := slab_cell hy3
      clear hs2' HO2 B2 hy hy3 but3 hs3
      by_cases h8 : r2 < 8
      · have q1 : r2 / 8 = 0 := by omega
        have q2 : r2.tdiv 8 = 0 := by rw [Int.tdiv_eq_ediv_of_nonneg r20]; omega
        obtain ⟨X, hX⟩ : ∃ X : Int, X = (k : Int) := ⟨_, rfl⟩
        have O3 : OwnI (w3.alloc (.cells #[.int .i64 (k : Int)] 3)) (w.heap.size + 1) u5 ns := HO3.out.1.alloc _
        have P3 : OwnP (w3.alloc (.cells #[.int .i64 (k : Int)] 3)) (w.heap.size + 1) (.slice (some ⟨w.heap.size + 1 + 1, 0, none⟩) 0 0) [] := HO3.out.2.1.alloc _
        obtain ⟨v', w4, hrun, o4, gr4⟩ := app_I u5 ns [(k : Int)] (w3.alloc (.cells #[.int .i64 (k : Int)] 3)) (w.heap.size + 1) 1 O3 (by simp; omega) ⟨w3.heap.size, 0, none⟩ (fun j hj => by obtain rfl : j = 0 := (by simp at hj; omega); exact slab_cell (heap_new' _ _ _ rfl)) (by simp; omega)
        have hrun' : (Builtin.append_ #[25, 25] 25 #[u5, .slice (some ⟨w3.heap.size, 0, none⟩) 1 1]).run Try.prog (w3.alloc (.cells #[.int .i64 (k : Int)] 3)) = .ok v' w4 := hrun
        have BA : Below (w.heap.size + 1) w3 w4 := own_below ((Below.refl _ _).alloc (by omega) _) (by simp; omega) O3 gr4
        have HO4 : Hid (OwnI w4 (w.heap.size + 1) v' (ns ++ [(k : Int)]) ∧ OwnP w4 (w.heap.size + 1) (.slice (some ⟨w.heap.size + 1 + 1, 0, none⟩) 0 0) [] ∧ Src w4 w.heap.size a len cap (m + 1 + 1)) := ⟨o4, own_at P3 (fun j hj => gr4.block j (own_lt P3 hj).2 (fun e => own_diff O3 P3 j e.symm hj)), src_keep HO3.out.2.2 BA HCB.out⟩
        have B4 : Below w.heap.size w w4 := B3.trans (BA.mono (by omega))
        have hz4 : w.heap.size + 1 ≤ w4.heap.size := by have := BA.size; omega
        have hln : (ns ++ [(k : Int)]).length + (k - 1) ≤ 6 := by rw [List.length_append]; simp; omega
        clear hrun O3 P3 gr4 o4 HO3 BA hX
        go_wp2_with (at_builtin; refine Lib.wpList_append_run _ rfl _ _ _ _ rfl _ _ rfl rfl _ _ hrun' ?_)
        go_roundw
        case rel => exact ⟨k - 1, ns ++ [(k : Int)], m + 1 + 1, by go_num, hln, by omega, HO4, B4, hz4⟩
        case measure => simp [intOf]; omega
      · have q1 : r2 / 8 = 1 := by omega
        have q2 : r2.tdiv 8 = 1 := by rw [Int.tdiv_eq_ediv_of_nonneg r20]; omega
        obtain ⟨X, hX⟩ : ∃ X : Int, X = r1 := ⟨_, rfl⟩
        have O3 : OwnI (w3.alloc (.cells #[.int .i64 r1] 3)) (w.heap.size + 1) u5 ns := HO3.out.1.alloc _
        have P3 : OwnP (w3.alloc (.cells #[.int .i64 r1] 3)) (w.heap.size + 1) (.slice (some ⟨w.heap.size + 1 + 1, 0, none⟩) 0 0) [] := HO3.out.2.1.alloc _
        obtain ⟨v', w4, hrun, o4, gr4⟩ := app_I u5 ns [r1] (w3.alloc (.cells #[.int .i64 r1] 3)) (w.heap.size + 1) 1 O3 (by simp; omega) ⟨w3.heap.size, 0, none⟩ (fun j hj => by obtain rfl : j = 0 := (by simp at hj; omega); exact slab_cell (heap_new' _ _ _ rfl)) (by simp; omega)
        have hrun' : (Builtin.append_ #[25, 25] 25 #[u5, .slice (some ⟨w3.heap.size, 0, none⟩) 1 1]).run Try.prog (w3.alloc (.cells #[.int .i64 r1] 3)) = .ok v' w4 := hrun
        have BA : Below (w.heap.size + 1) w3 w4 := own_below ((Below.refl _ _).alloc (by omega) _) (by simp; omega) O3 gr4
        have HO4 : Hid (OwnI w4 (w.heap.size + 1) v' (ns ++ [r1]) ∧ OwnP w4 (w.heap.size + 1) (.slice (some ⟨w.heap.size + 1 + 1, 0, none⟩) 0 0) [] ∧ Src w4 w.heap.size a len cap (m + 1 + 1)) := ⟨o4, own_at P3 (fun j hj => gr4.block j (own_lt P3 hj).2 (fun e => own_diff O3 P3 j e.symm hj)), src_keep HO3.out.2.2 BA HCB.out⟩
        have B4 : Below w.heap.size w w4 := B3.trans (BA.mono (by omega))
        have hz4 : w.heap.size + 1 ≤ w4.heap.size := by have := BA.size; omega
        have hln : (ns ++ [r1]).length + (k - 1) ≤ 6 := by rw [List.length_append]; simp; omega
        clear hrun O3 P3 gr4 o4 HO3 BA hX
        go_wp2_with (at_builtin; refine Lib.wpList_append_run _ rfl _ _ _ _ rfl _ _ rfl rfl _ _ hrun' ?_)
        go_roundw
        case rel => exact ⟨k - 1, ns ++ [r1], m + 1 + 1, by go_num, hln, by omega, HO4, B4, hz4⟩
        case measure => simp [intOf]; omega
theorem graph_any {w : World} {a : Option Addr} {cap : Nat} {l : List UInt8} (h : ReadL w a l) (hlen : l.length ≤ 1048576) :
    Calls Try.prog 26 #[.slice a l.length cap] w fun e w' => ∃ v5 v6 ns es, e = .returned (.tuple #[v5, v6]) ∧ OwnI w' w.heap.size v5 ns ∧ OwnP w' w.heap.size v6 es ∧ ns.length ≤ 6 ∧ es.length ≤ 7 ∧ Below w.heap.size w w' := by
  have hd := draw_any (cap := cap) h hlen
  obtain ⟨len, hl⟩ : ∃ n, l.length = n := ⟨_, rfl⟩
  rw [hl] at hd ⊢
  clear h hl
  go_enter Try.func26, Try.ntmps26
  go_wp2_with fail
  refine hd.mono ?_
  rintro e w1 ⟨v5, v6, ns, es, rfl, h1, h2, h3, h4, h5⟩
  have H : Hid (OwnI w1 w.heap.size v5 ns ∧ OwnP w1 w.heap.size v6 es) := ⟨h1, h2⟩
  clear h1 h2 hd
  go_wp2
  go_ret2
  exact ⟨_, _, ns, es, rfl, H.out.1, H.out.2, h3, h4, h5⟩
end Go.Proofs.Ytlcgmifibekegaa
