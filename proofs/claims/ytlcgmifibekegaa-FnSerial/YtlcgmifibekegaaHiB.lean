/- The history that a law draws (stage 8). -/
import Derived.Test.YtlcgmifibekegaaHiA
import Derived.Test.YtlcgmifibekegaaCfA
namespace Go.Proofs.Ytlcgmifibekegaa
open Go.RowKit

/-- A history that is being drawn: its list, its source, what it left alone. -/
structure StH (w : World) (b : Nat) (a : Option Addr) (len cap m : Nat) (n : Int) (W : World) (v : Value) (ss : List TH) : Prop where
  own : OwnH W (b + 1) v ss
  pre : PreP n ss
  src : Src W b a len cap m
  bel : Below b w W
  sz : b + 1 ≤ W.heap.size
section
variable {w W W' : World} {b : Nat} {a : Option Addr} {len cap m : Nat} {n : Int} {v : Value} {ss : List TH}
theorem StH.draw (h : StH w b a len cap m n W v ss) (hs : Src W' b a len cap (m + 1)) (hb : But b W W') : StH w b a len cap (m + 1) n W' v ss :=
  ⟨own_but h.own hb, h.pre, hs, hb.below h.bel (Nat.le_refl _) (by have := h.sz; omega), Nat.le_trans h.sz hb.size⟩
theorem StH.keep (h : StH w b a len cap m n W v ss) (hA : Below W.heap.size W W') : StH w b a len cap m n W' v ss :=
  ⟨h.own.below hA, h.pre, h.src.below hA, h.bel.trans (hA.mono (by have := h.sz; omega)), Nat.le_trans h.sz hA.size⟩
theorem StH.set (h : StH w b a len cap m n W v ss) (g o : Nat) (x : Value) (hg : b + 1 ≤ g) (ho : v.ownBlock ≠ some g) (hc : ∀ i, i < len → ∃ cb off, a = some ⟨cb, off, none⟩ ∧ cb < b + 1) : StH w b a len cap m n (W.setCell ⟨g, o, none⟩ x) v ss := by
  have hB : Below (b + 1) W (W.setCell ⟨g, o, none⟩ x) := (Below.refl _ _).setCell hg x
  exact ⟨own_at h.own (fun j hj => set_oth (fun e => ho (by rw [hj, e]))), h.pre, src_keep h.src hB hc, h.bel.trans (hB.mono (by omega)), Nat.le_trans h.sz hB.size⟩
theorem app_hop (v : Value) (l : List TH) (w : World) (B : Nat) (h : OwnH w B v l) (hl : l.length ≤ 1048576) (p : TH) (g : Nat) (hg : w.heap[g]? = some (.cells #[.int .i64 p.1, .int .i64 p.2.1, .string p.2.2.1, .string p.2.2.2] 107 (0, 0))) (hB : B ≤ w.heap.size) :
    ∃ v' w', (Builtin.append_ #[23, 23] 23 #[v, .slice (some ⟨g, 0, none⟩) 1 1]).run Try.prog w = .ok v' w' ∧ OwnH w' B v' (l ++ [p]) ∧ w.grownBy w' v.ownBlock := by
  obtain ⟨i0, hi, hz0, hz1, hz2⟩ := info_parts info107
  obtain ⟨v', w', hrun, r1, r2, _⟩ := run_append_own (P := Try.prog) w B 23 23 107 i0 (.agg #[.int .i64 0, .int .i64 0, .string ⟨#[]⟩, .string ⟨#[]⟩]) 4 48 Try.underlying23 hi hz0 hz1 hz2 rfl (by decide) v l.length (cellsH l) h ⟨g, 0, none⟩ 1 1 [.int .i64 p.1, .int .i64 p.2.1, .string p.2.2.1, .string p.2.2.2] rfl (fun j u hj => by
    match j, hj with
    | 0, hj => simp at hj; subst hj; rw [add_plain, slab_cell hg]; rfl
    | 1, hj => simp at hj; subst hj; rw [add_plain, slab_cell hg]; rfl
    | 2, hj => simp at hj; subst hj; rw [add_plain, slab_cell hg]; rfl
    | 3, hj => simp at hj; subst hj; rw [add_plain, slab_cell hg]; rfl) (by intro u hu; simp at hu; rcases hu with rfl | rfl | rfl | rfl <;> rfl) (by unfold maxLen; omega) (by omega) hB
  exact ⟨v', w', hrun, OwnH.snoc r1, r2⟩
theorem StH.app (h : StH w b a len cap m n W v ss) (hl : ss.length ≤ 60) (p : TH) (hp : PreP n (ss ++ [p])) (g : Nat) (hg : W.heap[g]? = some (.cells #[.int .i64 p.1, .int .i64 p.2.1, .string p.2.2.1, .string p.2.2.2] 107 (0, 0))) (hc : ∀ i, i < len → ∃ cb off, a = some ⟨cb, off, none⟩ ∧ cb < b + 1) :
    ∃ v' w', (Builtin.append_ #[23, 23] 23 #[v, .slice (some ⟨g, 0, none⟩) 1 1]).run Try.prog W = .ok v' w' ∧ StH w b a len cap m n w' v' (ss ++ [p]) ∧ (∀ j, j < W.heap.size → v.ownBlock ≠ some j → w'.heap[j]? = W.heap[j]?) := by
  obtain ⟨v', w', hrun, o, gr⟩ := app_hop v ss W (b + 1) h.own (by omega) p g hg h.sz
  have hB : Below (b + 1) W w' := own_belowX (Below.refl _ _) h.sz h.own gr
  exact ⟨v', w', hrun, ⟨o, hp, src_keep h.src hB hc, h.bel.trans (hB.mono (by omega)), Nat.le_trans h.sz hB.size⟩, fun j hj hne => gr.block j hj (fun e => hne e.symm)⟩
end
theorem div8 {r : Int} (h0 : 0 ≤ r) (h9 : r < 9) : ∃ Q : Int, r / 8 = Q ∧ r.tdiv 8 = Q ∧ 0 ≤ Q ∧ Q ≤ 1 := ⟨r / 8, rfl, Int.tdiv_eq_ediv_of_nonneg h0, by omega, by omega⟩
theorem PreP.ended {n tx Q : Int} {ss : List TH} (h : PreP n ss) (q0 : 0 ≤ Q) (q1 : Q ≤ 1) (t0 : 0 ≤ tx) (t1 : tx < n) (n4 : n ≤ 4) (hd : ∀ i, i < ss.length → ¬ EndAt ss tx i) : PreP n (ss ++ [(tx, 3 + Q, ⟨#[]⟩, ⟨#[]⟩)]) :=
  h.snoc ⟨⟨t0, by simp; omega⟩, .inr (.inr ⟨by simp; omega, rfl, rfl⟩)⟩ t0 t1 hd
theorem StH.next9 {w W : World} {b : Nat} {a : Option Addr} {len cap m : Nat} {n : Int} {v : Value} {ss : List TH} {g : Nat} {tx : Int} (h : StH w b a len cap m n W v ss) (hm : m ≤ 100000) (x : W.cell? ⟨g, 0, none⟩ = some (.int .i64 tx)) (hg : g ≠ b) :
    Calls Try.prog 100 #[.pointer (some ⟨b, 0, none⟩), .int .i64 9] W.drew fun e w' => ∃ Q r : Int, e = .returned (.int .i64 r) ∧ r / 8 = Q ∧ r.tdiv 8 = Q ∧ 0 ≤ Q ∧ Q ≤ 1 ∧ IntKind.i64.wrap Q = Q ∧ IntKind.i64.wrap (3 + Q) = 3 + Q ∧ 0 ≤ r ∧ r < 9 ∧ w'.cell? ⟨g, 0, none⟩ = some (.int .i64 tx) ∧ StH w b a len cap (m + 1) n w' v ss := by
  have h' : StH w b a len cap m n W.drew v ss := h.keep ((Below.refl _ _).drew)
  refine (next_any 9 h'.src hm (by omega) (by omega)).mono ?_
  rintro e wA ⟨r, rfl, r0, r9, hs, hb⟩
  obtain ⟨Q, q1, q2, q3, q4⟩ := div8 r0 r9
  have hlt : g < W.drew.heap.size := World.block_lt_of_cell? W ⟨g, 0, none⟩ x
  exact ⟨Q, r, rfl, q1, q2, q3, q4, by simp [IntKind.wrap, IntKind.signed, IntKind.bits]; omega, by simp [IntKind.wrap, IntKind.signed, IntKind.bits]; omega, r0, r9, (hb.cell (p := ⟨g, 0, none⟩) hlt hg).trans x, h'.draw hs hb⟩
theorem StH.app9 {w W : World} {b : Nat} {a : Option Addr} {len cap m : Nat} {n : Int} {v : Value} {ss : List TH} {tx Q : Int} (h : StH w b a len cap m n W v ss) (hl : ss.length ≤ 60) (q0 : 0 ≤ Q) (q1 : Q ≤ 1) (t0 : 0 ≤ tx) (t1 : tx < n) (n4 : n ≤ 4) (hd : ∀ i, i < ss.length → ¬ EndAt ss tx i) (hc : ∀ i, i < len → ∃ cb off, a = some ⟨cb, off, none⟩ ∧ cb < b + 1) :
    ∃ vB wB, (Builtin.append_ #[23, 23] 23 #[v, .slice (some ⟨W.heap.size, 0, none⟩) 1 1]).run Try.prog (W.alloc (.cells #[.int .i64 tx, .int .i64 (3 + Q), .string ⟨#[]⟩, .string ⟨#[]⟩] 107)) = .ok vB wB ∧ StH w b a len cap m n wB vB (ss ++ [(tx, 3 + Q, ⟨#[]⟩, ⟨#[]⟩)]) := by
  obtain ⟨v', w', h1, h2, _⟩ := (h.keep ((Below.refl _ _).alloc (Nat.le_refl _) (.cells #[.int .i64 tx, .int .i64 (3 + Q), .string ⟨#[]⟩, .string ⟨#[]⟩] 107))).app hl (tx, 3 + Q, ⟨#[]⟩, ⟨#[]⟩) (PreP.ended h.pre q0 q1 t0 t1 n4 hd) W.heap.size (heap_new' _ _ _ rfl) hc
  exact ⟨v', w', h1, h2⟩

set_option maxRecDepth 100000 in
set_option maxHeartbeats 8000000 in
theorem history_any {w : World} {b : Nat} {a : Option Addr} {len cap : Nat} (h : Src w b a len cap 0) (hc : ∀ i, i < len → ∃ cb off, a = some ⟨cb, off, none⟩ ∧ cb < b + 1) :
    Calls Try.prog 66 #[.pointer (some ⟨b, 0, none⟩)] w fun e w' => ∃ v ss, e = .returned v ∧ OwnH w' b v ss ∧ HistP ss ∧ Below b w w' := by
  have HCB : Hid (∀ i, i < len → ∃ cb off, a = some ⟨cb, off, none⟩ ∧ cb < b + 1) := hc
  have hbw := h.lt
  obtain ⟨i0, hi, hz0, hz1, hz2⟩ := info_parts info107
  have A1 : Below w.heap.size w (w.alloc (.cells #[] 107)) := (Below.refl _ _).alloc (Nat.le_refl _) _
  have hs1 := h.below A1
  have HO1 : Hid (OwnH (w.alloc (.cells #[] 107)) (b + 1) (.slice (some ⟨w.heap.size, 0, none⟩) 0 0) []) := own_mono (OwnH.made w w.heap.size (Nat.le_refl _)) (by omega)
  have B1 : Below b w (w.alloc (.cells #[] 107)) := A1.mono (by omega)
  clear h hc A1
  go_enter Try.func66, Try.ntmps66
  go_wp2_with fail
  refine (next_any 4 hs1 (by omega) (by omega) (by omega)).mono ?_
  rintro e w2 ⟨r, rfl, r0, r4, hs2, but2⟩
  have HO2 : Hid (OwnH w2 (b + 1) (.slice (some ⟨w.heap.size, 0, none⟩) 0 0) []) := own_but HO1.out but2
  have B2 : Below b w w2 := but2.below B1 (Nat.le_refl _) (by simp; omega)
  have hz2' : b + 1 ≤ w2.heap.size := by have := but2.size; simp at this; omega
  obtain ⟨n, hn⟩ : ∃ n : Int, n = 1 + r := ⟨_, rfl⟩
  have HNR : Hid (n = 1 + r) := hn
  have n1 : 1 ≤ n := by omega
  have n4 : n ≤ 4 := by omega
  clear hs1 HO1 B1 but2 hn
  go_wp2_with (first | (go_at_call 101; refine (size_any hs2).mono ?_; rintro e w' ⟨q, rfl, q1, q16, hw'⟩; obtain rfl := hw'.symm) | fail)
  refine (next_all (q + 4) hs2 (by omega) (by omega) (by omega)).mono ?_
  rintro e w3 ⟨r3, rfl, r30, r34, hs3, but3⟩
  have HO3 : Hid (OwnH w3 (b + 1) (.slice (some ⟨w.heap.size, 0, none⟩) 0 0) []) := own_but HO2.out but3
  have B3 : Below b w w3 := but3.below B2 (Nat.le_refl _) (by omega)
  have hz3 : b + 1 ≤ w3.heap.size := by have := but3.size; omega
  obtain ⟨k0, rfl⟩ : ∃ k : Nat, r3 = (k : Int) := ⟨r3.toNat, by omega⟩
  have HS3 : Hid (StH w b a len cap 2 n w3 (.slice (some ⟨w.heap.size, 0, none⟩) 0 0) []) := ⟨HO3.out, PreP.nil n, hs3, B3, hz3⟩
  have HK0 : Hid (k0 < 20) := (by omega : k0 < 20)
  clear hs2 HO2 B2 hz2' but3 HO3 hs3
  have hen : 1 + r = n := HNR.out.symm
  go_wp2
  try rw [hen]
  clear hen HNR
  go_loopw [3, 5] (fun v i wr => ∃ (k m : Nat) (ss : List TH), i = .int .i64 k ∧ k ≤ 20 ∧ m + 10 * k ≤ 300 ∧ ss.length ≤ 55 ∧ Hid (StH w b a len cap m n wr v ss)) (fun _ i _ => (intOf i).toNat)
  case atStart => exact ⟨k0, 2, [], rfl, by have := HK0.out; omega, by have := HK0.out; omega, by simp, HS3⟩
  case round =>
    clear HS3 B3 hz3 HK0
    obtain ⟨k, m, ss, rfl, hk20, hmk, hl5, HSR⟩ := hrel
    have HO : Hid (OwnH wr (b + 1) u3 ss ∧ PreP n ss ∧ Src wr b a len cap m) := ⟨HSR.out.own, HSR.out.pre, HSR.out.src⟩
    have hbl : Below b w wr := HSR.out.bel
    have hzr : b + 1 ≤ wr.heap.size := HSR.out.sz
    obtain ⟨a3, c3, rfl, r3, _⟩ := (show ∃ a3 c3, u3 = .slice a3 ss.length c3 ∧ RowH wr a3 ss ∧ True from by
      obtain ⟨x, y, e, z⟩ := HO.out.1.row HO.out.2.1.small
      exact ⟨x, y, e, z, trivial⟩)
    obtain ⟨n3, hn3⟩ : ∃ m, ss.length = m := ⟨_, rfl⟩
    have HN3 : Hid (ss.length = n3) := hn3
    rw [hn3] at HO HSR hl5 ⊢
    clear hn3 r3
    by_cases hk0 : k = 0
    · have hkI : ¬ (0 : Int) < (k : Int) := by omega
      by_cases hone : True
      · have HX : Hid (OwnH wr (b + 1) (.slice a3 n3 c3) ss ∧ PreP n ss ∧ Src wr b a len cap m) := HO
        go_wp2
        go_loopw [3, 7] (fun v i wr => ∃ (t m : Nat) (ss : List TH), i = .int .i64 t ∧ (t : Int) ≤ n ∧ m ≤ 400 ∧ ss.length ≤ 56 + t ∧ Hid (OwnH wr (b + 1) v ss ∧ PreP n ss ∧ (∀ u : Int, 0 ≤ u → u < t → ∃ j, j < ss.length ∧ EndAt ss u j)) ∧ Below b w wr ∧ b + 1 ≤ wr.heap.size) (fun _ i _ => 10 - (intOf i).toNat)
        case atStart => exact ⟨0, m, ss, rfl, by omega, by omega, by rw [HN3.out]; omega, ⟨HX.out.1, HX.out.2.1, fun u h1 h2 => by omega⟩, hbl, hzr⟩
        case round =>
          clear HX HO HN3 hbl hzr HSR
          obtain ⟨t, m, ss, rfl, htn, hm4, hl4, HO, hbl, hzr⟩ := hrel
          by_cases hlt : (t : Int) < n
          · have hd := done_own (t : Int) HO.out.1 HO.out.2.1 (by omega)
            go_wp2_with fail
            refine hd.mono ?_
            rintro e w2 ⟨r, rfl, hdi, hw2⟩
            obtain rfl := hw2.symm
            clear hd
            by_cases hr : r < 0
            · have HDN : Hid (∀ i, i < ss.length → ¬ EndAt ss t i) := hdi.no hr
              clear hdi
              go_wp2_with (at_builtin; refine wpList_append_own _ rfl _ _ 23 rfl (b + 1) 107 i0 (.agg #[.int .i64 0, .int .i64 0, .string ⟨#[]⟩, .string ⟨#[]⟩]) 4 48 Try.underlying23 hi hz0 hz1 hz2 rfl (by decide) _ _ _ rfl (HO.out.1.alloc _) ⟨wr.heap.size, 0, none⟩ 1 1 [.int .i64 t, .int .i64 3, .string ⟨#[]⟩, .string ⟨#[]⟩] rfl rfl ?m0 ?m4 ?m1 ?m2 ?m3 ?_)
              case m0 => exact cell_four_new _ _ _ _ _ _
              case m4 => intro u hu; simp at hu; rcases hu with rfl | rfl | rfl <;> rfl
              case m1 => unfold maxLen; omega
              case m2 => omega
              case m3 => first | omega | (simp; omega)
              intro v' w4 o4 gr4 _
              have HO4 : Hid (OwnH w4 (b + 1) v' (ss ++ [((t : Int), 3, ⟨#[]⟩, ⟨#[]⟩)])) := OwnH.snoc (p := ((t : Int), 3, ⟨#[]⟩, ⟨#[]⟩)) o4
              have B4 : Hid (Below b w w4) := hbl.trans ((own_belowX ((Below.refl _ _).alloc (by omega) _) (by simp; omega) (HO.out.1.alloc _) gr4 : Below (b + 1) wr w4).mono (by omega))
              have hz4 : b + 1 ≤ w4.heap.size := by have := (own_belowX ((Below.refl _ _).alloc (by omega) _) (by simp; omega) (HO.out.1.alloc _) gr4 : Below (b + 1) wr w4).size; omega
              have HP4 : Hid (PreP n (ss ++ [((t : Int), 3, ⟨#[]⟩, ⟨#[]⟩)])) := HO.out.2.1.snoc ⟨⟨by simp, by simp; omega⟩, .inr (.inr ⟨.inl rfl, rfl, rfl⟩)⟩ (by simp) hlt HDN.out
              have HE4 : Hid (∀ u : Int, 0 ≤ u → u < ((t + 1 : Nat) : Int) → ∃ j, j < (ss ++ [((t : Int), 3, (⟨#[]⟩ : ByteArray), (⟨#[]⟩ : ByteArray))]).length ∧ EndAt (ss ++ [((t : Int), 3, ⟨#[]⟩, ⟨#[]⟩)]) u j) := fun u h1 h2 => by
                by_cases e : u = t
                · subst e; exact end_last ss (x := ((t : Int), 3, ⟨#[]⟩, ⟨#[]⟩)) (by simp)
                · exact end_left (HO.out.2.2 u h1 (by omega))
              clear o4 gr4 HO hbl hzr HDN
              go_wp2
              go_roundw
              case rel => exact ⟨t + 1, m, _, by go_num, by omega, hm4, by simp; omega, ⟨HO4.out, HP4.out, HE4.out⟩, B4.out, hz4⟩
              case measure => simp [intOf]; omega
            · have HE4 : Hid (∀ u : Int, 0 ≤ u → u < ((t + 1 : Nat) : Int) → ∃ j, j < ss.length ∧ EndAt ss u j) := fun u h1 h2 => by
                by_cases e : u = t
                · subst e; exact hdi.yes hr
                · exact HO.out.2.2 u h1 (by omega)
              clear hdi
              go_wp2
              go_roundw
              case rel => exact ⟨t + 1, m, ss, by go_num, by omega, hm4, by omega, ⟨HO.out.1, HO.out.2.1, HE4.out⟩, hbl, hzr⟩
              case measure => simp [intOf]; omega
          · have HF : Hid (OwnH wr b u3 ss ∧ HistP ss) := ⟨own_mono HO.out.1 (by omega), HO.out.2.1.hist (by omega) (fun u h1 h2 => HO.out.2.2 u h1 (by omega))⟩
            go_wp2
            go_ret
            exact ⟨_, rfl, ss, HF.out.1, HF.out.2, hbl⟩
      · exact absurd trivial hone
    · have hkI : (0 : Int) < (k : Int) := by omega
      by_cases hl54 : (n3 : Int) < 54
      · have hs := HO.out.2.2
        go_wp2_with fail
        refine (next_all n hs (by omega) (by omega) (by omega)).mono ?_
        rintro e w2 ⟨tx, rfl, tx0, txn, hs2, but2⟩
        have HS2 : Hid (StH w b a len cap (m + 1) n w2 (.slice a3 n3 c3) ss) := HSR.out.draw hs2 but2
        clear hs HO hbl hzr HSR hs2 but2
        go_wp2_with fail
        refine (next_any 2 HS2.out.src (by omega) (by omega) (by omega)).mono ?_
        rintro e w3 ⟨kd, rfl, kd0, kd1, hs3, but3⟩
        have HS3 : Hid (StH w b a len cap (m + 1 + 1) n (w3.alloc (.cells #[.string ⟨#[97]⟩, .string ⟨#[98]⟩, .string ⟨#[99]⟩] 9)) (.slice a3 n3 c3) ss) := (HS2.out.draw hs3 but3).keep ((Below.refl _ _).alloc (Nat.le_refl _) _)
        have hz3 : b + 1 ≤ w3.heap.size := (HS2.out.draw hs3 but3).sz
        have hpk := pick_any HS3.out.src (by omega) w3.heap.size ⟨#[97]⟩ ⟨#[98]⟩ ⟨#[99]⟩ (heap_new' _ _ _ rfl) (by omega) rfl rfl rfl
        clear hs3 but3 HS2
        go_wp2_with fail
        refine hpk.mono ?_
        rintro e w5 ⟨ky, rfl, zky, hs5, but5⟩
        have HS5 : Hid (StH w b a len cap (m + 1 + 1 + 1) n w5 (.slice a3 n3 c3) ss) := HS3.out.draw hs5 but5
        have hz5 : b + 1 ≤ w5.heap.size := HS5.out.sz
        have HXO : Hid ((.slice a3 n3 c3 : Value).ownBlock ≠ some w5.heap.size) := fun e => by have := (own_lt HS5.out.own e).2; omega
        have HK5 : Hid (KeyP ky) := ⟨by omega, by omega⟩
        clear hpk HS3 hz3 hs5 but5 zky
        have HS6 : Hid (StH w b a len cap (m + 1 + 1 + 1) n (w5.alloc (.cells #[.int .i64 tx, .int .i64 (1 + kd), .string ky, .string ⟨#[]⟩] 107)) (.slice a3 n3 c3) ss) := HS5.out.keep ((Below.refl _ _).alloc (Nat.le_refl _) _)
        have HX6 : (w5.alloc (.cells #[.int .i64 tx, .int .i64 (1 + kd), .string ky, .string ⟨#[]⟩] 107)).heap[w5.heap.size]? = some (.cells #[.int .i64 tx, .int .i64 (1 + kd), .string ky, .string ⟨#[]⟩] 107 (0, 0)) := heap_new' _ _ _ rfl
        by_cases hk1 : kd = 0
        · have hk2 : (1 + kd == 2) = false := by simp; omega
          have HOP : Hid (OpP (tx, 1 + kd, ky, ⟨#[]⟩)) := ⟨⟨tx0, by simp; omega⟩, .inl ⟨by simp; omega, HK5.out, rfl⟩⟩
          clear hk1
          go_wp2_with fail
          have hgb : w5.heap.size ≠ b := by omega
          generalize w5.alloc (.cells #[.int .i64 tx, .int .i64 (1 + kd), .string ky, .string ⟨#[]⟩] 107) = W6 at *
          clear HS5 hz5
          generalize w5.heap.size = g at *
          have HX := HX6
          clear HX6
          have hgWHS6 : g < W6.heap.size := slab_lt HX
          have y0 : W6.cell? ⟨g, 0, none⟩ = some (.int .i64 tx) := slab_cell HX
          have y1 : W6.cell? ⟨g, 1, none⟩ = some (.int .i64 (1 + kd)) := slab_cell HX
          have y2 : W6.cell? ⟨g, 2, none⟩ = some (.string ky) := slab_cell HX
          have y3 : W6.cell? ⟨g, 3, none⟩ = some (.string (⟨#[]⟩ : ByteArray)) := slab_cell HX
          have HXH : Hid (W6.heap[g]? = some (.cells #[.int .i64 tx, .int .i64 (1 + kd), .string ky, .string (⟨#[]⟩ : ByteArray)] 107 (0, 0))) := HX
          clear HX
          refine (done_own tx HS6.out.own HS6.out.pre (by rw [HN3.out]; omega)).mono ?_
          rintro e w7 ⟨r7, rfl, hdi, hw7⟩
          obtain rfl := hw7.symm
          by_cases hr7 : r7 < 0
          · have HP8 : Hid (PreP n (ss ++ [(tx, 1 + kd, ky, (⟨#[]⟩ : ByteArray))])) := HS6.out.pre.snoc HOP.out tx0 txn (hdi.no hr7)
            obtain ⟨v8, w8, hrun8, hS8, hk8⟩ := (HS6.out.keep ((Below.refl _ _).alloc (Nat.le_refl _) (.cells #[.int .i64 tx, .int .i64 (1 + kd), .string ky, .string (⟨#[]⟩ : ByteArray)] 107))).app (by rw [HN3.out]; omega) (tx, 1 + kd, ky, (⟨#[]⟩ : ByteArray)) HP8.out W6.heap.size (heap_new' _ _ _ rfl) HCB.out
            have H8 : Hid (StH w b a len cap (m + 1 + 1 + 1) n w8 v8 (ss ++ [(tx, 1 + kd, ky, (⟨#[]⟩ : ByteArray))])) := hS8
            have hX8 : w8.heap[g]? = some (.cells #[.int .i64 tx, .int .i64 (1 + kd), .string ky, .string (⟨#[]⟩ : ByteArray)] 107 (0, 0)) := (hk8 g (by simp; omega) HXO.out).trans ((heap_old _ _ _ hgWHS6).trans HXH.out)
            have hgWH8 : g < w8.heap.size := slab_lt hX8
            have z0 : w8.cell? ⟨g, 0, none⟩ = some (.int .i64 tx) := slab_cell hX8
            have hl8 : (ss ++ [(tx, 1 + kd, ky, (⟨#[]⟩ : ByteArray))]).length ≤ 54 := by rw [List.length_append, HN3.out]; simp; omega
            clear hS8 hk8 hX8 hdi HXH HXO HP8 HOP
            go_wp2_with (first | (at_builtin; refine Lib.wpList_append_run _ rfl _ _ _ _ rfl _ _ rfl rfl _ _ hrun8 ?_) | fail)
            clear hrun8 y0 y1 y2 y3 HS6 hgWHS6
            refine (chance_any H8.out.src (by omega)).mono ?_
            rintro e w9 ⟨c9, rfl, hs9, but9⟩
            have HS9 : Hid (StH w b a len cap ((m + 1 + 1 + 1) + 1) n w9 v8 (ss ++ [(tx, 1 + kd, ky, (⟨#[]⟩ : ByteArray))])) := H8.out.draw hs9 but9
            have x9 : w9.cell? ⟨g, 0, none⟩ = some (.int .i64 tx) := (but9.cell (p := ⟨g, 0, none⟩) hgWH8 hgb).trans z0
            have HL9 : Hid (((ss ++ [(tx, 1 + kd, ky, (⟨#[]⟩ : ByteArray))])).length ≤ 54) := hl8
            clear hs9 but9 z0 H8
            cases c9 with
            | false =>
              go_wp2
              go_roundw
              case rel => exact ⟨k - 1, (m + 1 + 1 + 1) + 1, (ss ++ [(tx, 1 + kd, ky, (⟨#[]⟩ : ByteArray))]), by go_num, by omega, by omega, by have := HL9.out; omega, HS9⟩
              case measure => simp [intOf]; omega
            | true =>
              go_wp2_with fail
              refine (done_own tx HS9.out.own HS9.out.pre (by have := HL9.out; omega)).mono ?_
              rintro e w10 ⟨r10, rfl, hdi10, hw10⟩
              obtain rfl := hw10.symm
              by_cases hr10 : r10 < 0
              · have HDN10 : Hid (∀ i, i < ((ss ++ [(tx, 1 + kd, ky, (⟨#[]⟩ : ByteArray))])).length → ¬ EndAt ((ss ++ [(tx, 1 + kd, ky, (⟨#[]⟩ : ByteArray))])) tx i) := hdi10.no hr10
                clear hdi10
                go_wp2_with fail
                have hnx := HS9.out.next9 (by omega) x9 hgb
                have hAp : ∀ (wA : World) (Q : Int), 0 ≤ Q → Q ≤ 1 → StH w b a len cap ((m + 1 + 1 + 1) + 1 + 1) n wA v8 (ss ++ [(tx, 1 + kd, ky, (⟨#[]⟩ : ByteArray))]) → ∃ vB wB, (Builtin.append_ #[23, 23] 23 #[v8, .slice (some ⟨wA.heap.size, 0, none⟩) 1 1]).run Try.prog (wA.alloc (.cells #[.int .i64 tx, .int .i64 (3 + Q), .string ⟨#[]⟩, .string ⟨#[]⟩] 107)) = .ok vB wB ∧ StH w b a len cap ((m + 1 + 1 + 1) + 1 + 1) n wB vB ((ss ++ [(tx, 1 + kd, ky, (⟨#[]⟩ : ByteArray))]) ++ [(tx, 3 + Q, ⟨#[]⟩, ⟨#[]⟩)]) := fun wA Q q0 q1 hA => hA.app9 (by have := HL9.out; omega) q0 q1 tx0 txn n4 HDN10.out HCB.out
                clear HDN10
                go_region_law (first | (refine step_append_run (by rfl) _ _ _ _ (by rfl) _ _ (by rfl) (by rfl) _ _ hrunB ?_) | (go_simp; refine hnx.mono ?_; rintro e wA ⟨Q, r12, rfl, hQ1, hQ2, hQ3, hQ4, hw1, hw2, r120, r129, xA, hSA⟩; obtain ⟨vB, wB, hrunB, hSB⟩ := hAp wA Q hQ3 hQ4 hSA; clear hSA))
                all_goals
                  have HSB : Hid (StH w b a len cap ((m + 1 + 1 + 1) + 1 + 1) n wB vB ((ss ++ [(tx, 1 + kd, ky, (⟨#[]⟩ : ByteArray))]) ++ [(tx, 3 + Q, ⟨#[]⟩, ⟨#[]⟩)])) := hSB
                  have hlB : ((ss ++ [(tx, 1 + kd, ky, (⟨#[]⟩ : ByteArray))]) ++ [(tx, 3 + Q, (⟨#[]⟩ : ByteArray), (⟨#[]⟩ : ByteArray))]).length ≤ 55 := by have := HL9.out; simp at this ⊢; omega
                  clear hSB hrunB
                  go_wp2
                  go_roundw
                  case rel => exact ⟨k - 1, (m + 1 + 1 + 1) + 1 + 1, _, by go_num, by omega, by omega, hlB, HSB⟩
                  case measure => simp [intOf]; omega
              · clear hdi10
                go_wp2
                go_roundw
                case rel => exact ⟨k - 1, (m + 1 + 1 + 1) + 1, (ss ++ [(tx, 1 + kd, ky, (⟨#[]⟩ : ByteArray))]), by go_num, by omega, by omega, by have := HL9.out; omega, HS9⟩
                case measure => simp [intOf]; omega
          · clear hdi HXH HXO HOP y1 y2 y3
            have hl9 : ss.length ≤ 54 := by rw [HN3.out]; omega
            go_wp2_with fail
            refine (chance_any HS6.out.src (by omega)).mono ?_
            rintro e w9 ⟨c9, rfl, hs9, but9⟩
            have HS9 : Hid (StH w b a len cap ((m + 1 + 1 + 1) + 1) n w9 (.slice a3 n3 c3) ss) := HS6.out.draw hs9 but9
            have x9 : w9.cell? ⟨g, 0, none⟩ = some (.int .i64 tx) := (but9.cell (p := ⟨g, 0, none⟩) hgWHS6 hgb).trans y0
            have HL9 : Hid ((ss).length ≤ 54) := hl9
            clear hs9 but9 y0 HS6
            cases c9 with
            | false =>
              go_wp2
              go_roundw
              case rel => exact ⟨k - 1, (m + 1 + 1 + 1) + 1, ss, by go_num, by omega, by omega, by have := HL9.out; omega, HS9⟩
              case measure => simp [intOf]; omega
            | true =>
              go_wp2_with fail
              refine (done_own tx HS9.out.own HS9.out.pre (by have := HL9.out; omega)).mono ?_
              rintro e w10 ⟨r10, rfl, hdi10, hw10⟩
              obtain rfl := hw10.symm
              by_cases hr10 : r10 < 0
              · have HDN10 : Hid (∀ i, i < (ss).length → ¬ EndAt (ss) tx i) := hdi10.no hr10
                clear hdi10
                go_wp2_with fail
                have hnx := HS9.out.next9 (by omega) x9 hgb
                have hAp : ∀ (wA : World) (Q : Int), 0 ≤ Q → Q ≤ 1 → StH w b a len cap ((m + 1 + 1 + 1) + 1 + 1) n wA (.slice a3 n3 c3) ss → ∃ vB wB, (Builtin.append_ #[23, 23] 23 #[(.slice a3 n3 c3), .slice (some ⟨wA.heap.size, 0, none⟩) 1 1]).run Try.prog (wA.alloc (.cells #[.int .i64 tx, .int .i64 (3 + Q), .string ⟨#[]⟩, .string ⟨#[]⟩] 107)) = .ok vB wB ∧ StH w b a len cap ((m + 1 + 1 + 1) + 1 + 1) n wB vB (ss ++ [(tx, 3 + Q, ⟨#[]⟩, ⟨#[]⟩)]) := fun wA Q q0 q1 hA => hA.app9 (by have := HL9.out; omega) q0 q1 tx0 txn n4 HDN10.out HCB.out
                clear HDN10
                go_region_law (first | (refine step_append_run (by rfl) _ _ _ _ (by rfl) _ _ (by rfl) (by rfl) _ _ hrunB ?_) | (go_simp; refine hnx.mono ?_; rintro e wA ⟨Q, r12, rfl, hQ1, hQ2, hQ3, hQ4, hw1, hw2, r120, r129, xA, hSA⟩; obtain ⟨vB, wB, hrunB, hSB⟩ := hAp wA Q hQ3 hQ4 hSA; clear hSA))
                all_goals
                  have HSB : Hid (StH w b a len cap ((m + 1 + 1 + 1) + 1 + 1) n wB vB (ss ++ [(tx, 3 + Q, ⟨#[]⟩, ⟨#[]⟩)])) := hSB
                  have hlB : (ss ++ [(tx, 3 + Q, (⟨#[]⟩ : ByteArray), (⟨#[]⟩ : ByteArray))]).length ≤ 55 := by have := HL9.out; simp at this ⊢; omega
                  clear hSB hrunB
                  go_wp2
                  go_roundw
                  case rel => exact ⟨k - 1, (m + 1 + 1 + 1) + 1 + 1, _, by go_num, by omega, by omega, hlB, HSB⟩
                  case measure => simp [intOf]; omega
              · clear hdi10
                go_wp2
                go_roundw
                case rel => exact ⟨k - 1, (m + 1 + 1 + 1) + 1, ss, by go_num, by omega, by omega, by have := HL9.out; omega, HS9⟩
                case measure => simp [intOf]; omega

        · have hk2 : (1 + kd == 2) = true := by simp; omega
          have HS7 : Hid (StH w b a len cap (m + 1 + 1 + 1) n ((w5.alloc (.cells #[.int .i64 tx, .int .i64 (1 + kd), .string ky, .string ⟨#[]⟩] 107)).alloc (.cells #[.string ⟨#[49]⟩, .string ⟨#[50]⟩, .string ⟨#[51]⟩] 9)) (.slice a3 n3 c3) ss) := HS6.out.keep ((Below.refl _ _).alloc (Nat.le_refl _) _)
          have HX7 : ((w5.alloc (.cells #[.int .i64 tx, .int .i64 (1 + kd), .string ky, .string ⟨#[]⟩] 107)).alloc (.cells #[.string ⟨#[49]⟩, .string ⟨#[50]⟩, .string ⟨#[51]⟩] 9)).heap[w5.heap.size]? = some (.cells #[.int .i64 tx, .int .i64 (1 + kd), .string ky, .string ⟨#[]⟩] 107 (0, 0)) := (heap_old _ _ _ (by simp)).trans HX6
          have hpk := pick_any HS7.out.src (by omega) (w5.heap.size + 1) ⟨#[49]⟩ ⟨#[50]⟩ ⟨#[51]⟩ (heap_new' _ _ _ (by simp)) (by omega) rfl rfl rfl
          clear HS6 HX6
          go_wp2_with fail
          refine hpk.mono ?_
          rintro e w6 ⟨va, rfl, zva, hs6, but6⟩
          have HS8 : Hid (StH w b a len cap (m + 1 + 1 + 1 + 1) n w6 (.slice a3 n3 c3) ss) := HS7.out.draw hs6 but6
          have hgb : w5.heap.size ≠ b := by omega
          have HX8 : w6.heap[w5.heap.size]? = some (.cells #[.int .i64 tx, .int .i64 (1 + kd), .string ky, .string ⟨#[]⟩] 107 (0, 0)) := (but6.block _ (by simp; omega) hgb).trans HX7
          have hfr : w6.frozen? ⟨w5.heap.size, 3, none⟩ = false := slab_free HX8
          have c0 : w6.cell? ⟨w5.heap.size, 0, none⟩ = some (.int .i64 tx) := slab_cell HX8
          have c3' : w6.cell? ⟨w5.heap.size, 3, none⟩ = some (.string ⟨#[]⟩) := slab_cell HX8
          have HOP : Hid (OpP (tx, 1 + kd, ky, va)) := ⟨⟨tx0, by simp; omega⟩, .inr (.inl ⟨by simp; omega, HK5.out, by simp; omega⟩)⟩
          have HS6 : Hid (StH w b a len cap (m + 1 + 1 + 1 + 1) n (w6.setCell ⟨w5.heap.size, 3, none⟩ (.string va)) (.slice a3 n3 c3) ss) := HS8.out.set w5.heap.size 3 _ (by omega) HXO.out HCB.out
          have HX : (w6.setCell ⟨w5.heap.size, 3, none⟩ (.string va)).heap[w5.heap.size]? = some (.cells #[.int .i64 tx, .int .i64 (1 + kd), .string ky, .string va] 107 (0, 0)) := slab_set HX8 _
          clear hpk HS7 HX7 hs6 but6 HS8 HX8 zva
          go_wp2_with fail
          generalize w6.setCell ⟨w5.heap.size, 3, none⟩ (.string va) = W6 at *
          clear HS5 hz5 hfr c0 c3'
          generalize w5.heap.size = g at *
          have hgWHS6 : g < W6.heap.size := slab_lt HX
          have y0 : W6.cell? ⟨g, 0, none⟩ = some (.int .i64 tx) := slab_cell HX
          have y1 : W6.cell? ⟨g, 1, none⟩ = some (.int .i64 (1 + kd)) := slab_cell HX
          have y2 : W6.cell? ⟨g, 2, none⟩ = some (.string ky) := slab_cell HX
          have y3 : W6.cell? ⟨g, 3, none⟩ = some (.string va) := slab_cell HX
          have HXH : Hid (W6.heap[g]? = some (.cells #[.int .i64 tx, .int .i64 (1 + kd), .string ky, .string va] 107 (0, 0))) := HX
          clear HX
          refine (done_own tx HS6.out.own HS6.out.pre (by rw [HN3.out]; omega)).mono ?_
          rintro e w7 ⟨r7, rfl, hdi, hw7⟩
          obtain rfl := hw7.symm
          by_cases hr7 : r7 < 0
          · have HP8 : Hid (PreP n (ss ++ [(tx, 1 + kd, ky, va)])) := HS6.out.pre.snoc HOP.out tx0 txn (hdi.no hr7)
            obtain ⟨v8, w8, hrun8, hS8, hk8⟩ := (HS6.out.keep ((Below.refl _ _).alloc (Nat.le_refl _) (.cells #[.int .i64 tx, .int .i64 (1 + kd), .string ky, .string va] 107))).app (by rw [HN3.out]; omega) (tx, 1 + kd, ky, va) HP8.out W6.heap.size (heap_new' _ _ _ rfl) HCB.out
            have H8 : Hid (StH w b a len cap (m + 1 + 1 + 1 + 1) n w8 v8 (ss ++ [(tx, 1 + kd, ky, va)])) := hS8
            have hX8 : w8.heap[g]? = some (.cells #[.int .i64 tx, .int .i64 (1 + kd), .string ky, .string va] 107 (0, 0)) := (hk8 g (by simp; omega) HXO.out).trans ((heap_old _ _ _ hgWHS6).trans HXH.out)
            have hgWH8 : g < w8.heap.size := slab_lt hX8
            have z0 : w8.cell? ⟨g, 0, none⟩ = some (.int .i64 tx) := slab_cell hX8
            have hl8 : (ss ++ [(tx, 1 + kd, ky, va)]).length ≤ 54 := by rw [List.length_append, HN3.out]; simp; omega
            clear hS8 hk8 hX8 hdi HXH HXO HP8 HOP
            go_wp2_with (first | (at_builtin; refine Lib.wpList_append_run _ rfl _ _ _ _ rfl _ _ rfl rfl _ _ hrun8 ?_) | fail)
            clear hrun8 y0 y1 y2 y3 HS6 hgWHS6
            refine (chance_any H8.out.src (by omega)).mono ?_
            rintro e w9 ⟨c9, rfl, hs9, but9⟩
            have HS9 : Hid (StH w b a len cap ((m + 1 + 1 + 1 + 1) + 1) n w9 v8 (ss ++ [(tx, 1 + kd, ky, va)])) := H8.out.draw hs9 but9
            have x9 : w9.cell? ⟨g, 0, none⟩ = some (.int .i64 tx) := (but9.cell (p := ⟨g, 0, none⟩) hgWH8 hgb).trans z0
            have HL9 : Hid (((ss ++ [(tx, 1 + kd, ky, va)])).length ≤ 54) := hl8
            clear hs9 but9 z0 H8
            cases c9 with
            | false =>
              go_wp2
              go_roundw
              case rel => exact ⟨k - 1, (m + 1 + 1 + 1 + 1) + 1, (ss ++ [(tx, 1 + kd, ky, va)]), by go_num, by omega, by omega, by have := HL9.out; omega, HS9⟩
              case measure => simp [intOf]; omega
            | true =>
              go_wp2_with fail
              refine (done_own tx HS9.out.own HS9.out.pre (by have := HL9.out; omega)).mono ?_
              rintro e w10 ⟨r10, rfl, hdi10, hw10⟩
              obtain rfl := hw10.symm
              by_cases hr10 : r10 < 0
              · have HDN10 : Hid (∀ i, i < ((ss ++ [(tx, 1 + kd, ky, va)])).length → ¬ EndAt ((ss ++ [(tx, 1 + kd, ky, va)])) tx i) := hdi10.no hr10
                clear hdi10
                go_wp2_with fail
                have hnx := HS9.out.next9 (by omega) x9 hgb
                have hAp : ∀ (wA : World) (Q : Int), 0 ≤ Q → Q ≤ 1 → StH w b a len cap ((m + 1 + 1 + 1 + 1) + 1 + 1) n wA v8 (ss ++ [(tx, 1 + kd, ky, va)]) → ∃ vB wB, (Builtin.append_ #[23, 23] 23 #[v8, .slice (some ⟨wA.heap.size, 0, none⟩) 1 1]).run Try.prog (wA.alloc (.cells #[.int .i64 tx, .int .i64 (3 + Q), .string ⟨#[]⟩, .string ⟨#[]⟩] 107)) = .ok vB wB ∧ StH w b a len cap ((m + 1 + 1 + 1 + 1) + 1 + 1) n wB vB ((ss ++ [(tx, 1 + kd, ky, va)]) ++ [(tx, 3 + Q, ⟨#[]⟩, ⟨#[]⟩)]) := fun wA Q q0 q1 hA => hA.app9 (by have := HL9.out; omega) q0 q1 tx0 txn n4 HDN10.out HCB.out
                clear HDN10
                go_region_law (first | (refine step_append_run (by rfl) _ _ _ _ (by rfl) _ _ (by rfl) (by rfl) _ _ hrunB ?_) | (go_simp; refine hnx.mono ?_; rintro e wA ⟨Q, r12, rfl, hQ1, hQ2, hQ3, hQ4, hw1, hw2, r120, r129, xA, hSA⟩; obtain ⟨vB, wB, hrunB, hSB⟩ := hAp wA Q hQ3 hQ4 hSA; clear hSA))
                all_goals
                  have HSB : Hid (StH w b a len cap ((m + 1 + 1 + 1 + 1) + 1 + 1) n wB vB ((ss ++ [(tx, 1 + kd, ky, va)]) ++ [(tx, 3 + Q, ⟨#[]⟩, ⟨#[]⟩)])) := hSB
                  have hlB : ((ss ++ [(tx, 1 + kd, ky, va)]) ++ [(tx, 3 + Q, (⟨#[]⟩ : ByteArray), (⟨#[]⟩ : ByteArray))]).length ≤ 55 := by have := HL9.out; simp at this ⊢; omega
                  clear hSB hrunB
                  go_wp2
                  go_roundw
                  case rel => exact ⟨k - 1, (m + 1 + 1 + 1 + 1) + 1 + 1, _, by go_num, by omega, by omega, hlB, HSB⟩
                  case measure => simp [intOf]; omega
              · clear hdi10
                go_wp2
                go_roundw
                case rel => exact ⟨k - 1, (m + 1 + 1 + 1 + 1) + 1, (ss ++ [(tx, 1 + kd, ky, va)]), by go_num, by omega, by omega, by have := HL9.out; omega, HS9⟩
                case measure => simp [intOf]; omega
          · clear hdi HXH HXO HOP y1 y2 y3
            have hl9 : ss.length ≤ 54 := by rw [HN3.out]; omega
            go_wp2_with fail
            refine (chance_any HS6.out.src (by omega)).mono ?_
            rintro e w9 ⟨c9, rfl, hs9, but9⟩
            have HS9 : Hid (StH w b a len cap ((m + 1 + 1 + 1 + 1) + 1) n w9 (.slice a3 n3 c3) ss) := HS6.out.draw hs9 but9
            have x9 : w9.cell? ⟨g, 0, none⟩ = some (.int .i64 tx) := (but9.cell (p := ⟨g, 0, none⟩) hgWHS6 hgb).trans y0
            have HL9 : Hid ((ss).length ≤ 54) := hl9
            clear hs9 but9 y0 HS6
            cases c9 with
            | false =>
              go_wp2
              go_roundw
              case rel => exact ⟨k - 1, (m + 1 + 1 + 1 + 1) + 1, ss, by go_num, by omega, by omega, by have := HL9.out; omega, HS9⟩
              case measure => simp [intOf]; omega
            | true =>
              go_wp2_with fail
              refine (done_own tx HS9.out.own HS9.out.pre (by have := HL9.out; omega)).mono ?_
              rintro e w10 ⟨r10, rfl, hdi10, hw10⟩
              obtain rfl := hw10.symm
              by_cases hr10 : r10 < 0
              · have HDN10 : Hid (∀ i, i < (ss).length → ¬ EndAt (ss) tx i) := hdi10.no hr10
                clear hdi10
                go_wp2_with fail
                have hnx := HS9.out.next9 (by omega) x9 hgb
                have hAp : ∀ (wA : World) (Q : Int), 0 ≤ Q → Q ≤ 1 → StH w b a len cap ((m + 1 + 1 + 1 + 1) + 1 + 1) n wA (.slice a3 n3 c3) ss → ∃ vB wB, (Builtin.append_ #[23, 23] 23 #[(.slice a3 n3 c3), .slice (some ⟨wA.heap.size, 0, none⟩) 1 1]).run Try.prog (wA.alloc (.cells #[.int .i64 tx, .int .i64 (3 + Q), .string ⟨#[]⟩, .string ⟨#[]⟩] 107)) = .ok vB wB ∧ StH w b a len cap ((m + 1 + 1 + 1 + 1) + 1 + 1) n wB vB (ss ++ [(tx, 3 + Q, ⟨#[]⟩, ⟨#[]⟩)]) := fun wA Q q0 q1 hA => hA.app9 (by have := HL9.out; omega) q0 q1 tx0 txn n4 HDN10.out HCB.out
                clear HDN10
                go_region_law (first | (refine step_append_run (by rfl) _ _ _ _ (by rfl) _ _ (by rfl) (by rfl) _ _ hrunB ?_) | (go_simp; refine hnx.mono ?_; rintro e wA ⟨Q, r12, rfl, hQ1, hQ2, hQ3, hQ4, hw1, hw2, r120, r129, xA, hSA⟩; obtain ⟨vB, wB, hrunB, hSB⟩ := hAp wA Q hQ3 hQ4 hSA; clear hSA))
                all_goals
                  have HSB : Hid (StH w b a len cap ((m + 1 + 1 + 1 + 1) + 1 + 1) n wB vB (ss ++ [(tx, 3 + Q, ⟨#[]⟩, ⟨#[]⟩)])) := hSB
                  have hlB : (ss ++ [(tx, 3 + Q, (⟨#[]⟩ : ByteArray), (⟨#[]⟩ : ByteArray))]).length ≤ 55 := by have := HL9.out; simp at this ⊢; omega
                  clear hSB hrunB
                  go_wp2
                  go_roundw
                  case rel => exact ⟨k - 1, (m + 1 + 1 + 1 + 1) + 1 + 1, _, by go_num, by omega, by omega, hlB, HSB⟩
                  case measure => simp [intOf]; omega
              · clear hdi10
                go_wp2
                go_roundw
                case rel => exact ⟨k - 1, (m + 1 + 1 + 1 + 1) + 1, ss, by go_num, by omega, by omega, by have := HL9.out; omega, HS9⟩
                case measure => simp [intOf]; omega

      · have HX : Hid (OwnH wr (b + 1) (.slice a3 n3 c3) ss ∧ PreP n ss ∧ Src wr b a len cap m) := HO
        go_wp2
        go_loopw [3, 7] (fun v i wr => ∃ (t m : Nat) (ss : List TH), i = .int .i64 t ∧ (t : Int) ≤ n ∧ m ≤ 400 ∧ ss.length ≤ 56 + t ∧ Hid (OwnH wr (b + 1) v ss ∧ PreP n ss ∧ (∀ u : Int, 0 ≤ u → u < t → ∃ j, j < ss.length ∧ EndAt ss u j)) ∧ Below b w wr ∧ b + 1 ≤ wr.heap.size) (fun _ i _ => 10 - (intOf i).toNat)
        case atStart => exact ⟨0, m, ss, rfl, by omega, by omega, by rw [HN3.out]; omega, ⟨HX.out.1, HX.out.2.1, fun u h1 h2 => by omega⟩, hbl, hzr⟩
        case round =>
          clear HX HO HN3 hbl hzr HSR
          obtain ⟨t, m, ss, rfl, htn, hm4, hl4, HO, hbl, hzr⟩ := hrel
          by_cases hlt : (t : Int) < n
          · have hd := done_own (t : Int) HO.out.1 HO.out.2.1 (by omega)
            go_wp2_with fail
            refine hd.mono ?_
            rintro e w2 ⟨r, rfl, hdi, hw2⟩
            obtain rfl := hw2.symm
            clear hd
            by_cases hr : r < 0
            · have HDN : Hid (∀ i, i < ss.length → ¬ EndAt ss t i) := hdi.no hr
              clear hdi
              go_wp2_with (at_builtin; refine wpList_append_own _ rfl _ _ 23 rfl (b + 1) 107 i0 (.agg #[.int .i64 0, .int .i64 0, .string ⟨#[]⟩, .string ⟨#[]⟩]) 4 48 Try.underlying23 hi hz0 hz1 hz2 rfl (by decide) _ _ _ rfl (HO.out.1.alloc _) ⟨wr.heap.size, 0, none⟩ 1 1 [.int .i64 t, .int .i64 3, .string ⟨#[]⟩, .string ⟨#[]⟩] rfl rfl ?m0 ?m4 ?m1 ?m2 ?m3 ?_)
              case m0 => exact cell_four_new _ _ _ _ _ _
              case m4 => intro u hu; simp at hu; rcases hu with rfl | rfl | rfl <;> rfl
              case m1 => unfold maxLen; omega
              case m2 => omega
              case m3 => first | omega | (simp; omega)
              intro v' w4 o4 gr4 _
              have HO4 : Hid (OwnH w4 (b + 1) v' (ss ++ [((t : Int), 3, ⟨#[]⟩, ⟨#[]⟩)])) := OwnH.snoc (p := ((t : Int), 3, ⟨#[]⟩, ⟨#[]⟩)) o4
              have B4 : Hid (Below b w w4) := hbl.trans ((own_belowX ((Below.refl _ _).alloc (by omega) _) (by simp; omega) (HO.out.1.alloc _) gr4 : Below (b + 1) wr w4).mono (by omega))
              have hz4 : b + 1 ≤ w4.heap.size := by have := (own_belowX ((Below.refl _ _).alloc (by omega) _) (by simp; omega) (HO.out.1.alloc _) gr4 : Below (b + 1) wr w4).size; omega
              have HP4 : Hid (PreP n (ss ++ [((t : Int), 3, ⟨#[]⟩, ⟨#[]⟩)])) := HO.out.2.1.snoc ⟨⟨by simp, by simp; omega⟩, .inr (.inr ⟨.inl rfl, rfl, rfl⟩)⟩ (by simp) hlt HDN.out
              have HE4 : Hid (∀ u : Int, 0 ≤ u → u < ((t + 1 : Nat) : Int) → ∃ j, j < (ss ++ [((t : Int), 3, (⟨#[]⟩ : ByteArray), (⟨#[]⟩ : ByteArray))]).length ∧ EndAt (ss ++ [((t : Int), 3, ⟨#[]⟩, ⟨#[]⟩)]) u j) := fun u h1 h2 => by
                by_cases e : u = t
                · subst e; exact end_last ss (x := ((t : Int), 3, ⟨#[]⟩, ⟨#[]⟩)) (by simp)
                · exact end_left (HO.out.2.2 u h1 (by omega))
              clear o4 gr4 HO hbl hzr HDN
              go_wp2
              go_roundw
              case rel => exact ⟨t + 1, m, _, by go_num, by omega, hm4, by simp; omega, ⟨HO4.out, HP4.out, HE4.out⟩, B4.out, hz4⟩
              case measure => simp [intOf]; omega
            · have HE4 : Hid (∀ u : Int, 0 ≤ u → u < ((t + 1 : Nat) : Int) → ∃ j, j < ss.length ∧ EndAt ss u j) := fun u h1 h2 => by
                by_cases e : u = t
                · subst e; exact hdi.yes hr
                · exact HO.out.2.2 u h1 (by omega)
              clear hdi
              go_wp2
              go_roundw
              case rel => exact ⟨t + 1, m, ss, by go_num, by omega, hm4, by omega, ⟨HO.out.1, HO.out.2.1, HE4.out⟩, hbl, hzr⟩
              case measure => simp [intOf]; omega
          · have HF : Hid (OwnH wr b u3 ss ∧ HistP ss) := ⟨own_mono HO.out.1 (by omega), HO.out.2.1.hist (by omega) (fun u h1 h2 => HO.out.2.2 u h1 (by omega))⟩
            go_wp2
            go_ret
            exact ⟨_, rfl, ss, HF.out.1, HF.out.2, hbl⟩
end Go.Proofs.Ytlcgmifibekegaa
