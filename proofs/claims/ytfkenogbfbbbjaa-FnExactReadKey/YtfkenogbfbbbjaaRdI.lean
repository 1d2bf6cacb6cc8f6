/- The specification's reading of a row: the walk. -/
import Derived.Test.YtfkenogbfbbbjaaRdH
namespace Go.Proofs.Ytfkenogbfbbbjaa
open Go.RowKit

theorem readB_but {w w' : World} {b off n rb : Nat} {f : Nat → Int} (h : ReadB w (some ⟨b, off, none⟩) n f) (hB : But rb w w') (hne : b ≠ rb) : ReadB w' (some ⟨b, off, none⟩) n f := fun i hi => by
  obtain ⟨b', off', e, hlt, hc⟩ := h i hi
  cases e
  exact ⟨b, off, rfl, Nat.lt_of_lt_of_le hlt hB.size, (hB.cell (p := ⟨b, off + i, none⟩) hlt hne).trans hc⟩
theorem own_but {w w' : World} {B e m n rb : Nat} {v : Value} {xs : List Value} (h : w.ownsRow B e m v n xs) (hB : But rb w w') (hrb : rb < B) : w'.ownsRow B e m v n xs := by
  refine ⟨h.1, ?_⟩
  rcases h.2 with h | ⟨g, cap, cur, e1, e2, hh, r⟩
  · exact .inl h
  · refine .inr ⟨g, cap, cur, e1, e2, ?_, r⟩
    rw [hB.block g ?_ (by omega)]
    · exact hh
    · rcases Nat.lt_or_ge g w.heap.size with h | h
      · exact h
      · rw [Array.getElem?_eq_none h] at hh; cases hh
theorem but_alloc {rb : Nat} {w w' : World} (h : But rb w w') (o : Obj) : But rb w (w'.alloc o) := h.trans (But.of_below ((Below.refl _ _).alloc (Nat.le_refl _) _))
theorem but_set {rb x o : Nat} {w w' : World} {v : Value} (h : But rb w w') (hx : w.heap.size ≤ x) : But rb w (w'.setCell ⟨x, o, none⟩ v) :=
  ⟨h.os, h.tape, h.output, by simpa [World.setCell] using h.size, fun k hk hkb => (Below.heap_setCell _ _ _ _ (by simp; omega)).trans (h.block k hk hkb)⟩
theorem but_grown {rb e m n : Nat} {w u u' : World} {v : Value} {xs : List Value} (h : But rb w u) (ho : u.ownsRow w.heap.size e m v n xs) (hg : u.grownBy u' v.ownBlock) : But rb w u' :=
  ⟨hg.os.trans h.os, hg.tape.trans h.tape, hg.output.trans h.output, Nat.le_trans h.size hg.size, fun k hk hkb => by
    rw [hg.block k (Nat.lt_of_lt_of_le hk h.size) (fun e => by
      rcases ho.2 with ⟨rfl, _⟩ | ⟨g, cap, cur, rfl, hb, _⟩
      · cases e
      · have e' : some k = some g := e.symm ▸ rfl
        cases e'; omega)]
    exact h.block k hk hkb⟩
theorem Rdr.other {w : World} {rb n c x o : Nat} {a : Option Addr} {s : Nat × Bool} {v : Value} (h : Rdr w rb a n c s) (hx : rb ≠ x) : Rdr (w.setCell ⟨x, o, none⟩ v) rb a n c s :=
  (Below.heap_setCell _ _ _ _ hx).trans h
theorem Rdr.grown {w0 u u' : World} {rb n c e m k : Nat} {a : Option Addr} {s : Nat × Bool} {v : Value} {xs : List Value} (h : Rdr u rb a n c s) (hrb : rb < w0.heap.size) (ho : u.ownsRow w0.heap.size e m v k xs) (hg : u.grownBy u' v.ownBlock) : Rdr u' rb a n c s :=
  (hg.block rb h.lt (fun e => by
      rcases ho.2 with ⟨rfl, _⟩ | ⟨g, cap, cur, rfl, hb, _⟩
      · cases e
      · have e' : some rb = some g := e.symm ▸ rfl
        cases e'; omega)).trans h
theorem own_set {w : World} {B e m n x o : Nat} {v u : Value} {xs : List Value} (h : w.ownsRow B e m v n xs) (hx : ∀ g, v.ownBlock = some g → g ≠ x) : (w.setCell ⟨x, o, none⟩ u).ownsRow B e m v n xs := by
  refine ⟨h.1, ?_⟩
  rcases h.2 with h | ⟨g, cap, cur, rfl, e2, hh, r⟩
  · exact .inl h
  · exact .inr ⟨g, cap, cur, rfl, e2, (Below.heap_setCell _ _ _ _ (hx g rfl)).trans hh, r⟩
theorem own_lt {w : World} {B e m n : Nat} {v : Value} {xs : List Value} (h : w.ownsRow B e m v n xs) : ∀ g, v.ownBlock = some g → g < w.heap.size := by
  intro g hg
  rcases h.2 with ⟨rfl, _⟩ | ⟨g', cap, cur, rfl, e2, hh, r⟩
  · cases hg
  · cases hg
    rcases Nat.lt_or_ge g' w.heap.size with h' | h'
    · exact h'
    · rw [Array.getElem?_eq_none h'] at hh; cases hh
theorem own_none {u : World} {B : Nat} (hB : B ≤ u.heap.size) : (u.alloc (.cells #[] 24)).ownsRow B 24 3 (.slice (some ⟨u.heap.size, 0, none⟩) 0 0) 0 [] :=
  ⟨rfl, .inr ⟨u.heap.size, 0, #[], rfl, hB, by show (u.heap.push _)[u.heap.size]? = _; simp, Nat.le_refl _, by decide, rfl, rfl⟩⟩
theorem takeN_8 (n : Nat) (s : Nat × Bool) : takeN n 8 s = 8 := by unfold takeN; split <;> rfl
theorem takeN_le (n k : Nat) (s : Nat × Bool) : takeN n k s ≤ k := by unfold takeN; split <;> omega
theorem takeS_le {n k : Nat} {s : Nat × Bool} (h : s.1 ≤ n) : (takeS n k s).1 ≤ n := by
  unfold takeS
  split
  · exact h
  · rename_i hh
    simp at hh ⊢
    omega
theorem takeF_bys {f : Nat → Int} {n k : Nat} {s : Nat × Bool} (hf : Bys f n) : Bys (takeF f n k s) (takeN n k s) := fun i hi => by
  unfold takeF takeN at *
  split
  · exact ⟨Int.le_refl _, show (0 : Int) ≤ 255 by omega⟩
  · rename_i hh
    rw [if_neg hh] at hi
    simp at hh
    exact hf (s.1 + i) (by omega)
theorem own_ge {w : World} {B e m n : Nat} {v : Value} {xs : List Value} (h : w.ownsRow B e m v n xs) : ∀ g, v.ownBlock = some g → B ≤ g := by
  intro g hg
  rcases h.2 with ⟨rfl, _⟩ | ⟨g', cap, cur, rfl, e2, hh, r⟩
  · cases hg
  · cases hg
    exact e2
theorem size_snoc {vs : List V3} {k n : Int} {t : ByteArray} (h : ∀ v ∈ vs, v.2.2.size ≤ 255) (ht : t.size ≤ 255) : ∀ v ∈ vs ++ [((k, n, t) : V3)], v.2.2.size ≤ 255 := fun v hv => by
  rcases List.mem_append.1 hv with hv | hv
  · exact h v hv
  · simp at hv; subst hv; exact ht
theorem cells3_get : ∀ (vs : List V3) (i : Nat), i < vs.length → (cells3 vs)[i * 3]? = some (.int .i64 (nthV vs i).1) ∧ (cells3 vs)[i * 3 + 1]? = some (.int .i64 (nthV vs i).2.1) ∧ (cells3 vs)[i * 3 + 2]? = some (.string (nthV vs i).2.2)
  | [], i, h => by simp at h
  | v :: vs, 0, _ => by simp [cells3, nthV]
  | v :: vs, i + 1, h => by
    have ih := cells3_get vs i (by simpa using h)
    have e : cells3 (v :: vs) = .int .i64 v.1 :: .int .i64 v.2.1 :: .string v.2.2 :: cells3 vs := by simp [cells3]
    have en : nthV (v :: vs) (i + 1) = nthV vs i := by simp [nthV]
    rw [e, en]
    have e0 : (i + 1) * 3 = i * 3 + 3 := by omega
    rw [e0]
    exact ih
theorem own_rowV {w : World} {B : Nat} {v : Value} {vs : List V3} (h : w.ownsRow B 24 3 v vs.length (cells3 vs)) (hs : ∀ u ∈ vs, u.2.2.size ≤ 255) : ∃ a c, v = .slice a vs.length c ∧ RowV w a vs := by
  rcases h.2 with ⟨rfl, h0⟩ | ⟨g, cap, cur, rfl, _, hh, _, _, hcs, htk⟩
  · exact ⟨none, 0, by rw [h0], fun i hi => by omega⟩
  · refine ⟨_, _, rfl, fun i hi => ?_⟩
    have hlt : g < w.heap.size := by
      rcases Nat.lt_or_ge g w.heap.size with h' | h'
      · exact h'
      · rw [Array.getElem?_eq_none h'] at hh; cases hh
    have hg := cells3_get vs i hi
    have hc : ∀ j, j < vs.length * 3 → w.cell? ⟨g, 0 + j, none⟩ = (cells3 vs)[j]? := fun j hj => by
      rw [rowCell hh, ← htk, List.getElem?_take_of_lt hj, Nat.zero_add]
      simp
    refine ⟨g, 0, rfl, hlt, ⟨(hc _ (by omega)).trans hg.1, (hc _ (by omega)).trans hg.2.1, (hc _ (by omega)).trans hg.2.2⟩, ?_⟩
    have hm : nthV vs i ∈ vs := by
      unfold nthV
      rw [List.getD_eq_getElem?_getD, List.getElem?_eq_getElem hi]
      exact List.getElem_mem hi
    have := hs _ hm
    unfold maxLen
    omega
theorem oneR_bd {f : Nat → Int} {n : Nat} {s : Nat × Bool} (hf : Bys f n) (h : s.1 ≤ n) : (oneR f n s).1 ≤ 255 ∧ 0 ≤ (oneR f n s).1 ∧ (oneR f n s).2.1 ≤ n := by
  obtain ⟨o, bad⟩ := s
  cases bad with
  | true => rw [oneR_bad]; exact ⟨by simp, by simp, h⟩
  | false =>
    by_cases h' : n ≤ o
    · rw [oneR_end f h']; exact ⟨by simp, by simp, h⟩
    · rw [oneR_go f (by omega)]; have := hf o (by omega); simp; omega

set_option maxRecDepth 100000 in
set_option maxHeartbeats 8000000 in
theorem row_any (rb b off n c : Nat) (f : Nat → Int) (w : World) (h : Rdr w rb (some ⟨b, off, none⟩) n c (0, false)) (hr : ReadB w (some ⟨b, off, none⟩) n f) (hf : Bys f n) (hne : b ≠ rb) (h1 : 1 ≤ n) (hn : n ≤ 65536) (hc : n ≤ c) :
    Calls Try.prog 74 #[.pointer (some ⟨rb, 0, none⟩)] w fun e w' => ∃ v vs s, e = .returned v ∧ w'.ownsRow w.heap.size 24 3 v vs.length (cells3 vs) ∧ vs.length ≤ 255 ∧ Rdr w' rb (some ⟨b, off, none⟩) n c s ∧ rowR f n = (if s.2 = false ∧ s.1 = n then (0, vs) else (3, [])) ∧ But rb w w' := by
  have HR : Hid (Rdr w rb (some ⟨b, off, none⟩) n c (0, false)) := h
  have HB : Hid (ReadB w (some ⟨b, off, none⟩) n f) := hr
  have HF : Hid (Bys f n) := hf
  have hrb := h.lt
  obtain ⟨i0, hi, hz0', hz1, hz2⟩ := info_parts info24
  obtain ⟨v0, v1⟩ := hf 0 (by omega)
  have HE : Hid (oneR f n (0, false) = (f 0, 1, false)) := oneR_go f (by omega)
  have HS : Hid (RowInv f n (f 0) (1, false) []) := RowInv.start h1 hn
  clear h hr hf
  have hA0 : But rb w (w.alloc (.cells #[] 24)) := but_alloc (But.refl _ _) _
  have HO0 : Hid ((w.alloc (.cells #[] 24)).ownsRow w.heap.size 24 3 (.slice (some ⟨w.heap.size, 0, none⟩) 0 0) 0 []) := own_none (Nat.le_refl _)
  go_enter Try.func74, Try.ntmps74
  go_wp2_with fail
  refine (one_any rb (some ⟨b, off, none⟩) n c f (0, false) _ (HR.out.below ((Below.refl _ _).alloc (Nat.le_refl _) _)) (readB_but HB.out hA0 hne) HF.out (fun p e => by cases e; exact hne) hn (by simp)).mono ?_
  rintro e w1 ⟨rfl, hR1, hB1⟩
  rw [HE.out] at hR1 ⊢
  have hB1' := hA0.trans hB1
  have HO1 := own_but HO0.out hB1 hrb
  go_wp2
  go_loopw [3, 4] (fun out k wr => ∃ (vs : List V3) (kk : Int) (s : Nat × Bool), k = .int .i64 kk ∧ 0 ≤ kk ∧ (vs.length : Int) + kk ≤ 255 ∧ Hid (RowInv f n kk s vs) ∧ Rdr wr rb (some ⟨b, off, none⟩) n c s ∧ wr.ownsRow w.heap.size 24 3 out vs.length (cells3 vs) ∧ But rb w wr ∧ Hid (∀ v ∈ vs, v.2.2.size ≤ 255)) (fun _ k _ => (intOf k).toNat)
  case atStart => exact ⟨[], f 0, (1, false), rfl, v0, by simp; omega, HS, hR1, HO1, hB1', fun v hv => by simp at hv⟩
  case round =>
    obtain ⟨vs, kk, s, rfl, hk0, hk1, HI, hRd, hown, hbut, HSz⟩ := hrel
    by_cases hgo : 0 < kk ∧ s.2 = false
    · obtain ⟨hkp, hsb⟩ := hgo
      obtain ⟨o, bad⟩ := s
      simp only at hsb
      subst hsb
      have HN : Hid (RowInv f n (kk - 1) (specCell f n (o, false)).2 (vs ++ [(specCell f n (o, false)).1])) := HI.out.step HF.out hkp
      have ho : o ≤ n := HI.out.1
      have hcb := hRd.c2
      have HRd : Hid (Rdr wr rb (some ⟨b, off, none⟩) n c (o, false)) := hRd
      have HBu : Hid (But rb w wr) := hbut
      have HOw : Hid (wr.ownsRow w.heap.size 24 3 u3 vs.length (cells3 vs)) := hown
      have hk255 : (oneR f n (o, false)).1 ≤ 255 ∧ 0 ≤ (oneR f n (o, false)).1 ∧ (oneR f n (o, false)).2.1 ≤ n := by
        by_cases h' : n ≤ o
        · rw [oneR_end f h']; simp; exact ho
        · rw [oneR_go f (by omega)]; have := HF.out o (by omega); simp; omega
      simp only at hcb
      clear hRd hbut hown
      go_wp2_with fail
      refine (one_any rb (some ⟨b, off, none⟩) n c f (o, false) wr HRd.out (readB_but HB.out HBu.out hne) HF.out (fun p e => by cases e; exact hne) hn ho).mono ?_
      rintro e w2 ⟨rfl, hR2, hB2⟩
      have HSp : Hid (specCell f n (o, false) = (let p := oneR f n (o, false); if p.1 = 1 then ((1, (oneR f n p.2).1, ⟨#[]⟩), (oneR f n p.2).2) else if p.1 = 2 then ((2, int8 (takeF f n 8 p.2), ⟨#[]⟩), takeS n 8 p.2) else if p.1 = 3 ∨ p.1 = 4 then ((p.1, 0, txt (takeF f n (oneR f n p.2).1.toNat (oneR f n p.2).2) (takeN n (oneR f n p.2).1.toNat (oneR f n p.2).2)), takeS n (oneR f n p.2).1.toNat (oneR f n p.2).2) else ((p.1, 0, ⟨#[]⟩), p.2))) := rfl
      generalize oneR f n (o, false) = p at *
      obtain ⟨k1, s1⟩ := p
      simp only at hk255 hR2
      have hB2' := HBu.out.trans hB2
      have hO2 := own_but HOw.out hB2 hrb
      have hx : w2.heap.size ≠ rb := by have := hB2.size; have := HRd.out.lt; omega
      have hx2 : w.heap.size ≤ w2.heap.size := hB2'.size
      have hg2 := own_lt hO2
      have hB3 : But rb w (w2.alloc (.cells #[.int .i64 k1, .int .i64 0, .string ⟨#[]⟩] 24)) := but_alloc hB2' _
      have hO3 : (w2.alloc (.cells #[.int .i64 k1, .int .i64 0, .string ⟨#[]⟩] 24)).ownsRow w.heap.size 24 3 u3 vs.length (cells3 vs) := own_belowN hO2 ((Below.refl _ _).alloc (Nat.le_refl _) _)
      have hR3 : Rdr (w2.alloc (.cells #[.int .i64 k1, .int .i64 0, .string ⟨#[]⟩] 24)) rb (some ⟨b, off, none⟩) n c s1 := Rdr.below hR2 ((Below.refl _ _).alloc (Nat.le_refl _) _)
      have HB3 : Hid (But rb w _) := hB3
      have HO3 : Hid (World.ownsRow _ w.heap.size 24 3 u3 vs.length (cells3 vs)) := hO3
      have HR3 : Hid (Rdr _ rb (some ⟨b, off, none⟩) n c s1) := hR3
      clear hB3 hO3 hR3 hB2' hO2 hB2 hR2 hcb
      by_cases q1 : k1 = 1
      · skip
        subst q1
        have HV : Hid (specCell f n (o, false) = ((1, (oneR f n s1).1, ⟨#[]⟩), (oneR f n s1).2)) := by
          show _ = _
          rw [HSp.out]
          simp
        rw [HV.out] at HN
        clear HSp HV
        go_wp2_with fail
        refine (one_any rb (some ⟨b, off, none⟩) n c f s1 _ HR3.out (readB_but HB.out HB3.out hne) HF.out (fun p e => by cases e; exact hne) hn hk255.2.2).mono ?_
        rintro e w4 ⟨rfl, hR4, hB4⟩
        generalize oneR f n s1 = p2 at *
        obtain ⟨k2, s2⟩ := p2
        simp only at hR4 HN
        have y0 : w4.cell? ⟨w2.heap.size, 0, none⟩ = some (.int .i64 1) := (hB4.cell (p := ⟨w2.heap.size, 0, none⟩) (by simp) hx).trans (by go_simp)
        have y1 : w4.cell? ⟨w2.heap.size, 1, none⟩ = some (.int .i64 0) := (hB4.cell (p := ⟨w2.heap.size, 1, none⟩) (by simp) hx).trans (by go_simp)
        have y2 : w4.cell? ⟨w2.heap.size, 2, none⟩ = some (.string ⟨#[]⟩) := (hB4.cell (p := ⟨w2.heap.size, 2, none⟩) (by simp) hx).trans (by go_simp)
        have y3 : w4.frozen? ⟨w2.heap.size, 1, none⟩ = false := (hB4.frozen (p := ⟨w2.heap.size, 1, none⟩) (by simp) hx).trans (by go_simp)
        have y4 : w4.frozen? ⟨w2.heap.size, 2, none⟩ = false := (hB4.frozen (p := ⟨w2.heap.size, 2, none⟩) (by simp) hx).trans (by go_simp)
        have HB4 : Hid (But rb w w4) := HB3.out.trans hB4
        have HO4 : Hid (w4.ownsRow w.heap.size 24 3 u3 vs.length (cells3 vs)) := own_but HO3.out hB4 hrb
        clear hB4
        have hB5 : But rb w ((w4.setCell ⟨w2.heap.size, 1, none⟩ (.int .i64 k2)).alloc (.cells #[.int .i64 1, .int .i64 k2, .string ⟨#[]⟩] 24)) := but_alloc (but_set HB4.out hx2) _
        have hown5 : ((w4.setCell ⟨w2.heap.size, 1, none⟩ (.int .i64 k2)).alloc (.cells #[.int .i64 1, .int .i64 k2, .string ⟨#[]⟩] 24)).ownsRow w.heap.size 24 3 u3 vs.length (cells3 vs) := own_belowN (own_set HO4.out (fun g hg => Nat.ne_of_lt (hg2 g hg))) ((Below.refl _ _).alloc (Nat.le_refl _) _)
        have HR5 : Hid (Rdr ((w4.setCell ⟨w2.heap.size, 1, none⟩ (.int .i64 k2)).alloc (.cells #[.int .i64 1, .int .i64 k2, .string ⟨#[]⟩] 24)) rb (some ⟨b, off, none⟩) n c s2) := Rdr.below (Rdr.other hR4 hx.symm) ((Below.refl _ _).alloc (Nat.le_refl _) _)
        go_wp2_with (at_builtin; refine wpList_append_own _ rfl (.tmp 45) (.tmp 47) 29 rfl w.heap.size 24 i0 (.agg #[.int .i64 0, .int .i64 0, .string ⟨#[]⟩]) 3 32 Try.underlying29 hi hz0' hz1 hz2 rfl (by decide) _ vs.length (cells3 vs) rfl hown5 ⟨w4.heap.size, 0, none⟩ 1 1 [.int .i64 1, .int .i64 k2, .string ⟨#[]⟩] rfl rfl ?c1 ?c2 ?c3 ?c4 ?c5 ?_)
        case c1 => exact news3 (by simp [World.setCell]) _ _ _
        case c2 => intro u' hu'; simp at hu'; rcases hu' with rfl | rfl | rfl <;> rfl
        case c3 => unfold maxLen; omega
        case c4 => omega
        case c5 => exact hB5.size
        intro v' w3 hown6 hgr _
        have hB6 := but_grown hB5 hown5 hgr
        have hR6 := Rdr.grown HR5.out hrb hown5 hgr
        have HO6 : Hid (w3.ownsRow w.heap.size 24 3 v' (vs ++ [((1, k2, ⟨#[]⟩) : V3)]).length (cells3 (vs ++ [((1, k2, ⟨#[]⟩) : V3)]))) := by
          show World.ownsRow _ _ _ _ _ _ _
          rw [cells3_snoc]
          simpa using hown6
        clear hown6 hgr hown5 hB5 HR5
        go_wp2
        exact ⟨⟨vs ++ [((1, k2, ⟨#[]⟩) : V3)], kk - 1, s2, rfl, by omega, by simp; omega, HN, hR6, HO6.out, hB6, size_snoc HSz.out (by decide)⟩, by simp [intOf]; omega⟩
      by_cases q2 : k1 = 2
      · skip
        subst q2
        have HV : Hid (specCell f n (o, false) = ((2, int8 (takeF f n 8 s1), ⟨#[]⟩), takeS n 8 s1)) := by
          show _ = _
          rw [HSp.out]
          simp
        rw [HV.out] at HN
        clear HSp HV q1
        go_wp2_with fail
        refine (take_any rb b off n c 8 f s1 _ HR3.out (readB_but HB.out HB3.out hne) hne hn hc (by omega) hk255.2.2).mono ?_
        rintro e w4 ⟨a8, c8, rfl, hRB, hR4, hB4⟩
        rw [takeN_8] at hRB ⊢
        have HRB : Hid (ReadB w4 a8 8 (takeF f n 8 s1)) := hRB
        have HBy : Hid (Bys (takeF f n 8 s1) 8) := by have := takeF_bys (k := 8) (s := s1) HF.out; rw [takeN_8] at this; exact this
        clear hRB
        go_wp2_with fail
        refine (l01Of_any a8 c8 _ w4 HRB.out HBy.out).mono ?_
        rintro e w4' ⟨rfl, rfl⟩
        generalize int8 (takeF f n 8 s1) = k2 at *
        generalize takeS n 8 s1 = s2 at *
        have y0 : w4'.cell? ⟨w2.heap.size, 0, none⟩ = some (.int .i64 2) := (hB4.cell (p := ⟨w2.heap.size, 0, none⟩) (by simp) hx).trans (by go_simp)
        have y1 : w4'.cell? ⟨w2.heap.size, 1, none⟩ = some (.int .i64 0) := (hB4.cell (p := ⟨w2.heap.size, 1, none⟩) (by simp) hx).trans (by go_simp)
        have y2 : w4'.cell? ⟨w2.heap.size, 2, none⟩ = some (.string ⟨#[]⟩) := (hB4.cell (p := ⟨w2.heap.size, 2, none⟩) (by simp) hx).trans (by go_simp)
        have y3 : w4'.frozen? ⟨w2.heap.size, 1, none⟩ = false := (hB4.frozen (p := ⟨w2.heap.size, 1, none⟩) (by simp) hx).trans (by go_simp)
        have y4 : w4'.frozen? ⟨w2.heap.size, 2, none⟩ = false := (hB4.frozen (p := ⟨w2.heap.size, 2, none⟩) (by simp) hx).trans (by go_simp)
        have HB4 : Hid (But rb w w4') := HB3.out.trans hB4
        have HO4 : Hid (w4'.ownsRow w.heap.size 24 3 u3 vs.length (cells3 vs)) := own_but HO3.out hB4 hrb
        clear hB4
        have hB5 : But rb w ((w4'.setCell ⟨w2.heap.size, 1, none⟩ (.int .i64 k2)).alloc (.cells #[.int .i64 2, .int .i64 k2, .string ⟨#[]⟩] 24)) := but_alloc (but_set HB4.out hx2) _
        have hown5 : ((w4'.setCell ⟨w2.heap.size, 1, none⟩ (.int .i64 k2)).alloc (.cells #[.int .i64 2, .int .i64 k2, .string ⟨#[]⟩] 24)).ownsRow w.heap.size 24 3 u3 vs.length (cells3 vs) := own_belowN (own_set HO4.out (fun g hg => Nat.ne_of_lt (hg2 g hg))) ((Below.refl _ _).alloc (Nat.le_refl _) _)
        have HR5 : Hid (Rdr ((w4'.setCell ⟨w2.heap.size, 1, none⟩ (.int .i64 k2)).alloc (.cells #[.int .i64 2, .int .i64 k2, .string ⟨#[]⟩] 24)) rb (some ⟨b, off, none⟩) n c s2) := Rdr.below (Rdr.other hR4 hx.symm) ((Below.refl _ _).alloc (Nat.le_refl _) _)
        go_wp2_with (at_builtin; refine wpList_append_own _ rfl (.tmp 45) (.tmp 47) 29 rfl w.heap.size 24 i0 (.agg #[.int .i64 0, .int .i64 0, .string ⟨#[]⟩]) 3 32 Try.underlying29 hi hz0' hz1 hz2 rfl (by decide) _ vs.length (cells3 vs) rfl hown5 ⟨w4'.heap.size, 0, none⟩ 1 1 [.int .i64 2, .int .i64 k2, .string ⟨#[]⟩] rfl rfl ?c1 ?c2 ?c3 ?c4 ?c5 ?_)
        case c1 => exact news3 (by simp [World.setCell]) _ _ _
        case c2 => intro u' hu'; simp at hu'; rcases hu' with rfl | rfl | rfl <;> rfl
        case c3 => unfold maxLen; omega
        case c4 => omega
        case c5 => exact hB5.size
        intro v' w3 hown6 hgr _
        have hB6 := but_grown hB5 hown5 hgr
        have hR6 := Rdr.grown HR5.out hrb hown5 hgr
        have HO6 : Hid (w3.ownsRow w.heap.size 24 3 v' (vs ++ [((2, k2, ⟨#[]⟩) : V3)]).length (cells3 (vs ++ [((2, k2, ⟨#[]⟩) : V3)]))) := by
          show World.ownsRow _ _ _ _ _ _ _
          rw [cells3_snoc]
          simpa using hown6
        clear hown6 hgr hown5 hB5 HR5
        go_wp2
        exact ⟨⟨vs ++ [((2, k2, ⟨#[]⟩) : V3)], kk - 1, s2, rfl, by omega, by simp; omega, HN, hR6, HO6.out, hB6, size_snoc HSz.out (by decide)⟩, by simp [intOf]; omega⟩
      by_cases q3 : k1 = 3 ∨ k1 = 4
      · rcases q3 with q3 | q3
        · skip
          subst q3
          have HV : Hid (specCell f n (o, false) = ((3, 0, txt (takeF f n (oneR f n s1).1.toNat (oneR f n s1).2) (takeN n (oneR f n s1).1.toNat (oneR f n s1).2)), takeS n (oneR f n s1).1.toNat (oneR f n s1).2)) := by
            show _ = _
            rw [HSp.out]
            simp
          rw [HV.out] at HN
          have hbd := oneR_bd (s := s1) HF.out hk255.2.2
          clear HSp HV q1 q2
          go_wp2_with fail
          refine (one_any rb (some ⟨b, off, none⟩) n c f s1 _ HR3.out (readB_but HB.out HB3.out hne) HF.out (fun p e => by cases e; exact hne) hn hk255.2.2).mono ?_
          rintro e w5 ⟨rfl, hR5', hB5'⟩
          generalize oneR f n s1 = p2 at *
          obtain ⟨k2, s2⟩ := p2
          simp only at hR5' HN hbd
          obtain ⟨z, rfl⟩ := Int.eq_ofNat_of_zero_le hbd.2.1
          simp only [Int.toNat_natCast] at HN
          go_wp2_with fail
          refine (take_any rb b off n c z f s2 _ hR5' (readB_but HB.out (HB3.out.trans hB5') hne) hne hn hc (by omega) hbd.2.2).mono ?_
          rintro e w4 ⟨a8, c8, rfl, hRB, hR4, hB4'⟩
          have hB4 := hB5'.trans hB4'
          have hcv := conv_text w4 a8 (takeN n z s2) c8 (takeF f n z s2) hRB
          have ht2 : (txt (takeF f n z s2) (takeN n z s2)).size ≤ 255 := by rw [txt_size]; have := takeN_le n z s2; omega
          generalize txt (takeF f n z s2) (takeN n z s2) = t2 at *
          generalize takeS n z s2 = s3 at *
          generalize takeN n z s2 = l2 at *
          clear hRB hB4' hB5' hR5'
          have y0 : w4.cell? ⟨w2.heap.size, 0, none⟩ = some (.int .i64 3) := (hB4.cell (p := ⟨w2.heap.size, 0, none⟩) (by simp) hx).trans (by go_simp)
          have y1 : w4.cell? ⟨w2.heap.size, 1, none⟩ = some (.int .i64 0) := (hB4.cell (p := ⟨w2.heap.size, 1, none⟩) (by simp) hx).trans (by go_simp)
          have y2 : w4.cell? ⟨w2.heap.size, 2, none⟩ = some (.string ⟨#[]⟩) := (hB4.cell (p := ⟨w2.heap.size, 2, none⟩) (by simp) hx).trans (by go_simp)
          have y3 : w4.frozen? ⟨w2.heap.size, 1, none⟩ = false := (hB4.frozen (p := ⟨w2.heap.size, 1, none⟩) (by simp) hx).trans (by go_simp)
          have y4 : w4.frozen? ⟨w2.heap.size, 2, none⟩ = false := (hB4.frozen (p := ⟨w2.heap.size, 2, none⟩) (by simp) hx).trans (by go_simp)
          have HB4 : Hid (But rb w w4) := HB3.out.trans hB4
          have HO4 : Hid (w4.ownsRow w.heap.size 24 3 u3 vs.length (cells3 vs)) := own_but HO3.out hB4 hrb
          clear hB4
          have hB5 : But rb w ((w4.setCell ⟨w2.heap.size, 2, none⟩ (.string t2)).alloc (.cells #[.int .i64 3, .int .i64 0, .string t2] 24)) := but_alloc (but_set HB4.out hx2) _
          have hown5 : ((w4.setCell ⟨w2.heap.size, 2, none⟩ (.string t2)).alloc (.cells #[.int .i64 3, .int .i64 0, .string t2] 24)).ownsRow w.heap.size 24 3 u3 vs.length (cells3 vs) := own_belowN (own_set HO4.out (fun g hg => Nat.ne_of_lt (hg2 g hg))) ((Below.refl _ _).alloc (Nat.le_refl _) _)
          have HR5 : Hid (Rdr ((w4.setCell ⟨w2.heap.size, 2, none⟩ (.string t2)).alloc (.cells #[.int .i64 3, .int .i64 0, .string t2] 24)) rb (some ⟨b, off, none⟩) n c s3) := Rdr.below (Rdr.other hR4 hx.symm) ((Below.refl _ _).alloc (Nat.le_refl _) _)
          go_wp2_with (at_builtin; refine wpList_append_own _ rfl (.tmp 45) (.tmp 47) 29 rfl w.heap.size 24 i0 (.agg #[.int .i64 0, .int .i64 0, .string ⟨#[]⟩]) 3 32 Try.underlying29 hi hz0' hz1 hz2 rfl (by decide) _ vs.length (cells3 vs) rfl hown5 ⟨w4.heap.size, 0, none⟩ 1 1 [.int .i64 3, .int .i64 0, .string t2] rfl rfl ?c1 ?c2 ?c3 ?c4 ?c5 ?_)
          case c1 => exact news3 (by simp [World.setCell]) _ _ _
          case c2 => intro u' hu'; simp at hu'; rcases hu' with rfl | rfl | rfl <;> rfl
          case c3 => unfold maxLen; omega
          case c4 => omega
          case c5 => exact hB5.size
          intro v' w3 hown6 hgr _
          have hB6 := but_grown hB5 hown5 hgr
          have hR6 := Rdr.grown HR5.out hrb hown5 hgr
          have HO6 : Hid (w3.ownsRow w.heap.size 24 3 v' (vs ++ [((3, 0, t2) : V3)]).length (cells3 (vs ++ [((3, 0, t2) : V3)]))) := by
            show World.ownsRow _ _ _ _ _ _ _
            rw [cells3_snoc]
            simpa using hown6
          clear hown6 hgr hown5 hB5 HR5
          go_wp2
          exact ⟨⟨vs ++ [((3, 0, t2) : V3)], kk - 1, s3, rfl, by omega, by simp; omega, HN, hR6, HO6.out, hB6, size_snoc HSz.out ht2⟩, by simp [intOf]; omega⟩
        · skip
          subst q3
          have HV : Hid (specCell f n (o, false) = ((4, 0, txt (takeF f n (oneR f n s1).1.toNat (oneR f n s1).2) (takeN n (oneR f n s1).1.toNat (oneR f n s1).2)), takeS n (oneR f n s1).1.toNat (oneR f n s1).2)) := by
            show _ = _
            rw [HSp.out]
            simp
          rw [HV.out] at HN
          have hbd := oneR_bd (s := s1) HF.out hk255.2.2
          clear HSp HV q1 q2
          go_wp2_with fail
          refine (one_any rb (some ⟨b, off, none⟩) n c f s1 _ HR3.out (readB_but HB.out HB3.out hne) HF.out (fun p e => by cases e; exact hne) hn hk255.2.2).mono ?_
          rintro e w5 ⟨rfl, hR5', hB5'⟩
          generalize oneR f n s1 = p2 at *
          obtain ⟨k2, s2⟩ := p2
          simp only at hR5' HN hbd
          obtain ⟨z, rfl⟩ := Int.eq_ofNat_of_zero_le hbd.2.1
          simp only [Int.toNat_natCast] at HN
          go_wp2_with fail
          refine (take_any rb b off n c z f s2 _ hR5' (readB_but HB.out (HB3.out.trans hB5') hne) hne hn hc (by omega) hbd.2.2).mono ?_
          rintro e w4 ⟨a8, c8, rfl, hRB, hR4, hB4'⟩
          have hB4 := hB5'.trans hB4'
          have hcv := conv_text w4 a8 (takeN n z s2) c8 (takeF f n z s2) hRB
          have ht2 : (txt (takeF f n z s2) (takeN n z s2)).size ≤ 255 := by rw [txt_size]; have := takeN_le n z s2; omega
          generalize txt (takeF f n z s2) (takeN n z s2) = t2 at *
          generalize takeS n z s2 = s3 at *
          generalize takeN n z s2 = l2 at *
          clear hRB hB4' hB5' hR5'
          have y0 : w4.cell? ⟨w2.heap.size, 0, none⟩ = some (.int .i64 4) := (hB4.cell (p := ⟨w2.heap.size, 0, none⟩) (by simp) hx).trans (by go_simp)
          have y1 : w4.cell? ⟨w2.heap.size, 1, none⟩ = some (.int .i64 0) := (hB4.cell (p := ⟨w2.heap.size, 1, none⟩) (by simp) hx).trans (by go_simp)
          have y2 : w4.cell? ⟨w2.heap.size, 2, none⟩ = some (.string ⟨#[]⟩) := (hB4.cell (p := ⟨w2.heap.size, 2, none⟩) (by simp) hx).trans (by go_simp)
          have y3 : w4.frozen? ⟨w2.heap.size, 1, none⟩ = false := (hB4.frozen (p := ⟨w2.heap.size, 1, none⟩) (by simp) hx).trans (by go_simp)
          have y4 : w4.frozen? ⟨w2.heap.size, 2, none⟩ = false := (hB4.frozen (p := ⟨w2.heap.size, 2, none⟩) (by simp) hx).trans (by go_simp)
          have HB4 : Hid (But rb w w4) := HB3.out.trans hB4
          have HO4 : Hid (w4.ownsRow w.heap.size 24 3 u3 vs.length (cells3 vs)) := own_but HO3.out hB4 hrb
          clear hB4
          have hB5 : But rb w ((w4.setCell ⟨w2.heap.size, 2, none⟩ (.string t2)).alloc (.cells #[.int .i64 4, .int .i64 0, .string t2] 24)) := but_alloc (but_set HB4.out hx2) _
          have hown5 : ((w4.setCell ⟨w2.heap.size, 2, none⟩ (.string t2)).alloc (.cells #[.int .i64 4, .int .i64 0, .string t2] 24)).ownsRow w.heap.size 24 3 u3 vs.length (cells3 vs) := own_belowN (own_set HO4.out (fun g hg => Nat.ne_of_lt (hg2 g hg))) ((Below.refl _ _).alloc (Nat.le_refl _) _)
          have HR5 : Hid (Rdr ((w4.setCell ⟨w2.heap.size, 2, none⟩ (.string t2)).alloc (.cells #[.int .i64 4, .int .i64 0, .string t2] 24)) rb (some ⟨b, off, none⟩) n c s3) := Rdr.below (Rdr.other hR4 hx.symm) ((Below.refl _ _).alloc (Nat.le_refl _) _)
          go_wp2_with (at_builtin; refine wpList_append_own _ rfl (.tmp 45) (.tmp 47) 29 rfl w.heap.size 24 i0 (.agg #[.int .i64 0, .int .i64 0, .string ⟨#[]⟩]) 3 32 Try.underlying29 hi hz0' hz1 hz2 rfl (by decide) _ vs.length (cells3 vs) rfl hown5 ⟨w4.heap.size, 0, none⟩ 1 1 [.int .i64 4, .int .i64 0, .string t2] rfl rfl ?c1 ?c2 ?c3 ?c4 ?c5 ?_)
          case c1 => exact news3 (by simp [World.setCell]) _ _ _
          case c2 => intro u' hu'; simp at hu'; rcases hu' with rfl | rfl | rfl <;> rfl
          case c3 => unfold maxLen; omega
          case c4 => omega
          case c5 => exact hB5.size
          intro v' w3 hown6 hgr _
          have hB6 := but_grown hB5 hown5 hgr
          have hR6 := Rdr.grown HR5.out hrb hown5 hgr
          have HO6 : Hid (w3.ownsRow w.heap.size 24 3 v' (vs ++ [((4, 0, t2) : V3)]).length (cells3 (vs ++ [((4, 0, t2) : V3)]))) := by
            show World.ownsRow _ _ _ _ _ _ _
            rw [cells3_snoc]
            simpa using hown6
          clear hown6 hgr hown5 hB5 HR5
          go_wp2
          exact ⟨⟨vs ++ [((4, 0, t2) : V3)], kk - 1, s3, rfl, by omega, by simp; omega, HN, hR6, HO6.out, hB6, size_snoc HSz.out ht2⟩, by simp [intOf]; omega⟩
      have HV : Hid (specCell f n (o, false) = ((k1, 0, ⟨#[]⟩), s1)) := by
        show _ = _
        rw [HSp.out]
        simp only
        rw [if_neg q1, if_neg q2, if_neg q3]
      rw [HV.out] at HN
      have q3a : ¬ k1 = 3 := fun e => q3 (.inl e)
      have q3b : ¬ k1 = 4 := fun e => q3 (.inr e)
      have e1 : (k1 == 1) = false := by simpa using q1
      have e2 : (k1 == 2) = false := by simpa using q2
      have e3 : (k1 == 3) = false := by simpa using q3a
      have e4 : (k1 == 4) = false := by simpa using q3b
      clear HSp HV q1 q2 q3 q3a q3b
      have hB5 : But rb w ((w2.alloc (.cells #[.int .i64 k1, .int .i64 0, .string ⟨#[]⟩] 24)).alloc (.cells #[.int .i64 k1, .int .i64 0, .string ⟨#[]⟩] 24)) := but_alloc HB3.out _
      have hown5 : ((w2.alloc (.cells #[.int .i64 k1, .int .i64 0, .string ⟨#[]⟩] 24)).alloc (.cells #[.int .i64 k1, .int .i64 0, .string ⟨#[]⟩] 24)).ownsRow w.heap.size 24 3 u3 vs.length (cells3 vs) := own_belowN HO3.out ((Below.refl _ _).alloc (Nat.le_refl _) _)
      have HR5 : Hid (Rdr ((w2.alloc (.cells #[.int .i64 k1, .int .i64 0, .string ⟨#[]⟩] 24)).alloc (.cells #[.int .i64 k1, .int .i64 0, .string ⟨#[]⟩] 24)) rb (some ⟨b, off, none⟩) n c s1) := Rdr.below HR3.out ((Below.refl _ _).alloc (Nat.le_refl _) _)
      go_wp2_with (at_builtin; refine wpList_append_own _ rfl (.tmp 45) (.tmp 47) 29 rfl w.heap.size 24 i0 (.agg #[.int .i64 0, .int .i64 0, .string ⟨#[]⟩]) 3 32 Try.underlying29 hi hz0' hz1 hz2 rfl (by decide) _ vs.length (cells3 vs) rfl hown5 ⟨w2.heap.size + 1, 0, none⟩ 1 1 [.int .i64 k1, .int .i64 0, .string ⟨#[]⟩] rfl rfl ?c1 ?c2 ?c3 ?c4 ?c5 ?_)
      case c1 => exact news3 (by simp) _ _ _
      case c2 => intro u' hu'; simp at hu'; rcases hu' with rfl | rfl | rfl <;> rfl
      case c3 => unfold maxLen; omega
      case c4 => omega
      case c5 => exact hB5.size
      intro v' w3 hown6 hgr _
      have hB6 := but_grown hB5 hown5 hgr
      have hR6 := Rdr.grown HR5.out hrb hown5 hgr
      have HO6 : Hid (w3.ownsRow w.heap.size 24 3 v' (vs ++ [((k1, 0, ⟨#[]⟩) : V3)]).length (cells3 (vs ++ [((k1, 0, ⟨#[]⟩) : V3)]))) := by
        show World.ownsRow _ _ _ _ _ _ _
        rw [cells3_snoc]
        simpa using hown6
      clear hown6 hgr hown5 hB5 HR5
      go_wp2
      exact ⟨⟨vs ++ [((k1, 0, ⟨#[]⟩) : V3)], kk - 1, s1, rfl, by omega, by simp; omega, HN, hR6, HO6.out, hB6, size_snoc HSz.out (by decide)⟩, by simp [intOf]; omega⟩
    · have HOw : Hid (wr.ownsRow w.heap.size 24 3 u3 vs.length (cells3 vs)) := hown
      have HRd : Hid (Rdr wr rb (some ⟨b, off, none⟩) n c s) := hRd
      have HBu : Hid (But rb w wr) := hbut
      have hdone : s.2 = true ∨ kk = 0 := by
        by_cases hb : s.2 = true
        · exact .inl hb
        · have hb' : s.2 = false := by simpa using hb
          exact .inr (by have : ¬ 0 < kk := fun x => hgo ⟨x, hb'⟩; omega)
      have HD : Hid (rowR f n = if s.2 = false ∧ okRow vs = true ∧ s.1 = n then (0, vs) else (3, [])) := HI.out.done hdone
      have hcb := hRd.c2
      obtain ⟨ra, rc, rfl, hrow⟩ := own_rowV hown HSz.out
      have HRow : Hid (RowV wr ra vs) := hrow
      have hcond : (decide (0 < kk) && !s.2) = false := by
        rcases hdone with e | e
        · rw [e]; simp
        · rw [e]; simp
      obtain ⟨o, bad⟩ := s
      simp only at hcb hcond hdone
      clear hown hRd hbut hrow hgo
      by_cases hkp : 0 < kk
      · obtain rfl : bad = true := by rcases hdone with e | e; exact e; omega
        go_wp2_with fail
        refine (l01Row_any ra rc vs wr HRow.out (by omega)).mono ?_
        rintro e w2 ⟨rfl, hb2⟩
        have HO2 : Hid (w2.ownsRow w.heap.size 24 3 (.slice ra vs.length rc) vs.length (cells3 vs)) := own_belowN HOw.out hb2
        have hR2 := HRd.out.below hb2
        have HR2 : Hid (Rdr w2 rb (some ⟨b, off, none⟩) n c _) := hR2
        have HB2 : Hid (But rb w w2) := HBu.out.trans (But.of_below hb2)
        have z2 := hR2.c2
        have z3 := hR2.free 2
        clear hR2 hb2 hcb
        by_cases hok : okRow vs = true
        · rw [hok]
          have HX : Hid (okRow vs = true) := hok
          clear hok
          go_wp2
          go_ret
          refine ⟨_, vs, _, rfl, HO2.out, by omega, HR2.out, ?_, HB2.out⟩
          rw [HD.out, HX.out]
          simp
        · have hok' : okRow vs = false := by simpa using hok
          rw [hok']
          have HX : Hid (okRow vs = false) := hok'
          clear hok hok'
          go_wp2
          go_ret
          refine ⟨_, vs, _, rfl, own_set HO2.out (fun g hg => ?_), by omega, HR2.out.bad, ?_, HB2.out.setCell 2 _⟩
          · have := own_ge HO2.out g hg
            omega
          · rw [HD.out, HX.out]
            simp
      · go_wp2_with fail
        refine (l01Row_any ra rc vs wr HRow.out (by omega)).mono ?_
        rintro e w2 ⟨rfl, hb2⟩
        have HO2 : Hid (w2.ownsRow w.heap.size 24 3 (.slice ra vs.length rc) vs.length (cells3 vs)) := own_belowN HOw.out hb2
        have hR2 := HRd.out.below hb2
        have HR2 : Hid (Rdr w2 rb (some ⟨b, off, none⟩) n c _) := hR2
        have HB2 : Hid (But rb w w2) := HBu.out.trans (But.of_below hb2)
        have z2 := hR2.c2
        have z3 := hR2.free 2
        clear hR2 hb2 hcb
        by_cases hok : okRow vs = true
        · rw [hok]
          have HX : Hid (okRow vs = true) := hok
          clear hok
          go_wp2
          go_ret
          refine ⟨_, vs, _, rfl, HO2.out, by omega, HR2.out, ?_, HB2.out⟩
          rw [HD.out, HX.out]
          simp
        · have hok' : okRow vs = false := by simpa using hok
          rw [hok']
          have HX : Hid (okRow vs = false) := hok'
          clear hok hok'
          go_wp2
          go_ret
          refine ⟨_, vs, _, rfl, own_set HO2.out (fun g hg => ?_), by omega, HR2.out.bad, ?_, HB2.out.setCell 2 _⟩
          · have := own_ge HO2.out g hg
            omega
          · rw [HD.out, HX.out]
            simp
end Go.Proofs.Ytfkenogbfbbbjaa
