/- The law FnKeys, walked. -/
import Derived.Test.YtfkenogbfbbbjaaFkF
namespace Go.Proofs.Ytfkenogbfbbbjaa
open Go.RowKit

theorem code_of {w : World} {a : Option Addr} {n : Nat} {f : Nat → Int} (h : ReadB w a n f) (hf : Bys f n) : Code w a n := fun i hi => by
  obtain ⟨b, off, e, hlt, hc⟩ := h i hi
  exact ⟨b, off, f i, e, hlt, (hf i hi).1, (hf i hi).2, hc⟩
theorem short_ok {vs : List V3} (h : Short vs) (hl : vs.length ≤ 8) : okRow vs = true := by
  unfold okRow
  rw [decide_eq_true hl, Bool.true_and]
  exact List.all_eq_true.2 (fun x hx => (h x hx).1.1)
theorem short_len {vs : List V3} (h : Short vs) (hl : vs.length ≤ 8) : (encKey vs).length ≤ 65536 := by
  have := keyFlat_len vs (fun v hv => (h v hv).1.1)
  unfold encKey
  omega
theorem encR_bd {vs : List V3} (h : okRow vs = true) : ∀ x ∈ encR vs, 0 ≤ x ∧ x ≤ 255 := fun x hx => by
  obtain ⟨c, e, c0, c1⟩ := encKey_bytes h (.int .u8 x) (by rw [encKey_is]; exact List.mem_map.2 ⟨x, hx, rfl⟩)
  cases e
  exact ⟨c0, c1⟩
theorem key_bys {vs : List V3} (h : okRow vs = true) : Bys (byteVal (encKey vs)) (encKey vs).length := fun i hi => by
  rw [encKey_is, List.length_map] at hi
  rw [encKey_is, byteVal_is, List.getD_eq_getElem?_getD, List.getElem?_eq_getElem hi]
  exact encR_bd h _ (List.getElem_mem hi)
theorem txt_nums {l : List Int} (h : ∀ x ∈ l, 0 ≤ x ∧ x ≤ 255) : (txt (fun i => l.getD i 0) l.length).toList.map (fun b => (b.toNat : Int)) = l := by
  rw [ByteArray.toList_eq]
  unfold txt
  rw [strOfNums_data, List.map_map]
  have e : (List.range l.length).map (fun i => l.getD i 0) = l := by
    apply List.ext_getElem?
    intro i
    rw [List.getElem?_map]
    by_cases hi : i < l.length
    · rw [List.getElem?_range hi, List.getElem?_eq_getElem hi]
      simp [List.getD_eq_getElem?_getD, hi]
    · rw [List.getElem?_eq_none (by simp; omega), List.getElem?_eq_none (by omega)]
      rfl
  rw [e]
  conv => rhs; rw [← List.map_id l]
  apply List.map_congr_left
  intro x hx
  obtain ⟨x0, x1⟩ := h x hx
  exact byt_nat x0 x1
theorem keys_order {vs us : List V3} (hv : Short vs) (hu : Short us) (kv : okRow vs = true) (ku : okRow us = true) :
    (cmpRows vs us = 0 ∧ Op.bytesLess (txt (byteVal (encKey vs)) (encKey vs).length).toList (txt (byteVal (encKey us)) (encKey us).length).toList = false ∧ ((txt (byteVal (encKey vs)) (encKey vs).length).toList == (txt (byteVal (encKey us)) (encKey us).length).toList) = true) ∨
    (cmpRows vs us < 0 ∧ Op.bytesLess (txt (byteVal (encKey vs)) (encKey vs).length).toList (txt (byteVal (encKey us)) (encKey us).length).toList = true ∧ ((txt (byteVal (encKey vs)) (encKey vs).length).toList == (txt (byteVal (encKey us)) (encKey us).length).toList) = false) ∨
    (0 < cmpRows vs us ∧ Op.bytesLess (txt (byteVal (encKey vs)) (encKey vs).length).toList (txt (byteVal (encKey us)) (encKey us).length).toList = false ∧ ((txt (byteVal (encKey vs)) (encKey vs).length).toList == (txt (byteVal (encKey us)) (encKey us).length).toList) = false) := by
  have ev : byteVal (encKey vs) = fun i => (encR vs).getD i 0 := by funext i; rw [encKey_is, byteVal_is]
  have eu : byteVal (encKey us) = fun i => (encR us).getD i 0 := by funext i; rw [encKey_is, byteVal_is]
  have lv : (encKey vs).length = (encR vs).length := by rw [encKey_is, List.length_map]
  have lu : (encKey us).length = (encR us).length := by rw [encKey_is, List.length_map]
  have tv := txt_nums (encR_bd kv)
  have tu := txt_nums (encR_bd ku)
  rw [ev, eu, lv, lu]
  generalize (txt (fun i => (encR vs).getD i 0) (encR vs).length).toList = x at *
  generalize (txt (fun i => (encR us).getD i 0) (encR us).length).toList = y at *
  have hl : lessI (encR vs) (encR us) = Op.bytesLess x y := by rw [← tv, ← tu]; exact less_bytes x y
  have hr : lessI (encR us) (encR vs) = Op.bytesLess y x := by rw [← tv, ← tu]; exact less_bytes y x
  rcases row_cmp vs us (fun z hz => (hv z hz).1) (fun z hz => (hu z hz).1) with ⟨h1, h2⟩ | ⟨h1, h2, h3⟩ | ⟨h1, h2, h3⟩
  · left
    subst h1
    have exy : x = y := nums_inj x y (tv.trans tu.symm)
    subst exy
    exact ⟨h2, bl_irrefl x, by simp⟩
  · refine .inr (.inl ⟨h1, by rw [← hl]; exact h2, ?_⟩)
    refine beq_eq_false_iff_ne.2 (fun e => ?_)
    subst e
    rw [hl, bl_irrefl] at h2
    cases h2
  · refine .inr (.inr ⟨h1, by rw [← hl]; exact h3, ?_⟩)
    refine beq_eq_false_iff_ne.2 (fun e => ?_)
    subst e
    rw [hr, bl_irrefl] at h2
    cases h2

set_option maxRecDepth 100000 in
set_option maxHeartbeats 8000000 in
theorem lawKeys (a0 a1 : Option Addr) (cap0 cap1 len0 len1 : Nat) (w : World) (h0 : Code w a0 len0) (h1 : Code w a1 len1) (m0 : len0 ≤ maxLen) (m1 : len1 ≤ maxLen) :
    Calls Try.prog 4 #[.slice a0 len0 cap0, .slice a1 len1 cap1] w fun e w' => e = .returned (.bool true) ∧ Below w.heap.size w w' := by
  unfold maxLen at m0 m1
  by_cases x0 : (1048576 : Int) < (len0 : Int)
  · go_enter Try.func4, Try.ntmps4
    go_wp2
    go_ret
    exact ⟨rfl, Below.refl _ _⟩
  by_cases x1 : (1048576 : Int) < (len1 : Int)
  · go_enter Try.func4, Try.ntmps4
    go_wp2
    go_ret
    exact ⟨rfl, Below.refl _ _⟩
  have HC0 : Hid (Code w a0 len0) := h0
  have HC1 : Hid (Code w a1 len1) := h1
  have HL1 : Hid (∀ x, a1 = some x → 0 < len1 → x.block < w.heap.size) := fun x e hl => h1.lt hl x e
  clear h0 h1
  obtain ⟨i0, hi, hz0', hz1, hz2⟩ := info_parts info24
  go_enter Try.func4, Try.ntmps4
  go_wp2_with fail
  refine (rowOf_any HC0.out (by omega)).mono ?_
  rintro e w1 ⟨v5, vs, rfl, own5, hv4, HSv0, b1⟩
  obtain ⟨a5, c5, rfl, R5⟩ := own_rowV own5 (fun u hu => by have := (HSv0.out u hu).2; omega)
  have HR51 : Hid (RowV w1 a5 vs) := R5
  have hcap5 : vs.length ≤ c5 := by
    rcases own5.2 with ⟨hv, hz⟩ | ⟨g, cp, cur, hv, _, _, hn, _⟩
    · omega
    · injection hv with q1 q2 q3; omega
  clear own5 R5
  go_wp2_with fail
  refine (rowOf_any (HC1.out.below b1 HL1.out) (by omega)).mono ?_
  rintro e w2 ⟨v6, us, rfl, own6, hu4, HSu, b2⟩
  obtain ⟨a6, c6, e6, R6⟩ := own_rowV own6 (fun u hu => by have := (HSu.out u hu).2; omega)
  have hnil6 : a6 = none → us.length = 0 ∧ c6 = 0 := fun hn => by
    rcases own6.2 with ⟨hv, h0⟩ | ⟨g, cp, cur, hv, _⟩
    · rw [e6] at hv; injection hv with q1 q2 q3; exact ⟨h0, q3⟩
    · rw [e6, hn] at hv; cases hv
  subst e6
  have B2 := below_step b1 (Nat.le_refl _) b2
  have HR52 : Hid (RowV w2 a5 vs) := HR51.out.below b2
  have HR62 : Hid (RowV w2 a6 us) := R6
  have HN6 : Hid (a6 = none → us.length = 0 ∧ c6 = 0) := hnil6
  clear own6 R6 b1 b2 HR51 hnil6
  go_wp2_with fail
  refine (at_any (HC1.out.below B2 HL1.out) (by omega)).mono ?_
  rintro e w3 ⟨r, rfl, b3⟩
  have B3 := below_step B2 (Nat.le_refl _) b3
  have HR53 : Hid (RowV w3 a5 vs) := HR52.out.below b3
  have HR63 : Hid (RowV w3 a6 us) := HR62.out.below b3
  clear b3 HR52 HR62 B2
  have OKv : Hid (okRow vs = true) := short_ok HSv0.out (by omega)
  by_cases hr : r = 0 ∧ 0 < vs.length
  · obtain ⟨rfl, hpos⟩ := hr
    have hposI : (0 : Int) < (vs.length : Int) := by omega
    have hsum : (vs.length : Int) + (us.length : Int) ≤ 8 := by omega
    obtain ⟨m, hm⟩ : ∃ m, vs.length - 1 = m := ⟨_, rfl⟩
    have hsub : (vs.length : Int) - 1 = (m : Int) := by omega
    have hmI : (m : Int) ≤ (c5 : Int) := by omega
    have hm0 : (0 : Int) ≤ (m : Int) := by omega
    have hml : m ≤ vs.length := by omega
    obtain ⟨zs, hzs⟩ : ∃ zs, vs.take m ++ us = zs := ⟨_, rfl⟩
    have HSz : Hid (Short zs) := fun x hx => by
      rw [← hzs] at hx
      rcases List.mem_append.1 hx with hx | hx
      · exact HSv0.out x (List.mem_of_mem_take hx)
      · exact HSu.out x hx
    have hzl : zs.length = m + us.length := by rw [← hzs, List.length_append, List.length_take]; omega
    have hz8 : zs.length ≤ 8 := by omega
    have HCz : Hid (cells3 zs = cells3 (vs.take m) ++ cells3 us) := by show _ = _; rw [← hzs, cells3_app]
    obtain ⟨b5, o5, ea5, _⟩ := HR53.out 0 hpos
    have A3 : Below w3.heap.size w3 (w3.alloc (.cells #[] 24)) := (Below.refl _ _).alloc (Nat.le_refl _) _
    have own0 : (w3.alloc (.cells #[] 24)).ownsRow w3.heap.size 24 3 (.slice (some ⟨w3.heap.size, 0, none⟩) 0 0) 0 [] := own_none (Nat.le_refl _)
    have HZl : Hid (zs.length = m + us.length) := hzl
    have N5 : Hid (∀ p, a5 = some p → ∀ j u, (cells3 (vs.take m))[j]? = some u → (w3.alloc (.cells #[] 24)).cell? (p.add j) = some u) := fun p ep => by
      have hR := HR53.out.below A3
      rw [ep] at hR
      exact rowV_news hR m hml
    have NN5 : Hid (a5 = none → m = 0 ∧ c5 = 0 ∧ cells3 (vs.take m) = []) := fun hn => by rw [ea5] at hn; cases hn
    have L5 : Hid ((cells3 (vs.take m)).length = m * 3) := by show _ = _; rw [cells3_len, List.length_take]; omega
    have HA3 : Hid (Below w3.heap.size w3 (w3.alloc (.cells #[] 24))) := A3
    have HEa : Hid (a5 = some ⟨b5, o5, none⟩) := ea5
    clear A3 ea5 hzl hzs
    go_wp2_with (at_builtin; refine wpList_append_row3 rfl (.tmp 45) (.tmp 50) 29 rfl w3.heap.size 24 i0 (.agg #[.int .i64 0, .int .i64 0, .string ⟨#[]⟩]) 32 Try.underlying29 hi hz0' hz1 hz2 rfl _ 0 [] rfl own0 a5 m c5 (cells3 (vs.take m)) ?e1 NN5.out L5.out N5.out (cells3_one _) ?e2 ?e3 HA3.out.size ?_)
    case e1 => first | rfl | (go_simp; done)
    case e2 => unfold maxLen; omega
    case e3 => omega
    intro v51 w4 own4 hg4
    have G4 := grown_belowN HA3.out HA3.out.size own0 hg4
    have own4' : w4.ownsRow w3.heap.size 24 3 v51 m (cells3 (vs.take m)) := by simpa using own4
    have HR54 : Hid (RowV w4 a5 vs) := HR53.out.below G4
    have HR64 : Hid (RowV w4 a6 us) := HR63.out.below G4
    have N6 : Hid (∀ p, a6 = some p → ∀ j u, (cells3 us)[j]? = some u → w4.cell? (p.add j) = some u) := fun p ep j u hu => by
      have hR := HR64.out
      rw [ep] at hR
      have := rowV_news hR us.length (Nat.le_refl _) j u
      rw [List.take_length] at this
      exact this hu
    have NN6 : Hid (a6 = none → us.length = 0 ∧ c6 = 0 ∧ cells3 us = []) := fun hn => by
      obtain ⟨q1, q2⟩ := HN6.out hn
      refine ⟨q1, q2, ?_⟩
      rw [List.length_eq_zero_iff.1 q1]
      rfl
    have L6 : Hid ((cells3 us).length = us.length * 3) := cells3_len us
    clear own4 hg4 own0 N5 NN5 L5 HA3 HR63
    go_wp2_with (at_builtin; refine wpList_append_row3 rfl (.tmp 51) (.tmp 52) 29 rfl w3.heap.size 24 i0 (.agg #[.int .i64 0, .int .i64 0, .string ⟨#[]⟩]) 32 Try.underlying29 hi hz0' hz1 hz2 rfl _ m (cells3 (vs.take m)) rfl own4' a6 us.length c6 (cells3 us) rfl NN6.out L6.out N6.out (cells3_one _) ?f2 ?f3 G4.size ?_)
    case f2 => unfold maxLen; omega
    case f3 => omega
    intro v53 w5 own5 hg5
    have G5 := grown_belowN G4 G4.size own4' hg5
    have ownZ : w5.ownsRow w3.heap.size 24 3 v53 zs.length (cells3 zs) := by rw [HZl.out, HCz.out]; exact own5
    obtain ⟨ab, cb, rfl, RZ⟩ := own_rowV ownZ (fun u hu => by have := (HSz.out u hu).2; omega)
    have HRZ : Hid (RowV w5 ab zs) := RZ
    have HR55 : Hid (RowV w5 a5 vs) := HR53.out.below G5
    have B5' := below_step B3 (Nat.le_refl _) G5
    clear own5 hg5 ownZ RZ own4' G4 G5 HR53 HR54 HR64 N6 NN6 L6 hpos hposI hsum hsub hm
    have OKz : Hid (okRow zs = true) := short_ok HSz.out hz8
    obtain ⟨nx, hnx⟩ : ∃ n, (encKey vs).length = n := ⟨_, rfl⟩
    obtain ⟨ny, hny⟩ : ∃ n, (encKey zs).length = n := ⟨_, rfl⟩
    have hnx6 : nx ≤ 65536 := by rw [← hnx]; exact short_len HSv0.out (by omega)
    have hkN : keyN vs = nx := by unfold keyN; rw [if_pos OKv.out]; exact hnx
    have hrC : rowCode vs = 0 := by unfold rowCode; rw [if_neg (by omega), OKv.out]; rfl
    have hcc : crC vs zs = 0 := by unfold crC; rw [if_neg (by omega), OKv.out, OKz.out]; rfl
    obtain ⟨od, hod⟩ : ∃ o, cmpRows vs zs = o := ⟨_, rfl⟩
    have hcr : crR vs zs = od := by unfold crR; rw [if_pos hcc]; exact hod
    have HBk : Hid (keyR (byteVal (encKey vs)) nx = (0, vs)) := by show _ = _; rw [← hnx]; exact key_back (by omega) (fun x hx => (HSv0.out x hx).1) (by omega)
    have HBy : Hid (Bys (byteVal (encKey vs)) nx) := by rw [← hnx]; exact key_bys OKv.out
    have HSv : Hid (∀ u ∈ vs, u.2.2.size ≤ 255) := fun u hu => by have := (HSv0.out u hu).2; omega
    obtain ⟨X, hX⟩ : ∃ X, txt (byteVal (encKey vs)) nx = X := ⟨_, rfl⟩
    obtain ⟨Y, hY⟩ : ∃ Y, txt (byteVal (encKey zs)) ny = Y := ⟨_, rfl⟩
    have hord : (od = 0 ∧ Op.bytesLess X.toList Y.toList = false ∧ (X.toList == Y.toList) = true) ∨ (od < 0 ∧ Op.bytesLess X.toList Y.toList = true ∧ (X.toList == Y.toList) = false) ∨ (0 < od ∧ Op.bytesLess X.toList Y.toList = false ∧ (X.toList == Y.toList) = false) := by
      rw [← hX, ← hY, ← hnx, ← hny, ← hod]
      exact keys_order HSv0.out HSz.out OKv.out OKz.out
    clear hod
    go_wp2_with fail
    refine (implKeyBytes_cap a5 c5 vs w5 HR55.out OKv.out).mono ?_
    rintro e x1 ⟨g1, k1, rfl, hk1, _, own1, b1⟩
    have B1 := below_step B5' (Nat.le_refl _) b1
    have HX1 : Hid (ReadB x1 (some ⟨g1, 0, none⟩) (encKey vs).length (byteVal (encKey vs))) := own1.read
    have P5 : Hid (RowV x1 a5 vs) := HR55.out.below b1
    have P6 : Hid (RowV x1 ab zs) := HRZ.out.below b1
    have HK1 : Hid ((encKey vs).length ≤ k1) := hk1
    clear own1 b1 hk1
    rw [hnx] at *
    go_wp2_with fail
    refine (implKeyBytes_cap ab cb zs x1 P6.out OKz.out).mono ?_
    rintro e x2 ⟨g2, k2, rfl, _, _, own2, b2⟩
    have B2 := below_step B1 (Nat.le_refl _) b2
    have HX2 : Hid (ReadB x2 (some ⟨g1, 0, none⟩) nx (byteVal (encKey vs))) := HX1.out.below b2
    have HY2 : Hid (ReadB x2 (some ⟨g2, 0, none⟩) (encKey zs).length (byteVal (encKey zs))) := own2.read
    have Q5 : Hid (RowV x2 a5 vs) := P5.out.below b2
    have Q6 : Hid (RowV x2 ab zs) := P6.out.below b2
    clear own2 b2 HX1 P5 P6 B1
    rw [hny] at *
    go_wp2_with fail
    refine (specKeyBytes_any a5 c5 vs x2 Q5.out (by omega)).mono ?_
    rw [hkN, hrC]
    rintro e x3 ⟨a3, k3, rfl, hr3, b3⟩
    have B3 := below_step B2 (Nat.le_refl _) b3
    have HX3 : Hid (ReadB x3 (some ⟨g1, 0, none⟩) nx (byteVal (encKey vs))) := HX2.out.below b3
    have HY3 : Hid (ReadB x3 (some ⟨g2, 0, none⟩) ny (byteVal (encKey zs))) := HY2.out.below b3
    have HW3 : Hid (ReadB x3 a3 nx (byteVal (encKey vs))) := hr3
    have S5 : Hid (RowV x3 a5 vs) := Q5.out.below b3
    have S6 : Hid (RowV x3 ab zs) := Q6.out.below b3
    clear hr3 b3 HX2 HY2 Q5 Q6 B2
    go_wp2_with fail
    refine (implReadKey_any (some ⟨g1, 0, none⟩) k1 nx (byteVal (encKey vs)) x3 HX3.out HBy.out HK1.out (by omega)).mono ?_
    rw [HBk.out]
    rintro e x4 ⟨v4, rfl, ho4, b4⟩
    obtain ⟨a7, c7, rfl, R7⟩ := own_rowV ho4 HSv.out
    have B4 := below_step B3 (Nat.le_refl _) b4
    have HX4 : Hid (ReadB x4 (some ⟨g1, 0, none⟩) nx (byteVal (encKey vs))) := HX3.out.below b4
    have HY4 : Hid (ReadB x4 (some ⟨g2, 0, none⟩) ny (byteVal (encKey zs))) := HY3.out.below b4
    have HW4 : Hid (ReadB x4 a3 nx (byteVal (encKey vs))) := HW3.out.below b4
    have T5 : Hid (RowV x4 a5 vs) := S5.out.below b4
    have T6 : Hid (RowV x4 ab zs) := S6.out.below b4
    have T7 : Hid (RowV x4 a7 vs) := R7
    clear ho4 R7 b4 HX3 HY3 HW3 S5 S6 B3
    go_wp2_with fail
    refine (implCompareRows_any a5 ab c5 cb vs zs x4 T5.out T6.out (by omega) (by omega)).mono ?_
    rw [hcr, hcc]
    rintro e x5 ⟨rfl, b5⟩
    have B5 := below_step B4 (Nat.le_refl _) b5
    have hX5 := HX4.out.below b5
    have hY5 := HY4.out.below b5
    have hW5 := HW4.out.below b5
    have hSame := sameRow_any a7 a5 c7 c5 vs x5 (T7.out.below b5) (T5.out.below b5) (by omega)
    have hcX := conv_text x5 (some ⟨g1, 0, none⟩) nx k1 _ hX5
    have hcY := conv_text x5 (some ⟨g2, 0, none⟩) ny k2 _ hY5
    have hcW := conv_text x5 a3 nx k3 _ hW5
    have HX6 : Hid (ReadB x5 (some ⟨g1, 0, none⟩) nx (byteVal (encKey vs))) := hX5
    have HY6 : Hid (ReadB x5 (some ⟨g2, 0, none⟩) ny (byteVal (encKey zs))) := hY5
    rw [hX] at hcX hcW
    rw [hY] at hcY
    clear hX5 hY5 hW5 b5 HX4 HY4 HW4 T5 T6 T7 B4
    go_wp2_with fail
    refine hSame.mono ?_
    rintro e x6 ⟨rfl, b6⟩
    have B6 := below_step B5 (Nat.le_refl _) b6
    have hcX6 := conv_text x6 (some ⟨g1, 0, none⟩) nx k1 _ (HX6.out.below b6)
    have hcY6 := conv_text x6 (some ⟨g2, 0, none⟩) ny k2 _ (HY6.out.below b6)
    rw [hX] at hcX6
    rw [hY] at hcY6
    clear hSame b6 HX6 HY6 B5 hcX hcY hcW
    rcases hord with ⟨o0, e1, e2⟩ | ⟨o0, e1, e2⟩ | ⟨o0, e1, e2⟩
    · subst o0
      go_wp2
      go_ret
      exact ⟨rfl, B6⟩
    · have o1 : (od == 0) = false := beq_eq_false_iff_ne.2 (by omega)
      go_wp2
      go_ret
      exact ⟨rfl, B6⟩
    · have o1 : (od == 0) = false := beq_eq_false_iff_ne.2 (by omega)
      have o2 : decide (od < 0) = false := decide_eq_false (by omega)
      go_wp2
      go_ret
      exact ⟨rfl, B6⟩
  · have hcond : (r == 0) = false ∨ (¬ (0 : Int) < (vs.length : Int)) := by
      by_cases e : r = 0
      · exact .inr (fun h => hr ⟨e, by omega⟩)
      · exact .inl (beq_eq_false_iff_ne.2 e)
    have HSz : Hid (Short us) := HSu
    have hz8 : us.length ≤ 8 := by omega
    have OKz : Hid (okRow us = true) := short_ok HSz.out hz8
    obtain ⟨nx, hnx⟩ : ∃ n, (encKey vs).length = n := ⟨_, rfl⟩
    obtain ⟨ny, hny⟩ : ∃ n, (encKey us).length = n := ⟨_, rfl⟩
    have hnx6 : nx ≤ 65536 := by rw [← hnx]; exact short_len HSv0.out (by omega)
    have hkN : keyN vs = nx := by unfold keyN; rw [if_pos OKv.out]; exact hnx
    have hrC : rowCode vs = 0 := by unfold rowCode; rw [if_neg (by omega), OKv.out]; rfl
    have hcc : crC vs us = 0 := by unfold crC; rw [if_neg (by omega), OKv.out, OKz.out]; rfl
    obtain ⟨od, hod⟩ : ∃ o, cmpRows vs us = o := ⟨_, rfl⟩
    have hcr : crR vs us = od := by unfold crR; rw [if_pos hcc]; exact hod
    have HBk : Hid (keyR (byteVal (encKey vs)) nx = (0, vs)) := by show _ = _; rw [← hnx]; exact key_back (by omega) (fun x hx => (HSv0.out x hx).1) (by omega)
    have HBy : Hid (Bys (byteVal (encKey vs)) nx) := by rw [← hnx]; exact key_bys OKv.out
    have HSv : Hid (∀ u ∈ vs, u.2.2.size ≤ 255) := fun u hu => by have := (HSv0.out u hu).2; omega
    obtain ⟨X, hX⟩ : ∃ X, txt (byteVal (encKey vs)) nx = X := ⟨_, rfl⟩
    obtain ⟨Y, hY⟩ : ∃ Y, txt (byteVal (encKey us)) ny = Y := ⟨_, rfl⟩
    have hord : (od = 0 ∧ Op.bytesLess X.toList Y.toList = false ∧ (X.toList == Y.toList) = true) ∨ (od < 0 ∧ Op.bytesLess X.toList Y.toList = true ∧ (X.toList == Y.toList) = false) ∨ (0 < od ∧ Op.bytesLess X.toList Y.toList = false ∧ (X.toList == Y.toList) = false) := by
      rw [← hX, ← hY, ← hnx, ← hny, ← hod]
      exact keys_order HSv0.out HSz.out OKv.out OKz.out
    clear hod
    rcases hcond with hc | hc
    · go_wp2_with fail
      refine (implKeyBytes_cap a5 c5 vs w3 HR53.out OKv.out).mono ?_
      rintro e x1 ⟨g1, k1, rfl, hk1, _, own1, b1⟩
      have B1 := below_step B3 (Nat.le_refl _) b1
      have HX1 : Hid (ReadB x1 (some ⟨g1, 0, none⟩) (encKey vs).length (byteVal (encKey vs))) := own1.read
      have P5 : Hid (RowV x1 a5 vs) := HR53.out.below b1
      have P6 : Hid (RowV x1 a6 us) := HR63.out.below b1
      have HK1 : Hid ((encKey vs).length ≤ k1) := hk1
      clear own1 b1 hk1
      rw [hnx] at *
      go_wp2_with fail
      refine (implKeyBytes_cap a6 c6 us x1 P6.out OKz.out).mono ?_
      rintro e x2 ⟨g2, k2, rfl, _, _, own2, b2⟩
      have B2 := below_step B1 (Nat.le_refl _) b2
      have HX2 : Hid (ReadB x2 (some ⟨g1, 0, none⟩) nx (byteVal (encKey vs))) := HX1.out.below b2
      have HY2 : Hid (ReadB x2 (some ⟨g2, 0, none⟩) (encKey us).length (byteVal (encKey us))) := own2.read
      have Q5 : Hid (RowV x2 a5 vs) := P5.out.below b2
      have Q6 : Hid (RowV x2 a6 us) := P6.out.below b2
      clear own2 b2 HX1 P5 P6 B1
      rw [hny] at *
      go_wp2_with fail
      refine (specKeyBytes_any a5 c5 vs x2 Q5.out (by omega)).mono ?_
      rw [hkN, hrC]
      rintro e x3 ⟨a3, k3, rfl, hr3, b3⟩
      have B3 := below_step B2 (Nat.le_refl _) b3
      have HX3 : Hid (ReadB x3 (some ⟨g1, 0, none⟩) nx (byteVal (encKey vs))) := HX2.out.below b3
      have HY3 : Hid (ReadB x3 (some ⟨g2, 0, none⟩) ny (byteVal (encKey us))) := HY2.out.below b3
      have HW3 : Hid (ReadB x3 a3 nx (byteVal (encKey vs))) := hr3
      have S5 : Hid (RowV x3 a5 vs) := Q5.out.below b3
      have S6 : Hid (RowV x3 a6 us) := Q6.out.below b3
      clear hr3 b3 HX2 HY2 Q5 Q6 B2
      go_wp2_with fail
      refine (implReadKey_any (some ⟨g1, 0, none⟩) k1 nx (byteVal (encKey vs)) x3 HX3.out HBy.out HK1.out (by omega)).mono ?_
      rw [HBk.out]
      rintro e x4 ⟨v4, rfl, ho4, b4⟩
      obtain ⟨a7, c7, rfl, R7⟩ := own_rowV ho4 HSv.out
      have B4 := below_step B3 (Nat.le_refl _) b4
      have HX4 : Hid (ReadB x4 (some ⟨g1, 0, none⟩) nx (byteVal (encKey vs))) := HX3.out.below b4
      have HY4 : Hid (ReadB x4 (some ⟨g2, 0, none⟩) ny (byteVal (encKey us))) := HY3.out.below b4
      have HW4 : Hid (ReadB x4 a3 nx (byteVal (encKey vs))) := HW3.out.below b4
      have T5 : Hid (RowV x4 a5 vs) := S5.out.below b4
      have T6 : Hid (RowV x4 a6 us) := S6.out.below b4
      have T7 : Hid (RowV x4 a7 vs) := R7
      clear ho4 R7 b4 HX3 HY3 HW3 S5 S6 B3
      go_wp2_with fail
      refine (implCompareRows_any a5 a6 c5 c6 vs us x4 T5.out T6.out (by omega) (by omega)).mono ?_
      rw [hcr, hcc]
      rintro e x5 ⟨rfl, b5⟩
      have B5 := below_step B4 (Nat.le_refl _) b5
      have hX5 := HX4.out.below b5
      have hY5 := HY4.out.below b5
      have hW5 := HW4.out.below b5
      have hSame := sameRow_any a7 a5 c7 c5 vs x5 (T7.out.below b5) (T5.out.below b5) (by omega)
      have hcX := conv_text x5 (some ⟨g1, 0, none⟩) nx k1 _ hX5
      have hcY := conv_text x5 (some ⟨g2, 0, none⟩) ny k2 _ hY5
      have hcW := conv_text x5 a3 nx k3 _ hW5
      have HX6 : Hid (ReadB x5 (some ⟨g1, 0, none⟩) nx (byteVal (encKey vs))) := hX5
      have HY6 : Hid (ReadB x5 (some ⟨g2, 0, none⟩) ny (byteVal (encKey us))) := hY5
      rw [hX] at hcX hcW
      rw [hY] at hcY
      clear hX5 hY5 hW5 b5 HX4 HY4 HW4 T5 T6 T7 B4
      go_wp2_with fail
      refine hSame.mono ?_
      rintro e x6 ⟨rfl, b6⟩
      have B6 := below_step B5 (Nat.le_refl _) b6
      have hcX6 := conv_text x6 (some ⟨g1, 0, none⟩) nx k1 _ (HX6.out.below b6)
      have hcY6 := conv_text x6 (some ⟨g2, 0, none⟩) ny k2 _ (HY6.out.below b6)
      rw [hX] at hcX6
      rw [hY] at hcY6
      clear hSame b6 HX6 HY6 B5 hcX hcY hcW
      rcases hord with ⟨o0, e1, e2⟩ | ⟨o0, e1, e2⟩ | ⟨o0, e1, e2⟩
      · subst o0
        go_wp2
        go_ret
        exact ⟨rfl, B6⟩
      · have o1 : (od == 0) = false := beq_eq_false_iff_ne.2 (by omega)
        go_wp2
        go_ret
        exact ⟨rfl, B6⟩
      · have o1 : (od == 0) = false := beq_eq_false_iff_ne.2 (by omega)
        have o2 : decide (od < 0) = false := decide_eq_false (by omega)
        go_wp2
        go_ret
        exact ⟨rfl, B6⟩
    · by_cases hr0 : r = 0
      · subst hr0
        go_wp2_with fail
        refine (implKeyBytes_cap a5 c5 vs w3 HR53.out OKv.out).mono ?_
        rintro e x1 ⟨g1, k1, rfl, hk1, _, own1, b1⟩
        have B1 := below_step B3 (Nat.le_refl _) b1
        have HX1 : Hid (ReadB x1 (some ⟨g1, 0, none⟩) (encKey vs).length (byteVal (encKey vs))) := own1.read
        have P5 : Hid (RowV x1 a5 vs) := HR53.out.below b1
        have P6 : Hid (RowV x1 a6 us) := HR63.out.below b1
        have HK1 : Hid ((encKey vs).length ≤ k1) := hk1
        clear own1 b1 hk1
        rw [hnx] at *
        go_wp2_with fail
        refine (implKeyBytes_cap a6 c6 us x1 P6.out OKz.out).mono ?_
        rintro e x2 ⟨g2, k2, rfl, _, _, own2, b2⟩
        have B2 := below_step B1 (Nat.le_refl _) b2
        have HX2 : Hid (ReadB x2 (some ⟨g1, 0, none⟩) nx (byteVal (encKey vs))) := HX1.out.below b2
        have HY2 : Hid (ReadB x2 (some ⟨g2, 0, none⟩) (encKey us).length (byteVal (encKey us))) := own2.read
        have Q5 : Hid (RowV x2 a5 vs) := P5.out.below b2
        have Q6 : Hid (RowV x2 a6 us) := P6.out.below b2
        clear own2 b2 HX1 P5 P6 B1
        rw [hny] at *
        go_wp2_with fail
        refine (specKeyBytes_any a5 c5 vs x2 Q5.out (by omega)).mono ?_
        rw [hkN, hrC]
        rintro e x3 ⟨a3, k3, rfl, hr3, b3⟩
        have B3 := below_step B2 (Nat.le_refl _) b3
        have HX3 : Hid (ReadB x3 (some ⟨g1, 0, none⟩) nx (byteVal (encKey vs))) := HX2.out.below b3
        have HY3 : Hid (ReadB x3 (some ⟨g2, 0, none⟩) ny (byteVal (encKey us))) := HY2.out.below b3
        have HW3 : Hid (ReadB x3 a3 nx (byteVal (encKey vs))) := hr3
        have S5 : Hid (RowV x3 a5 vs) := Q5.out.below b3
        have S6 : Hid (RowV x3 a6 us) := Q6.out.below b3
        clear hr3 b3 HX2 HY2 Q5 Q6 B2
        go_wp2_with fail
        refine (implReadKey_any (some ⟨g1, 0, none⟩) k1 nx (byteVal (encKey vs)) x3 HX3.out HBy.out HK1.out (by omega)).mono ?_
        rw [HBk.out]
        rintro e x4 ⟨v4, rfl, ho4, b4⟩
        obtain ⟨a7, c7, rfl, R7⟩ := own_rowV ho4 HSv.out
        have B4 := below_step B3 (Nat.le_refl _) b4
        have HX4 : Hid (ReadB x4 (some ⟨g1, 0, none⟩) nx (byteVal (encKey vs))) := HX3.out.below b4
        have HY4 : Hid (ReadB x4 (some ⟨g2, 0, none⟩) ny (byteVal (encKey us))) := HY3.out.below b4
        have HW4 : Hid (ReadB x4 a3 nx (byteVal (encKey vs))) := HW3.out.below b4
        have T5 : Hid (RowV x4 a5 vs) := S5.out.below b4
        have T6 : Hid (RowV x4 a6 us) := S6.out.below b4
        have T7 : Hid (RowV x4 a7 vs) := R7
        clear ho4 R7 b4 HX3 HY3 HW3 S5 S6 B3
        go_wp2_with fail
        refine (implCompareRows_any a5 a6 c5 c6 vs us x4 T5.out T6.out (by omega) (by omega)).mono ?_
        rw [hcr, hcc]
        rintro e x5 ⟨rfl, b5⟩
        have B5 := below_step B4 (Nat.le_refl _) b5
        have hX5 := HX4.out.below b5
        have hY5 := HY4.out.below b5
        have hW5 := HW4.out.below b5
        have hSame := sameRow_any a7 a5 c7 c5 vs x5 (T7.out.below b5) (T5.out.below b5) (by omega)
        have hcX := conv_text x5 (some ⟨g1, 0, none⟩) nx k1 _ hX5
        have hcY := conv_text x5 (some ⟨g2, 0, none⟩) ny k2 _ hY5
        have hcW := conv_text x5 a3 nx k3 _ hW5
        have HX6 : Hid (ReadB x5 (some ⟨g1, 0, none⟩) nx (byteVal (encKey vs))) := hX5
        have HY6 : Hid (ReadB x5 (some ⟨g2, 0, none⟩) ny (byteVal (encKey us))) := hY5
        rw [hX] at hcX hcW
        rw [hY] at hcY
        clear hX5 hY5 hW5 b5 HX4 HY4 HW4 T5 T6 T7 B4
        go_wp2_with fail
        refine hSame.mono ?_
        rintro e x6 ⟨rfl, b6⟩
        have B6 := below_step B5 (Nat.le_refl _) b6
        have hcX6 := conv_text x6 (some ⟨g1, 0, none⟩) nx k1 _ (HX6.out.below b6)
        have hcY6 := conv_text x6 (some ⟨g2, 0, none⟩) ny k2 _ (HY6.out.below b6)
        rw [hX] at hcX6
        rw [hY] at hcY6
        clear hSame b6 HX6 HY6 B5 hcX hcY hcW
        rcases hord with ⟨o0, e1, e2⟩ | ⟨o0, e1, e2⟩ | ⟨o0, e1, e2⟩
        · subst o0
          go_wp2
          go_ret
          exact ⟨rfl, B6⟩
        · have o1 : (od == 0) = false := beq_eq_false_iff_ne.2 (by omega)
          go_wp2
          go_ret
          exact ⟨rfl, B6⟩
        · have o1 : (od == 0) = false := beq_eq_false_iff_ne.2 (by omega)
          have o2 : decide (od < 0) = false := decide_eq_false (by omega)
          go_wp2
          go_ret
          exact ⟨rfl, B6⟩
      · have hc' : (r == 0) = false := beq_eq_false_iff_ne.2 hr0
        go_wp2_with fail
        refine (implKeyBytes_cap a5 c5 vs w3 HR53.out OKv.out).mono ?_
        rintro e x1 ⟨g1, k1, rfl, hk1, _, own1, b1⟩
        have B1 := below_step B3 (Nat.le_refl _) b1
        have HX1 : Hid (ReadB x1 (some ⟨g1, 0, none⟩) (encKey vs).length (byteVal (encKey vs))) := own1.read
        have P5 : Hid (RowV x1 a5 vs) := HR53.out.below b1
        have P6 : Hid (RowV x1 a6 us) := HR63.out.below b1
        have HK1 : Hid ((encKey vs).length ≤ k1) := hk1
        clear own1 b1 hk1
        rw [hnx] at *
        go_wp2_with fail
        refine (implKeyBytes_cap a6 c6 us x1 P6.out OKz.out).mono ?_
        rintro e x2 ⟨g2, k2, rfl, _, _, own2, b2⟩
        have B2 := below_step B1 (Nat.le_refl _) b2
        have HX2 : Hid (ReadB x2 (some ⟨g1, 0, none⟩) nx (byteVal (encKey vs))) := HX1.out.below b2
        have HY2 : Hid (ReadB x2 (some ⟨g2, 0, none⟩) (encKey us).length (byteVal (encKey us))) := own2.read
        have Q5 : Hid (RowV x2 a5 vs) := P5.out.below b2
        have Q6 : Hid (RowV x2 a6 us) := P6.out.below b2
        clear own2 b2 HX1 P5 P6 B1
        rw [hny] at *
        go_wp2_with fail
        refine (specKeyBytes_any a5 c5 vs x2 Q5.out (by omega)).mono ?_
        rw [hkN, hrC]
        rintro e x3 ⟨a3, k3, rfl, hr3, b3⟩
        have B3 := below_step B2 (Nat.le_refl _) b3
        have HX3 : Hid (ReadB x3 (some ⟨g1, 0, none⟩) nx (byteVal (encKey vs))) := HX2.out.below b3
        have HY3 : Hid (ReadB x3 (some ⟨g2, 0, none⟩) ny (byteVal (encKey us))) := HY2.out.below b3
        have HW3 : Hid (ReadB x3 a3 nx (byteVal (encKey vs))) := hr3
        have S5 : Hid (RowV x3 a5 vs) := Q5.out.below b3
        have S6 : Hid (RowV x3 a6 us) := Q6.out.below b3
        clear hr3 b3 HX2 HY2 Q5 Q6 B2
        go_wp2_with fail
        refine (implReadKey_any (some ⟨g1, 0, none⟩) k1 nx (byteVal (encKey vs)) x3 HX3.out HBy.out HK1.out (by omega)).mono ?_
        rw [HBk.out]
        rintro e x4 ⟨v4, rfl, ho4, b4⟩
        obtain ⟨a7, c7, rfl, R7⟩ := own_rowV ho4 HSv.out
        have B4 := below_step B3 (Nat.le_refl _) b4
        have HX4 : Hid (ReadB x4 (some ⟨g1, 0, none⟩) nx (byteVal (encKey vs))) := HX3.out.below b4
        have HY4 : Hid (ReadB x4 (some ⟨g2, 0, none⟩) ny (byteVal (encKey us))) := HY3.out.below b4
        have HW4 : Hid (ReadB x4 a3 nx (byteVal (encKey vs))) := HW3.out.below b4
        have T5 : Hid (RowV x4 a5 vs) := S5.out.below b4
        have T6 : Hid (RowV x4 a6 us) := S6.out.below b4
        have T7 : Hid (RowV x4 a7 vs) := R7
        clear ho4 R7 b4 HX3 HY3 HW3 S5 S6 B3
        go_wp2_with fail
        refine (implCompareRows_any a5 a6 c5 c6 vs us x4 T5.out T6.out (by omega) (by omega)).mono ?_
        rw [hcr, hcc]
        rintro e x5 ⟨rfl, b5⟩
        have B5 := below_step B4 (Nat.le_refl _) b5
        have hX5 := HX4.out.below b5
        have hY5 := HY4.out.below b5
        have hW5 := HW4.out.below b5
        have hSame := sameRow_any a7 a5 c7 c5 vs x5 (T7.out.below b5) (T5.out.below b5) (by omega)
        have hcX := conv_text x5 (some ⟨g1, 0, none⟩) nx k1 _ hX5
        have hcY := conv_text x5 (some ⟨g2, 0, none⟩) ny k2 _ hY5
        have hcW := conv_text x5 a3 nx k3 _ hW5
        have HX6 : Hid (ReadB x5 (some ⟨g1, 0, none⟩) nx (byteVal (encKey vs))) := hX5
        have HY6 : Hid (ReadB x5 (some ⟨g2, 0, none⟩) ny (byteVal (encKey us))) := hY5
        rw [hX] at hcX hcW
        rw [hY] at hcY
        clear hX5 hY5 hW5 b5 HX4 HY4 HW4 T5 T6 T7 B4
        go_wp2_with fail
        refine hSame.mono ?_
        rintro e x6 ⟨rfl, b6⟩
        have B6 := below_step B5 (Nat.le_refl _) b6
        have hcX6 := conv_text x6 (some ⟨g1, 0, none⟩) nx k1 _ (HX6.out.below b6)
        have hcY6 := conv_text x6 (some ⟨g2, 0, none⟩) ny k2 _ (HY6.out.below b6)
        rw [hX] at hcX6
        rw [hY] at hcY6
        clear hSame b6 HX6 HY6 B5 hcX hcY hcW
        rcases hord with ⟨o0, e1, e2⟩ | ⟨o0, e1, e2⟩ | ⟨o0, e1, e2⟩
        · subst o0
          go_wp2
          go_ret
          exact ⟨rfl, B6⟩
        · have o1 : (od == 0) = false := beq_eq_false_iff_ne.2 (by omega)
          go_wp2
          go_ret
          exact ⟨rfl, B6⟩
        · have o1 : (od == 0) = false := beq_eq_false_iff_ne.2 (by omega)
          have o2 : decide (od < 0) = false := decide_eq_false (by omega)
          go_wp2
          go_ret
          exact ⟨rfl, B6⟩
end Go.Proofs.Ytfkenogbfbbbjaa
