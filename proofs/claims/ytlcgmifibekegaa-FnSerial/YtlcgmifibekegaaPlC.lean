/- impl's PlayHistory (stage 8). -/
import Derived.Test.YtlcgmifibekegaaPlA
namespace Go.Proofs.Ytlcgmifibekegaa
open Go.RowKit Go.Maps Go.Sort

theorem takeH_snoc {l : List TH} {k : Nat} (h : k < l.length) : l.take (k + 1) = l.take k ++ [nthH l k] := by
  rw [nthH_get h, List.take_add_one, List.getElem?_eq_getElem h]; rfl
theorem less_nil (x : List UInt8) : Op.bytesLess x [] = false := by
  rw [bytesLess_eq]
  exact decide_eq_false (List.not_lt_nil x)
theorem span_all (es : List TY) : (es.filter fun e => spanB ⟨#[]⟩ ⟨#[]⟩ false e.1) = es := by
  refine List.filter_eq_self.2 fun e _ => ?_
  have : (⟨#[]⟩ : ByteArray).toList = [] := by rw [ByteArray.toList_eq]
  unfold spanB
  rw [this, less_nil]
  rfl
theorem selL_mem {f : Nat → Bool} {ss : List TH} {k : Nat} {x : TH} (h : x ∈ selL f ss k) : x ∈ ss := by
  unfold selL at h
  exact List.mem_of_mem_take (List.mem_filter.1 h).1

set_option maxRecDepth 100000 in
set_option maxHeartbeats 8000000 in
theorem implPlayHistory_any (a : Option Addr) (cap : Nat) (ss : List TH) (w : World) (h : RowH w a ss) (hl : ss.length ≤ 1048576) :
    Calls Try.prog 22 #[.slice a ss.length cap] w (RetPl w (plV ss) (hisC ss)) := by
  have HR : Hid (RowH w a ss) := h
  have hcall := historyCode_any a cap ss w h hl
  have HC : Hid (plV ss = if hisC ss = 0 then playL (selL (comF ss ss.length) ss ss.length) else ([], [])) := rfl
  have hops : hisC ss = 0 → ∀ W, RowH W a ss → Calls Try.prog 70 #[.slice a ss.length cap] W fun e w' => ∃ v, e = .returned v ∧ OwnH w' W.heap.size v (selL (comF ss ss.length) ss ss.length) ∧ Below W.heap.size W w' := fun e W hW => committedOps_any a cap ss W hW hl (hisC_ok e).txs
  have HZ : Hid (∀ i, i < (selL (comF ss ss.length) ss ss.length).length → (nthH (selL (comF ss ss.length) ss ss.length) i).2.2.1.size ≤ maxLen ∧ (nthH (selL (comF ss ss.length) ss ss.length) i).2.2.2.size ≤ maxLen) := fun i hi => by
    have hm : nthH (selL (comF ss ss.length) ss ss.length) i ∈ ss := by rw [nthH_get hi]; exact selL_mem (List.getElem_mem _)
    obtain ⟨j, hj, e⟩ := List.mem_iff_getElem.1 hm
    obtain ⟨_, _, _, _, _, hs⟩ := h j hj
    rw [nthH_get hj, e] at hs
    exact hs
  have HSL : Hid (hisC ss = 0 → (selL (comF ss ss.length) ss ss.length).length ≤ 60) := fun e => by
    have h1 := selL_len (comF ss ss.length) ss ss.length
    have h2 := (hisC_ok e).1
    omega
  generalize hisC ss = c at *
  generalize plV ss = L at *
  generalize selL (comF ss ss.length) ss ss.length = ops at *
  clear h
  obtain ⟨i0, hI, hz0, hz1, hz2⟩ := info_parts info9
  go_enter Try.func22, Try.ntmps22
  go_wp2_with fail
  refine hcall.mono ?_
  rintro e w1 ⟨rfl, b1⟩
  clear hcall
  by_cases hc : c = 0
  · subst hc
    have E : Hid (L = playL ops) := HC.out
    have A1 : Below w1.heap.size w1 (w1.alloc (.map #[] 0)) := (Below.refl _ _).alloc (Nat.le_refl _) _
    have hcall := hops rfl (w1.alloc (.map #[] 0)) ((HR.out.below b1).below A1)
    have HM1 : Hid (PlM (w1.alloc (.map #[] 0)) w1.heap.size 0 []) := ⟨_, MapV.made w1, fun k => rfl, List.Pairwise.nil, fun e he => by cases he⟩
    have hl60 := HSL.out rfl
    have hmm : (Instr.makeMap 110 none).run Try.prog w1 = .ok (.map (some w1.heap.size)) (w1.alloc (.map #[] 0)) := rfl
    clear hops HSL HC
    go_wp2_with fail
    refine hcall.mono ?_
    rintro e w2 ⟨ov, rfl, o2, b2⟩
    have HM2 : Hid (PlM w2 w1.heap.size 0 []) := by
      obtain ⟨f, hM, r⟩ := HM1.out
      exact ⟨f, hM.below b2 (by simp), r⟩
    obtain ⟨oa, oc, hoe, hor⟩ := o2.row HZ.out
    subst hoe
    have HOR : Hid (RowH w2 oa ops) := hor
    have HB2 : Hid (Below w.heap.size w w2) := (b1.trans (A1.mono b1.size)).trans (b2.mono (by have := b1.size; simp; omega))
    have hs12 : w1.heap.size < w2.heap.size := by have := b2.size; simp at this; omega
    have hs01 : w.heap.size ≤ w1.heap.size := b1.size
    have HIM : Hid (∃ es c, w2.heap[w1.heap.size]? = some (.map es c)) := HM2.out.isMap
    clear hcall o2 b2 hor HM1 A1 b1 hmm
    obtain ⟨n, hn⟩ : ∃ n, ops.length = n := ⟨_, rfl⟩
    have HN : Hid (ops.length = n) := hn
    rw [hn] at hl60 HZ ⊢
    clear hn
    go_wp2
    go_loopw [6, 19] (fun v i wr => ∃ k : Nat, k ≤ n ∧ i = .int .i64 k ∧ OwnS wr w2.heap.size v (playL (ops.take k)).1 ∧ Hid (PlM wr w1.heap.size k (playL (ops.take k)).2) ∧ Kept (fun j => j = w1.heap.size) w2 wr) (fun _ i _ => n - (intOf i).toNat)
    case atStart => exact ⟨0, by omega, rfl, OwnS.nil _ _, HM2, Kept.refl _ _⟩
    case round =>
      obtain ⟨k, hk, rfl, hS, HM, hK⟩ := hrel
      have HS : Hid (OwnS wr w2.heap.size u6 (playL (ops.take k)).1) := hS
      have hsr : w2.heap.size ≤ wr.heap.size := hK.size
      clear hS
      by_cases hlt : k < n
      · have hltI : (k : Int) < (n : Int) := by omega
        obtain ⟨b, off, rfl, hlb, ⟨q0, q1, q2, q3⟩, z1, z2⟩ := (HOR.out.kept hK HIM.out) k (by rw [HN.out]; exact hlt)
        have hst : playL (ops.take (k + 1)) = stepP (playL (ops.take k)) (nthH ops k) := by rw [takeH_snoc (by rw [HN.out]; exact hlt), playL_snoc]
        have hlen := playL_len (ops.take k)
        have htl : (ops.take k).length ≤ k := by rw [List.length_take]; omega
        obtain ⟨P, hPe⟩ : ∃ P, playL (ops.take k) = P := ⟨_, rfl⟩
        rw [hPe] at hst hlen HS HM
        have HST : Hid (playL (ops.take (k + 1)) = stepP P (nthH ops k)) := hst
        clear hst hPe
        generalize nthH ops k = x at *
        obtain ⟨tx, kd, ky, va⟩ := x
        simp only at q0 q1 q2 q3 z1 z2
        obtain ⟨W1, hW1⟩ : ∃ W1, wr.alloc (.cells #[.int .i64 tx, .int .i64 kd, .string ky, .string va] 107) = W1 := ⟨_, rfl⟩
        have yb : W1.heap[wr.heap.size]? = some (.cells #[.int .i64 tx, .int .i64 kd, .string ky, .string va] 107 (0, 0)) := hW1 ▸ heap_new' _ _ _ rfl
        have m1 : W1.cell? ⟨wr.heap.size, 1, none⟩ = some (.int .i64 kd) := slab_cell yb
        have m2 : W1.cell? ⟨wr.heap.size, 2, none⟩ = some (.string ky) := slab_cell yb
        have m3 : W1.cell? ⟨wr.heap.size, 3, none⟩ = some (.string va) := slab_cell yb
        have HK1 : Hid (Kept (fun j => j = w1.heap.size) w2 W1) := (hW1 ▸ hK.alloc _ : Kept _ w2 W1)
        have HS1 : Hid (OwnS W1 w2.heap.size u6 P.1) := (hW1 ▸ HS.out.alloc _ : OwnS W1 _ _ _)
        have HM1 : Hid (PlM W1 w1.heap.size k P.2) := (hW1 ▸ HM.out.alloc _ : PlM W1 _ _ _)
        have hs1 : w2.heap.size ≤ W1.heap.size := HK1.out.size
        clear yb HS HM hK z2
        by_cases k1 : kd = 1
        · subst k1
          have HN1 : Hid (playL (ops.take (k + 1)) = (P.1 ++ [(valY P.2 ky).getD noT], P.2)) := HST.out
          obtain ⟨kx, bb, ee, hlook⟩ := HM1.out.look ky z1
          generalize (valY P.2 ky).getD noT = vv at *
          have hfl := run_field3 kx bb ee vv W1
          clear HST
          go_wp2_with (at_builtin; refine wpList_append_own _ rfl _ _ 36 rfl w2.heap.size 9 i0 (.string ⟨#[]⟩) 1 16 Try.underlying36 hI hz0 hz1 hz2 rfl (by decide) _ _ _ rfl (HS1.out.alloc _) ⟨W1.heap.size, 0, none⟩ 1 1 [.string vv] rfl rfl (cell_one_new _ _ _) ?m4 ?m1 ?m2 ?m3 ?_)
          case m4 => intro u hu; simp at hu; subst hu; rfl
          case m1 => unfold maxLen; omega
          case m2 => omega
          case m3 => first | omega | (simp; omega)
          intro v' w3 ho3 g3 _
          have HS3 : Hid (OwnS w3 w2.heap.size v' (P.1 ++ [vv])) := OwnS.snoc (p := vv) ho3
          have hrow : ∀ j, u6.ownBlock = some j → w2.heap.size ≤ j := fun j hj => (own_lt HS1.out hj).1
          have HM3 : Hid (PlM w3 w1.heap.size k P.2) := (HM1.out.alloc _).kept g3 (fun e => by have := hrow _ e.symm; omega)
          have HK3 : Hid (Kept (fun j => j = w1.heap.size) w2 w3) := (HK1.out.alloc _).grown g3 (fun j hj => .inr (hrow j hj))
          clear ho3 g3 hrow
          go_wp2
          go_roundw
          case rel => exact ⟨k + 1, by omega, by go_num, by rw [HN1.out]; exact HS3.out, by rw [HN1.out]; exact HM3.out.mono (by omega), HK3.out⟩
          case measure => simp [intOf]; omega
        · have k1' : (kd == 1) = false := by simpa using k1
          by_cases k2 : kd = 2
          · subst k2
            have HN1 : Hid (playL (ops.take (k + 1)) = (P.1, overV P.2 [(ky, va, false)])) := HST.out
            obtain ⟨w3, hput, hM3, g3⟩ := HM1.out.put ky va z1 (by unfold maxLen; omega)
            have HM3 : Hid (PlM w3 w1.heap.size (k + 1) (overV P.2 [(ky, va, false)])) := hM3
            have HS3 : Hid (OwnS w3 w2.heap.size u6 P.1) := own_at HS1.out (fun j hj => g3.block j (own_lt HS1.out hj).2 (fun e => by have h1 := (own_lt HS1.out hj).1; cases e; omega))
            have HK3 : Hid (Kept (fun j => j = w1.heap.size) w2 w3) := HK1.out.grown g3 (fun j hj => .inl (by cases hj; rfl))
            clear HST hM3 g3
            go_wp2
            go_roundw
            case rel => exact ⟨k + 1, by omega, by go_num, by rw [HN1.out]; exact HS3.out, by rw [HN1.out]; exact HM3.out, HK3.out⟩
            case measure => simp [intOf]; omega
          · have k2' : (kd == 2) = false := by simpa using k2
            have HN1 : Hid (playL (ops.take (k + 1)) = P) := by show _ = _; rw [HST.out]; unfold stepP; rw [if_neg k1, if_neg k2]
            clear HST
            go_wp2
            go_roundw
            case rel => exact ⟨k + 1, by omega, by go_num, by rw [HN1.out]; exact HS1.out, by rw [HN1.out]; exact HM1.out.mono (by omega), HK1.out⟩
            case measure => simp [intOf]; omega
      · obtain rfl : k = n := by omega
        have e1 : ops.take k = ops := by rw [← HN.out]; exact List.take_length
        rw [e1] at HS HM
        have hent : Calls Try.prog 79 #[.map (some w1.heap.size), .agg #[.string ⟨#[]⟩, .string ⟨#[]⟩, .bool false]] wr fun e w' => ∃ v, e = .returned v ∧ OwnY w' wr.heap.size v (playL ops).2 ∧ Below wr.heap.size wr w' := by
          obtain ⟨f, hM, hlk, hr, hz⟩ := HM.out
          have h1 := entries_any w1.heap.size k f (playL ops).2 ⟨#[]⟩ ⟨#[]⟩ false wr hM (by have := (playL_len ops).2; rw [HN.out] at this; omega) hr hlk (fun i hi => hz _ (by rw [nthY_get hi]; exact List.getElem_mem _))
          rw [span_all] at h1
          exact h1
        have HBE : Hid (Below w.heap.size w wr) := HB2.out.trans (hK.below (by omega) (fun j hj => by omega))
        clear e1
        go_wp2_with fail
        refine hent.mono ?_
        rintro e w3 ⟨yv, rfl, o3, b3⟩
        have O1 : Hid (OwnS w3 w.heap.size u6 (playL ops).1) := own_mono (HS.out.below b3) (by omega)
        have O2 : Hid (OwnY w3 w.heap.size yv (playL ops).2) := own_mono o3 (by omega)
        have B3 := below_step HBE.out (Nat.le_refl _) b3
        clear hent o3 b3
        go_wp2
        go_ret3
        rw [E.out]
        exact ⟨_, _, rfl, O1.out, O2.out, B3⟩
  · have E : Hid (L = ([], [])) := by show _ = _; rw [HC.out, if_neg hc]
    have hc' : (c == 0) = false := by simpa using hc
    clear hc hops
    go_wp2
    go_ret3
    rw [E.out]
    exact ⟨_, _, rfl, OwnS.nil _ _, OwnY.nil _ _, b1⟩
end Go.Proofs.Ytlcgmifibekegaa
