/- What a transaction's reads find, as the law looks them up (stage 8). -/
import Derived.Test.YtlcgmifibekegaaMsB
import Derived.Test.YtlcgmifibekegaaRdC
import Derived.Test.YtlcgmifibekegaaPlC
namespace Go.Proofs.Ytlcgmifibekegaa
open Go.RowKit

theorem rdsF_snoc (t : Int) (x : TH) : ∀ (l : List TH) (s : List TS × List TY), rdsF t s (l ++ [x]) = rdsF t s l ++ if x.2.1 = 1 ∧ x.1 = t then [(valY (l.foldl stepP s).2 x.2.2.1).getD noT] else []
  | [], s => by simp [rdsF]
  | y :: l, s => by rw [List.cons_append, rdsF, rdsF, rdsF_snoc t x l (stepP s y), List.append_assoc, List.foldl_cons]
theorem rdsT_snoc (t : Int) (l : List TH) (x : TH) : rdsT t (l ++ [x]) = rdsT t l ++ if x.2.1 = 1 ∧ x.1 = t then [(valY (playL l).2 x.2.2.1).getD noT] else [] := rdsF_snoc t x l ([], [])
theorem rdsF_len (t : Int) : ∀ (l : List TH) (s : List TS × List TY), (rdsF t s l).length ≤ l.length
  | [], _ => Nat.le_refl _
  | x :: l, s => by
    rw [rdsF, List.length_append, List.length_cons]
    have := rdsF_len t l (stepP s x)
    split <;> simp <;> omega
theorem rdsT_len (t : Int) (l : List TH) : (rdsT t l).length ≤ l.length := rdsF_len t l _
theorem fold_pref : ∀ (B : List TH) (s : List TS × List TY), ∃ R, (B.foldl stepP s).1 = s.1 ++ R
  | [], s => ⟨[], by simp⟩
  | x :: B, s => by
    obtain ⟨R, h⟩ := fold_pref B (stepP s x)
    rw [List.foldl_cons, h]
    unfold stepP
    split
    · exact ⟨[(valY s.2 x.2.2.1).getD noT] ++ R, by simp⟩
    · split
      · exact ⟨R, rfl⟩
      · exact ⟨R, rfl⟩
theorem play_at (A B : List TH) (x : TH) (hx : x.2.1 = 1) : (playL A).1.length < (playL (A ++ x :: B)).1.length ∧ nthS (playL (A ++ x :: B)).1 (playL A).1.length = (valY (playL A).2 x.2.2.1).getD noT := by
  obtain ⟨R, h⟩ := fold_pref B (stepP (playL A) x)
  have e : (playL (A ++ x :: B)).1 = (playL A).1 ++ ((valY (playL A).2 x.2.2.1).getD noT :: R) := by
    show ((A ++ x :: B).foldl stepP ([], [])).1 = _
    rw [List.foldl_append, List.foldl_cons]
    show (B.foldl stepP (stepP (playL A) x)).1 = _
    rw [h]
    unfold stepP
    rw [if_pos hx]
    simp
  rw [e]
  refine ⟨by simp, ?_⟩
  rw [nthS_get (by simp)]
  simp
theorem sel_split (f : Nat → Bool) {ss : List TH} {k : Nat} (h : k < ss.length) (hf : f (nthH ss k).1.toNat = true) : ∃ B, selL f ss ss.length = selL f ss k ++ nthH ss k :: B := by
  refine ⟨(ss.drop (k + 1)).filter fun x => f x.1.toNat, ?_⟩
  have e := selL_step f h
  rw [if_pos hf] at e
  have e2 : selL f ss ss.length = selL f ss (k + 1) ++ (ss.drop (k + 1)).filter fun x => f x.1.toNat := by
    unfold selL
    rw [List.take_length, ← List.filter_append, List.take_append_drop]
  rw [e2, e, List.append_assoc]
  rfl

set_option maxRecDepth 100000 in
set_option maxHeartbeats 8000000 in
theorem reads_any (a : Option Addr) (cap : Nat) (ss : List TH) (tx : Int) (w : World) (h : RowH w a ss) (h0 : hisC ss = 0) :
    Calls Try.prog 24 #[.slice a ss.length cap, .int .i64 tx] w fun e w' => ∃ v, e = .returned v ∧ OwnS w' w.heap.size v (rdsT tx (comO ss)) ∧ Below w.heap.size w w' := by
  have hp := hisC_ok h0
  have hl := hp.1
  have HR : Hid (RowH w a ss) := h
  have HP : Hid (TxsP ss) := hp.txs
  have hcall := specCommitted_any a cap ss w h (by omega)
  have hplay : ∀ W, Below w.heap.size w W → Calls Try.prog 22 #[.slice a ss.length cap] W (RetPl W (plV ss) (hisC ss)) := fun W hW => implPlayHistory_any a cap ss W (h.below hW) (by omega)
  have ec : cmL ss = setL (comF ss ss.length) 6 := by unfold cmL; rw [if_pos h0]
  have ev : plV ss = playL (selL (comF ss ss.length) ss ss.length) := by unfold plV; rw [if_pos h0]
  have hpl := plV_len ss
  rw [ec] at hcall
  rw [ev] at hplay hpl
  show Calls Try.prog 24 #[.slice a ss.length cap, .int .i64 tx] w fun e w' => ∃ v, e = .returned v ∧ OwnS w' w.heap.size v (rdsT tx (selL (comF ss ss.length) ss ss.length)) ∧ Below w.heap.size w w'
  rw [h0] at hcall hplay
  obtain ⟨f, hf⟩ : ∃ f, comF ss ss.length = f := ⟨_, rfl⟩
  rw [hf] at hcall hplay hpl ⊢
  clear h h0 hp hf ec ev
  have HSP : Hid (∀ k, k < ss.length → f (nthH ss k).1.toNat = true → ∃ B, selL f ss ss.length = selL f ss k ++ nthH ss k :: B) := fun k hk hf => sel_split f hk hf
  obtain ⟨n, hn⟩ : ∃ m, ss.length = m := ⟨_, rfl⟩
  have HL : Hid (ss.length = n) := hn
  rw [hn] at hl hcall hplay hpl HSP ⊢
  clear hn
  obtain ⟨AL, hAL⟩ : ∃ A, playL (selL f ss n) = A := ⟨_, rfl⟩
  have HAL : Hid (playL (selL f ss n) = AL) := hAL
  rw [hAL] at hplay hpl
  obtain ⟨nA, hnA⟩ : ∃ m, AL.1.length = m := ⟨_, rfl⟩
  have HNA : Hid (AL.1.length = nA) := hnA
  rw [hnA] at hpl
  clear hAL hnA
  obtain ⟨i0, hI, hz0, hz1, hz2⟩ := info_parts info9
  go_enter Try.func24, Try.ntmps24
  go_wp2_with fail
  refine hcall.mono ?_
  rintro e w1 ⟨dv, rfl, o1, b1⟩
  have HD1 : Hid (OwnI w1 w.heap.size dv (setL f 6)) := o1
  have hpl2 := hplay w1 b1
  have hs1 : w.heap.size ≤ w1.heap.size := b1.size
  clear hcall o1 hplay
  go_wp2_with fail
  refine hpl2.mono ?_
  rintro e w2 ⟨v1, v2, rfl, p1, p2, b2⟩
  obtain ⟨aS, cS, rfl, rS⟩ := p1.row
  rw [HNA.out]
  have HRS : Hid (RowS w2 aS AL.1) := rS
  have HD : Hid (OwnI w2 w.heap.size dv (setL f 6)) := HD1.out.below b2
  have HB : Hid (Below w.heap.size w w2) := below_step b1 (Nat.le_refl _) b2
  have hs2 : w.heap.size ≤ w2.heap.size := HB.out.size
  have A2 : Below w2.heap.size w2 (w2.alloc (.cells #[] 9)) := (Below.refl _ _).alloc (Nat.le_refl _) _
  have HO : Hid (OwnS (w2.alloc (.cells #[] 9)) w2.heap.size (.slice (some ⟨w2.heap.size, 0, none⟩) 0 0) []) := OwnS.made w2 w2.heap.size (Nat.le_refl _)
  clear HD1 b1 b2 p1 p2 rS hpl2
  go_wp2
  go_loopw [10, 11, 12] (fun ov kv i wr => ∃ k : Nat, k ≤ n ∧ i = .int .i64 k ∧ kv = .int .i64 ((playL (selL f ss k)).1.length : Nat) ∧ OwnS wr w2.heap.size ov (rdsT tx (selL f ss k)) ∧ Below w2.heap.size w2 wr) (fun _ _ i _ => n - (intOf i).toNat)
  case atStart => exact ⟨0, by omega, rfl, by rw [selL_zero]; rfl, by rw [selL_zero]; exact HO.out, A2⟩
  case round =>
    clear HO A2
    obtain ⟨k, hk, rfl, rfl, hO, hbl⟩ := hrel
    have hB : Below w.heap.size w wr := HB.out.trans (hbl.mono hs2)
    have hsr : w2.heap.size ≤ wr.heap.size := hbl.size
    by_cases hlt : k < n
    · have hltI : (k : Int) < (n : Int) := by omega
      obtain ⟨b, off, rfl, hlb, ⟨q0, q1, q2, q3⟩, z1, z2⟩ := (HR.out.below hB) k (by rw [HL.out]; exact hlt)
      obtain ⟨t0, t5⟩ := HP.out k (by rw [HL.out]; exact hlt)
      have hst := selL_step f (ss := ss) (k := k) (by rw [HL.out]; exact hlt)
      have hlen := playL_len (selL f ss k)
      have hrl := rdsT_len tx (selL f ss k)
      have hsl := selL_len f ss k
      have hsp := HSP.out k hlt
      have hat : f (nthH ss k).1.toNat = true → (nthH ss k).2.1 = 1 → (playL (selL f ss k)).1.length < nA ∧ nthS AL.1 (playL (selL f ss k)).1.length = (valY (playL (selL f ss k)).2 (nthH ss k).2.2.1).getD noT := fun h1 h2 => by
        obtain ⟨B, e⟩ := hsp h1
        have := play_at (selL f ss k) B (nthH ss k) h2
        rw [← e, HAL.out, HNA.out] at this
        exact this
      have hplay1 : ∀ x : TH, playL (selL f ss k ++ [x]) = stepP (playL (selL f ss k)) x := fun x => playL_snoc _ x
      have hrd1 := rdsT_snoc tx (selL f ss k)
      clear hsp
      obtain ⟨P, hPe⟩ : ∃ P, playL (selL f ss k) = P := ⟨_, rfl⟩
      have HPE : Hid (playL (selL f ss k) = P) := hPe
      obtain ⟨Q, hQe⟩ : ∃ Q, rdsT tx (selL f ss k) = Q := ⟨_, rfl⟩
      have HQE : Hid (rdsT tx (selL f ss k) = Q) := hQe
      rw [hPe] at hlen hat hplay1 hrd1 ⊢
      rw [hQe] at hO hrl hrd1
      generalize nthH ss k = x at *
      obtain ⟨ty, kd, ky, va⟩ := x
      simp only at q0 q1 q2 q3 t0 t5 hst hat
      obtain ⟨T, rfl⟩ := Int.eq_ofNat_of_zero_le t0
      rw [show (T : Int).toNat = T from rfl] at hst hat
      have hhas : Calls Try.prog 27 #[dv, .int .i64 T] wr fun r w' => r = .returned (.bool (f T)) ∧ w' = wr := by
        obtain ⟨da, dc, e, hr, _⟩ := (HD.out.below hbl).row
        have hc := hasInt_any da dc (setL f 6) T wr hr (by have := setL_len f 6; omega)
        rw [any_setL f T 6, decide_eq_true (by omega : T < 6), Bool.true_and] at hc
        rw [e]; exact hc
      have HOr : Hid (OwnS wr w2.heap.size u10 Q) := hO
      clear hO hPe hQe t0 t5
      obtain ⟨nP, hnP⟩ : ∃ m, P.1.length = m := ⟨_, rfl⟩
      have HNP : Hid (P.1.length = nP) := hnP
      rw [hnP] at hat hlen ⊢
      clear hnP
      by_cases k1 : kd = 1
      · subst k1
        cases hf : f T with
        | false =>
          rw [hf] at hhas hst
          have HN : Hid (selL f ss (k + 1) = selL f ss k) := hst
          clear hf hst hat hplay1 hrd1
          go_wp2_with (go_at_call 27; refine hhas.mono ?_; rintro e w' ⟨rfl, hq⟩; obtain rfl := hq.symm)
          go_roundw
          case rel => exact ⟨k + 1, by omega, by go_num, by rw [HN.out, HPE.out, HNP.out], by rw [HN.out, HQE.out]; exact HOr.out, hbl⟩
          case measure => simp [intOf]; omega
        | true =>
          rw [hf] at hhas hst
          obtain ⟨hkA, hval⟩ := hat hf rfl
          have hkI : (nP : Int) < (nA : Int) := by omega
          have HN : Hid (selL f ss (k + 1) = selL f ss k ++ [((T : Int), 1, ky, va)]) := hst
          have HNL : Hid ((playL (selL f ss (k + 1))).1.length = nP + 1) := by
            show _ = _
            rw [HN.out, hplay1]; unfold stepP; rw [if_pos rfl]; simp [HNP.out]
          have hrd2 := hrd1 ((T : Int), 1, ky, va)
          clear hf hst hat hplay1 hrd1
          by_cases et : (T : Int) = tx
          · have HNR : Hid (rdsT tx (selL f ss (k + 1)) = Q ++ [(valY P.2 ky).getD noT]) := by
              show _ = _
              rw [HN.out, hrd2, if_pos ⟨rfl, et⟩]
            obtain ⟨bA, oA, rfl, hlbA, hcA⟩ := (HRS.out.below hbl) nP (by rw [HNA.out]; exact hkA)
            rw [hval] at hcA
            clear hval hrd2
            generalize (valY P.2 ky).getD noT = vv at *
            obtain rfl := et.symm
            clear et
            go_wp2_with (first | (go_at_call 27; refine hhas.mono ?_; rintro e w' ⟨rfl, hq⟩; obtain rfl := hq.symm) | (at_builtin; refine wpList_append_own _ rfl _ _ 36 rfl w2.heap.size 9 i0 (.string ⟨#[]⟩) 1 16 Try.underlying36 hI hz0 hz1 hz2 rfl (by decide) _ _ _ rfl (HOr.out.alloc _) ⟨wr.heap.size, 0, none⟩ 1 1 [.string vv] rfl rfl (cell_one_new _ _ _) ?m4 ?m1 ?m2 ?m3 ?_))
            case m4 => intro u hu; simp at hu; subst hu; rfl
            case m1 => unfold maxLen; omega
            case m2 => omega
            case m3 => first | omega | (simp; omega)
            intro v' w3 ho3 g3 _
            have HO3 : Hid (OwnS w3 w2.heap.size v' (Q ++ [vv])) := OwnS.snoc (p := vv) ho3
            have B3 : Hid (Below w2.heap.size w2 w3) := own_belowX (hbl.alloc hsr _) (by simp; omega) (HOr.out.alloc _) g3
            clear ho3 g3
            go_wp2
            go_roundw
            case rel => exact ⟨k + 1, by omega, by go_num, by rw [HNL.out]; go_num, by rw [HNR.out]; exact HO3.out, B3.out⟩
            case measure => simp [intOf]; omega
          · have HNR : Hid (rdsT tx (selL f ss (k + 1)) = Q) := by
              show _ = _
              rw [HN.out, hrd2, if_neg (fun h => et h.2)]; simp
            have et' : ((T : Int) == tx) = false := by simpa using et
            clear hval hrd2
            go_wp2_with (go_at_call 27; refine hhas.mono ?_; rintro e w' ⟨rfl, hq⟩; obtain rfl := hq.symm)
            go_roundw
            case rel => exact ⟨k + 1, by omega, by go_num, by rw [HNL.out]; go_num, by rw [HNR.out]; exact HOr.out, hbl⟩
            case measure => simp [intOf]; omega
      · have k1' : (kd == 1) = false := by simpa using k1
        have HNL : Hid ((playL (selL f ss (k + 1))).1.length = nP) := by
          show _ = _
          rw [hst]
          split
          · rw [hplay1]; unfold stepP
            simp only [if_neg k1]
            split
            · exact HNP.out
            · exact HNP.out
          · rw [HPE.out]; exact HNP.out
        have HNR : Hid (rdsT tx (selL f ss (k + 1)) = Q) := by
          show _ = _
          rw [hst]
          split
          · rw [hrd1, if_neg (fun h => k1 h.1)]; simp
          · exact HQE.out
        clear hst hat hplay1 hrd1
        go_wp2
        go_roundw
        case rel => exact ⟨k + 1, by omega, by go_num, by rw [HNL.out], by rw [HNR.out]; exact HOr.out, hbl⟩
        case measure => simp [intOf]; omega
    · obtain rfl : k = n := by omega
      have HOr : Hid (OwnS wr w2.heap.size u10 (rdsT tx (selL f ss k))) := hO
      clear hO
      go_wp2
      go_ret
      exact ⟨_, rfl, own_mono HOr.out hs2, hB⟩
end Go.Proofs.Ytlcgmifibekegaa
