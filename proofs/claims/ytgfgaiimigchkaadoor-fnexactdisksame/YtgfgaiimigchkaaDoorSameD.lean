/- What spec's DiskSame answers. -/
import Derived.Test.YtgfgaiimigchkaaDoorSameC
namespace Go.Proofs.YtgfgaiimigchkaaDoor
open Go.RowKit

set_option maxRecDepth 100000 in
set_option maxHeartbeats 4000000 in
theorem specDiskSame_any (a a' q q' : Option Addr) (c c' d d' : Nat) (ss : List ByteArray) (ps : List P2) (us : List ByteArray) (qs : List P2) (w : World)
    (hs : RowS w a ss) (hp : RowP w a' ps) (hs' : RowS w q us) (hp' : RowP w q' qs) (hls : ss.length ≤ 1048576) (hlp : ps.length ≤ 1048576) (hls' : us.length ≤ 1048576) (hlp' : qs.length ≤ 1048576) :
    Calls Tryd.prog 39 #[DV a ss.length c a' ps.length c', DV q us.length d q' qs.length d'] w fun e w' => e = .returned (BI (sameR ss ps us qs) (sameE ss ps us qs)) ∧ Below w.heap.size w w' := by
  have gS : Hid (ss.length ≤ 1048576) := hls
  have gP : Hid (ps.length ≤ 1048576) := hlp
  have gS' : Hid (us.length ≤ 1048576) := hls'
  have gP' : Hid (qs.length ≤ 1048576) := hlp'
  have A0 : Below w.heap.size w ((w.alloc (.cells #[.slice a ss.length c, .slice a' ps.length c'] 28)).alloc (.cells #[.slice q us.length d, .slice q' qs.length d'] 28)) := ((Below.refl _ _).alloc (Nat.le_refl _) _).alloc (by simp) _
  have T0 : TwoD w w.heap.size (w.heap.size + 1) a a' q q' c c' d d' ss ps us qs ((w.alloc (.cells #[.slice a ss.length c, .slice a' ps.length c'] 28)).alloc (.cells #[.slice q us.length d, .slice q' qs.length d'] 28)) :=
    ⟨by go_simp, by go_simp, by go_simp, by go_simp, by simp; omega, by simp, ⟨hs.below A0, hp.below A0, hs'.below A0, hp'.below A0⟩, A0⟩
  have HK : Hid (TwoD w w.heap.size (w.heap.size + 1) a a' q q' c c' d d' ss ps us qs ((w.alloc (.cells #[.slice a ss.length c, .slice a' ps.length c'] 28)).alloc (.cells #[.slice q us.length d, .slice q' qs.length d'] 28))) := T0
  clear hs hp hs' hp' A0 T0
  cases h1 : okDisk ss ps with
  | false =>
    have HB : Hid _ := sameR_bad (ss := ss) (ps := ps) (us := us) (qs := qs) (by rw [h1]; rfl)
    go_enter Tryd.func39, Tryd.ntmps39
    go_wp2_with fail
    refine (specDiskOK_any a a' c c' ss ps _ HK.out.2.2.2.2.2.2.1.1 HK.out.2.2.2.2.2.2.1.2.1 gS.out gP.out).mono ?_
    rintro e w1 ⟨rfl, hb1⟩
    have T1 := HK.out.keep hb1
    have hE := T1.2.2.2.2.2.2.2
    rw [h1]
    clear T1 hb1
    go_wp2
    go_ret2
    exact ⟨ret_bi HB.out.1 HB.out.2, hE⟩
  | true =>
    cases h2 : okDisk us qs with
    | false =>
      have HB : Hid _ := sameR_bad (ss := ss) (ps := ps) (us := us) (qs := qs) (by rw [h1, h2]; rfl)
      go_enter Tryd.func39, Tryd.ntmps39
      go_wp2_with fail
      refine (specDiskOK_any a a' c c' ss ps _ HK.out.2.2.2.2.2.2.1.1 HK.out.2.2.2.2.2.2.1.2.1 gS.out gP.out).mono ?_
      rintro e w1 ⟨rfl, hb1⟩
      have T1 := HK.out.keep hb1
      have HT : Hid (TwoD w w.heap.size (w.heap.size + 1) a a' q q' c c' d d' ss ps us qs w1) := T1
      obtain ⟨y0, y1, y2, y3, _, _, _, _⟩ := T1
      rw [h1]
      clear hb1
      go_wp2_with fail
      refine (specDiskOK_any q q' d d' us qs _ HT.out.2.2.2.2.2.2.1.2.2.1 HT.out.2.2.2.2.2.2.1.2.2.2 gS'.out gP'.out).mono ?_
      rintro e w2 ⟨rfl, hb2⟩
      have hE := (HT.out.keep hb2).2.2.2.2.2.2.2
      rw [h2]
      clear y0 y1 y2 y3 hb2
      go_wp2
      go_ret2
      exact ⟨ret_bi HB.out.1 HB.out.2, hE⟩
    | true =>
      have HB : Hid _ := sameR_ok h1 h2
      go_enter Tryd.func39, Tryd.ntmps39
      go_wp2_with fail
      refine (specDiskOK_any a a' c c' ss ps _ HK.out.2.2.2.2.2.2.1.1 HK.out.2.2.2.2.2.2.1.2.1 gS.out gP.out).mono ?_
      rintro e w1 ⟨rfl, hb1⟩
      have T1 := HK.out.keep hb1
      have HT : Hid (TwoD w w.heap.size (w.heap.size + 1) a a' q q' c c' d d' ss ps us qs w1) := T1
      obtain ⟨y0, y1, y2, y3, _, _, _, _⟩ := T1
      rw [h1]
      clear hb1
      go_wp2_with fail
      refine (specDiskOK_any q q' d d' us qs _ HT.out.2.2.2.2.2.2.1.2.2.1 HT.out.2.2.2.2.2.2.1.2.2.2 gS'.out gP'.out).mono ?_
      rintro e w2 ⟨rfl, hb2⟩
      have T2 := HT.out.keep hb2
      have HT2 : Hid (TwoD w w.heap.size (w.heap.size + 1) a a' q q' c c' d d' ss ps us qs w2) := T2
      rw [h2]
      clear y0 y1 y2 y3 hb2 HT HK h1 h2
      obtain ⟨y0, y1, y2, y3, _, _, _, hE⟩ := T2
      by_cases hne : ss.length = us.length
      · have hneI : (ss.length : Int) = (us.length : Int) := by omega
        go_wp2
        go_loopw [6] (fun i wr => ∃ k : Nat, k ≤ ss.length ∧ i = .int .i64 k ∧ (∀ j, j < k → same (readK ss ps j ps.length) (readK us qs j qs.length) = true) ∧ TwoD w w.heap.size (w.heap.size + 1) a a' q q' c c' d d' ss ps us qs wr) (fun i _ => ss.length - (intOf i).toNat)
        case atStart => exact ⟨0, by omega, rfl, fun j hj => by omega, HT2.out⟩
        case round =>
          clear y0 y1 y2 y3 hE
          obtain ⟨k, hk, rfl, hall, hTk⟩ := hrel
          have HTk : Hid (TwoD w w.heap.size (w.heap.size + 1) a a' q q' c c' d d' ss ps us qs wr) := hTk
          have hT : TwoD w w.heap.size (w.heap.size + 1) a a' q q' c c' d d' ss ps us qs wr.drew := hTk.drew
          obtain ⟨y0, y1, y2, y3, _, _, _, hE⟩ := hTk
          have HA0 : Hid (∀ j, j < k → same (readK ss ps j ps.length) (readK us qs j qs.length) = true) := hall
          clear hall
          by_cases hlt : k < ss.length
          · have hlt' : k < us.length := by omega
            by_cases he : ((readK ss ps k ps.length).toList == (readK us qs k qs.length).toList) = true
            · have HA : Hid (∀ j, j < k + 1 → same (readK ss ps j ps.length) (readK us qs j qs.length) = true) := all_step' (P := fun j => same (readK ss ps j ps.length) (readK us qs j qs.length) = true) HA0.out he
              clear hne hneI
              go_wp2_with fail
              go_region_held3 (TwoD w w.heap.size (w.heap.size + 1) a a' q q' c c' d d' ss ps us qs) (first | exact hT | exact TwoD.keep (by assumption) hb)
                (first
                  | (go_at_call_of 59 (Value.agg #[Value.slice a ss.length c, Value.slice a' ps.length c']); refine (l02Read_any a a' c c' ss ps k _ ((show TwoD w w.heap.size (w.heap.size + 1) a a' q q' c c' d d' ss ps us qs _ by assumption).2.2.2.2.2.2.1.1) ((show TwoD w w.heap.size (w.heap.size + 1) a a' q q' c c' d d' ss ps us qs _ by assumption).2.2.2.2.2.2.1.2.1) gP.out hlt).mono ?_; rintro e wA ⟨rfl, hb⟩)
                  | (go_at_call_of 59 (Value.agg #[Value.slice q us.length d, Value.slice q' qs.length d']); refine (l02Read_any q q' d d' us qs k _ ((show TwoD w w.heap.size (w.heap.size + 1) a a' q q' c c' d d' ss ps us qs _ by assumption).2.2.2.2.2.2.1.2.2.1) ((show TwoD w w.heap.size (w.heap.size + 1) a a' q q' c c' d d' ss ps us qs _ by assumption).2.2.2.2.2.2.1.2.2.2) gP'.out hlt').mono ?_; rintro e wA ⟨rfl, hb⟩))
              rename_i hLL
              clear hT y0 y1 y2 y3 hE
              have HLL : Hid (TwoD w w.heap.size (w.heap.size + 1) a a' q q' c c' d d' ss ps us qs _) := hLL
              clear hLL
              go_wp2
              go_roundw
              case rel => exact ⟨k + 1, by omega, by go_num, HA.out, HLL.out⟩
              case measure => simp [intOf]; omega
            · have he' : ((readK ss ps k ps.length).toList == (readK us qs k qs.length).toList) = false := by simpa using he
              have H : Hid (sameD ss ps us qs = false) := by
                show _ = _
                unfold sameD
                rw [eqAll_le (f := fun j => readK ss ps j ps.length) (f' := fun j => readK us qs j qs.length) hlt he']; simp
              clear he hne hneI
              go_wp2_with fail
              go_region_held3 (TwoD w w.heap.size (w.heap.size + 1) a a' q q' c c' d d' ss ps us qs) (first | exact hT | exact TwoD.keep (by assumption) hb)
                (first
                  | (go_at_call_of 59 (Value.agg #[Value.slice a ss.length c, Value.slice a' ps.length c']); refine (l02Read_any a a' c c' ss ps k _ ((show TwoD w w.heap.size (w.heap.size + 1) a a' q q' c c' d d' ss ps us qs _ by assumption).2.2.2.2.2.2.1.1) ((show TwoD w w.heap.size (w.heap.size + 1) a a' q q' c c' d d' ss ps us qs _ by assumption).2.2.2.2.2.2.1.2.1) gP.out hlt).mono ?_; rintro e wA ⟨rfl, hb⟩)
                  | (go_at_call_of 59 (Value.agg #[Value.slice q us.length d, Value.slice q' qs.length d']); refine (l02Read_any q q' d d' us qs k _ ((show TwoD w w.heap.size (w.heap.size + 1) a a' q q' c c' d d' ss ps us qs _ by assumption).2.2.2.2.2.2.1.2.2.1) ((show TwoD w w.heap.size (w.heap.size + 1) a a' q q' c c' d d' ss ps us qs _ by assumption).2.2.2.2.2.2.1.2.2.2) gP'.out hlt').mono ?_; rintro e wA ⟨rfl, hb⟩))
              rename_i hLL
              have hF := hLL.2.2.2.2.2.2.2
              clear hT hLL y0 y1 y2 y3 hE
              go_wp2
              go_ret2
              exact ⟨ret_bi (HB.out.1.trans H.out) HB.out.2, hF⟩
          · have H : Hid (sameD ss ps us qs = true) := by
              show _ = _
              unfold sameD
              rw [decide_eq_true hne, eqAll_true (f := fun j => readK ss ps j ps.length) (f' := fun j => readK us qs j qs.length) (fun j hj => HA0.out j (by omega))]; rfl
            clear hne hneI hT
            go_wp2
            go_ret2
            exact ⟨ret_bi (HB.out.1.trans H.out) HB.out.2, hE⟩
      · have hneI : ¬ (ss.length : Int) = (us.length : Int) := by omega
        have H : Hid (sameD ss ps us qs = false) := by
          show _ = _
          unfold sameD
          rw [decide_eq_false hne]; rfl
        clear hne
        go_wp2
        go_ret2
        exact ⟨ret_bi (HB.out.1.trans H.out) HB.out.2, hE⟩
end Go.Proofs.YtgfgaiimigchkaaDoor
