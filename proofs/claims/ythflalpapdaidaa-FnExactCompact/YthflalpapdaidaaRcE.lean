/- Reached, on both sides (stage 5). -/
import Derived.Test.YthflalpapdaidaaRcD
namespace Go.Proofs.Ythflalpapdaidaa
open Go.RowKit

noncomputable def rcL (ns : List Nd) (rs : List Int) : List Int := if rtC ns rs = 0 then rchL ns rs else []
abbrev RetR (w : World) (ns : List Nd) (rs : List Int) (e : Ending) (w' : World) : Prop := ∃ v, e = .returned (.tuple #[v, .int .i64 (rtC ns rs)]) ∧ OwnI w' w.heap.size v (rcL ns rs) ∧ Below w.heap.size w w'
theorem rtC_zero {ns : List Nd} {rs : List Int} (h : rtC ns rs = 0) : ForOK ns ∧ RgP ns rs ∧ rs.length ≤ 4096 := by
  unfold rtC at h
  by_cases h1 : 4096 < rs.length
  · rw [if_pos h1] at h; omega
  rw [if_neg h1] at h
  cases h2 : asB (ForOK ns) with
  | false => rw [h2] at h; simp at h
  | true =>
    rw [h2] at h
    cases h3 : asB (RgP ns rs) with
    | false => rw [h3] at h; simp at h
    | true => exact ⟨asB_is h2, asB_is h3, by omega⟩
set_option maxRecDepth 100000 in
set_option maxHeartbeats 4000000 in
theorem implReached_any (a ra : Option Addr) (cap rc : Nat) (ns : List Nd) (rs : List Int) (w : World) (h : RowN w a ns) (hr : RowI w ra rs) (hlen : ns.length ≤ 1048576) (hsm : ∀ i, i < ns.length → SmallN (nthN ns i)) (hrl : rs.length ≤ 1048576) :
    Calls Try.prog 29 #[FV (.slice a ns.length cap), .slice ra rs.length rc] w (RetR w ns rs) := by
  have B0 : Below w.heap.size w (w.alloc (.cells #[.slice a ns.length cap] 25)) := (Below.refl _ _).alloc (Nat.le_refl _) _
  have X0 : Hid (BoxF w.heap.size (.slice a ns.length cap) (w.alloc (.cells #[.slice a ns.length cap] 25))) := BoxF.new 25
  have hc := rootsCode_any a ra cap rc ns rs _ (h.below B0) (hr.below B0) hlen hsm hrl
  have HR : Hid (RowN w a ns ∧ RowI w ra rs ∧ ns.length ≤ 1048576 ∧ (∀ i, i < ns.length → SmallN (nthN ns i)) ∧ rs.length ≤ 1048576) := ⟨h, hr, hlen, hsm, hrl⟩
  have HE : Hid (rcL ns rs = if rtC ns rs = 0 then rchL ns rs else []) := rfl
  have HZ : Hid (rtC ns rs = 0 → ForOK ns ∧ RgP ns rs ∧ rs.length ≤ 4096) := rtC_zero
  clear h hr hlen hsm hrl
  unfold RetR
  generalize rtC ns rs = code at *
  go_enter Try.func29, Try.ntmps29
  go_wp2_with fail
  refine hc.mono ?_
  rintro e w1 ⟨rfl, b1⟩
  have B1 := B0.trans (b1.mono B0.size)
  obtain ⟨y0, _⟩ := X0.out.below b1
  clear hc b1 B0 X0
  by_cases hz : code = 0
  · subst hz
    obtain ⟨z1, z2, _⟩ := HZ.out rfl
    have hc := reachedNodes_any a ra cap rc ns rs w1 (HR.out.1.below B1) (HR.out.2.1.below B1) z1.kids z2 HR.out.2.2.1 HR.out.2.2.2.1 HR.out.2.2.2.2
    have HE2 : Hid (rcL ns rs = rchL ns rs) := by show _ = _; rw [HE.out, if_pos rfl]
    clear z1 z2 HZ HE
    go_wp2_with fail
    refine hc.mono ?_
    rintro e w2 ⟨v, rfl, hO, b2⟩
    have B2 := below_step B1 (Nat.le_refl _) b2
    have HO : Hid (OwnI w2 w.heap.size v (rcL ns rs)) := by show OwnI _ _ _ _; rw [HE2.out]; exact own_mono hO B1.size
    clear hc hO b2 y0
    go_wp2
    exact bodyPost_ret (v := .tuple #[v, .int .i64 0]) (by simp [results, Try.results29, go_sem]) rfl ⟨v, rfl, HO.out, B2⟩
  · have HE2 : Hid (rcL ns rs = []) := by show _ = _; rw [HE.out, if_neg hz]
    go_wp2
    exact bodyPost_ret (v := .tuple #[.slice none 0 0, .int .i64 code]) (by simp [results, Try.results29, go_sem]) rfl ⟨_, rfl, by rw [HE2.out]; exact OwnI.nil _ _, B1⟩

/-- A forest in a block, flags behind it; what lay in w lies there still. -/
def StM (w : World) (v : Value) (n : Nat) (f : Nat → Bool) (W : World) : Prop := BoxF w.heap.size v W ∧ FlB W (w.heap.size + 1) n f ∧ Below w.heap.size w W
theorem StM.set {w W : World} {v : Value} {n p : Nat} {f : Nat → Bool} (h : StM w v n f W) (hp : p < n) : StM w v n (fun j => if j = p then true else f j) (W.setCell ⟨w.heap.size + 1, p, none⟩ (.bool true)) := by
  refine ⟨⟨?_, by simpa [World.setCell] using h.1.2⟩, h.2.1.set hp, h.2.2.setCell (p := ⟨w.heap.size + 1, p, none⟩) (by simp) _⟩
  exact (World.cell?_of_block (w := W) (set_other _ (by simp))).trans h.1.1
/-- The flags of roots. -/
def RtF (ns : List Nd) (rs : List Int) (k : Nat) (f : Nat → Bool) : Prop := ∀ j, j < ns.length → (f j = true ↔ ∃ i, i < k ∧ nthI rs i = (j : Int))
/-- The flags of t's first k kids are set. -/
def KdF (ns : List Nd) (t k : Nat) (f f' : Nat → Bool) : Prop := ∀ j, j < ns.length → (f' j = true ↔ f j = true ∨ ∃ i, i < k ∧ nthI (nthN ns t).2.2.2 i = (j : Int))
set_option maxRecDepth 100000 in
set_option maxHeartbeats 4000000 in
theorem l05Marks_any (a ra : Option Addr) (cap rc : Nat) (ns : List Nd) (rs : List Int) (w : World) (hrow : RowN w a ns) (hr : RowI w ra rs) (hk : KidsLt ns) (hg : RgP ns rs) (hlen : ns.length ≤ 1048576) (hsm : ∀ i, i < ns.length → SmallN (nthN ns i)) (hrl : rs.length ≤ 1048576) :
    Calls Try.prog 73 #[FV (.slice a ns.length cap), .slice ra rs.length rc] w fun e w' => ∃ f, e = .returned (fullS (w.heap.size + 1) ns.length) ∧ FlB w' (w.heap.size + 1) ns.length f ∧ (∀ j, j < ns.length → f j = asB (Rch ns rs j)) ∧ Below w.heap.size w w' := by
  have HR : Hid (RowN w a ns ∧ RowI w ra rs) := ⟨hrow, hr⟩
  have HG : Hid (RgP ns rs ∧ KidsLt ns ∧ ∀ i, i < ns.length → SmallN (nthN ns i)) := ⟨hg, hk, hsm⟩
  have HI : Hid (∀ f, RtF ns rs rs.length f → FlI ns rs ns.length f) := fun f h j hj => by
    rw [h j hj]
    exact ⟨fun ⟨i, h1, h2⟩ => .inl ⟨i, h1, h2⟩, fun h' => by
      rcases h' with h1 | ⟨m, h1, h2, _⟩
      · exact h1
      · omega⟩
  clear hrow hr hk hg hsm
  obtain ⟨m, hm⟩ : ∃ m, rs.length = m := ⟨_, rfl⟩
  have HM : Hid (rs.length = m) := hm
  obtain ⟨n, hn⟩ : ∃ n, ns.length = n := ⟨_, rfl⟩
  have HN : Hid (ns.length = n) := hn
  rw [hm] at hrl HI ⊢
  rw [hn] at hlen HI ⊢
  clear hm hn
  have X0 : Hid (BoxF w.heap.size (.slice a n cap) (w.alloc (.cells #[.slice a n cap] 25))) := BoxF.new 25
  have B0 : Below w.heap.size w (w.alloc (.cells #[.slice a n cap] 25)) := (Below.refl _ _).alloc (Nat.le_refl _) _
  obtain ⟨i0, hi, hz0, hz1, hz2⟩ := info_parts infoB
  go_enter Try.func73, Try.ntmps73
  go_wp2_with (at_make; refine wpList_make_full _ rfl _ _ 102 rfl (w.heap.size + 1) 4 i0 _ 1 Try.underlying102 hi hz0 hz1 .i64 .i64 _ _ n rfl rfl rfl rfl ?m1 ?m2 ?m3 ?_)
  case m1 => rw [hz2]; omega
  case m2 => unfold maxLen; omega
  case m3 => simp
  intro w1 hown hgr
  have b1 := (Below.refl _ _).grown hgr (Nat.le_refl _) (fun k hk => by cases hk)
  have HS : Hid (StM w (.slice a n cap) n (fun _ => false) w1) := ⟨X0.out.below b1, flB_made hown, B0.trans (b1.mono B0.size)⟩
  have HT : Hid (RtF ns rs 0 (fun _ => false)) := fun j _ => ⟨fun h => by simp at h, fun ⟨i, h, _⟩ => by omega⟩
  clear hown hgr hi hz0 hz1 hz2 b1 X0 B0
  go_wp2
  go_loopw [6] (fun i wr => ∃ (k : Nat) (f : Nat → Bool), k ≤ m ∧ i = .int .i64 k ∧ Hid (RtF ns rs k f) ∧ Hid (StM w (.slice a n cap) n f wr)) (fun i _ => m - (intOf i).toNat)
  case atStart => exact ⟨0, _, by omega, rfl, HT, HS⟩
  case round =>
    clear HS HT
    obtain ⟨k, f, hkm, rfl, HT, HS⟩ := hrel
    by_cases hlt : k < m
    · obtain ⟨b, off, rfl, hlb, hc0⟩ := (HR.out.2.below HS.out.2.2) k (by rw [HM.out]; exact hlt)
      have hq := HG.out.1 k (by rw [HM.out]; exact hlt)
      by_cases hneg : nthI rs k < 0
      · have HT2 : Hid (RtF ns rs (k + 1) f) := fun j hj => by
          rw [HT.out j hj]
          exact ⟨fun ⟨i, h1, h2⟩ => ⟨i, by omega, h2⟩, fun ⟨i, h1, h2⟩ => by
            by_cases e : i = k
            · subst e; omega
            · exact ⟨i, by omega, h2⟩⟩
        have hneg' : ¬ 0 ≤ nthI rs k := by omega
        clear hq HT
        go_wp2
        go_roundw
        case rel => exact ⟨k + 1, f, by omega, by go_num, HT2, HS⟩
        case measure => simp [intOf]; omega
      · obtain ⟨t, ht⟩ : ∃ t : Nat, nthI rs k = (t : Int) := ⟨(nthI rs k).toNat, by omega⟩
        have htn : t < n := by rw [HN.out] at hq; omega
        have HT2 : Hid (RtF ns rs (k + 1) (fun j => if j = t then true else f j)) := fun j hj => by
          by_cases e : j = t
          · subst e
            exact ⟨fun _ => ⟨k, by omega, ht⟩, fun _ => by simp⟩
          · simp only [e, if_false]
            rw [HT.out j hj]
            exact ⟨fun ⟨i, h1, h2⟩ => ⟨i, by omega, h2⟩, fun ⟨i, h1, h2⟩ => by
              by_cases e' : i = k
              · subst e'; omega
              · exact ⟨i, by omega, h2⟩⟩
        have HS2 : Hid (StM w (.slice a n cap) n (fun j => if j = t then true else f j) (wr.setCell ⟨w.heap.size + 1, t, none⟩ (.bool true))) := HS.out.set htn
        have m0 := HS.out.2.1.cell htn
        have hfz := HS.out.2.1.free
        have htI : (t : Int) < (n : Int) := by omega
        rw [ht] at hc0
        clear hneg hq ht HT HS
        go_wp2
        go_roundw
        case rel => exact ⟨k + 1, _, by omega, by go_num, HT2, HS2⟩
        case measure => simp [intOf]; omega
    · obtain rfl : k = m := by omega
      have HF : Hid (FlI ns rs n f) := HI.out f HT.out
      clear HT HI
      go_wp2
      go_loopw [7] (fun i wi => ∃ (p : Nat) (f : Nat → Bool), p ≤ n ∧ i = .int .i64 ((p : Int) - 1) ∧ Hid (FlI ns rs p f) ∧ Hid (StM w (.slice a n cap) n f wi)) (fun i _ => (intOf i + 1).toNat)
      case atStart => exact ⟨n, f, Nat.le_refl _, by first | rfl | go_num, HF, HS⟩
      case round =>
        clear HF HS
        obtain ⟨p, f, hpn, rfl, HF, HS⟩ := hrel
        by_cases hp0 : p = 0
        · subst hp0
          have HA : Hid (∀ j, j < n → f j = asB (Rch ns rs j)) := fun j hj => by
            have := HF.out.at HG.out.2.1 (t := j) (by rw [HN.out]; exact hj) (by omega)
            cases hfj : f j with
            | true => exact asB_true (this.1 hfj)
            | false => exact asB_false fun hR => by have := this.2 hR; rw [hfj] at this; cases this
          clear HF
          go_wp2
          go_ret
          exact ⟨f, rfl, HS.out.2.1, HA.out, HS.out.2.2⟩
        · obtain ⟨t, rfl⟩ : ∃ t, p = t + 1 := ⟨p - 1, by omega⟩
          have ht : t < n := by omega
          have htI : (t : Int) < (n : Int) := by omega
          have et : (((t + 1 : Nat) : Int) - 1) = (t : Int) := by omega
          rw [et]
          have HTT : Hid (t < ns.length) := by show _ < _; rw [HN.out]; exact ht
          obtain ⟨l, hl⟩ : ∃ l, (nthN ns t).2.2.2.length = l := ⟨_, rfl⟩
          have HL : Hid ((nthN ns t).2.2.2.length = l) := hl
          have hll : l ≤ 1048576 := by rw [← hl]; exact (HG.out.2.2 t HTT.out).2.2
          have HK0 : Hid (KdF ns t 0 f f) := fun j _ => ⟨fun h => .inl h, fun h => by
            rcases h with h | ⟨i, h1, _⟩
            · exact h
            · omega⟩
          clear hl hp0 et
          go_wp2
          go_loopw [8] (fun kk wi => ∃ (k : Nat) (f' : Nat → Bool), k ≤ l ∧ kk = .int .i64 k ∧ Hid (f t = true ∨ k = 0) ∧ Hid (KdF ns t k f f') ∧ Hid (StM w (.slice a n cap) n f' wi)) (fun kk _ => l - (intOf kk).toNat)
          case atStart => exact ⟨0, f, by omega, rfl, .inr rfl, HK0, HS⟩
          case round =>
            clear HS HK0
            obtain ⟨k, f', hkl, rfl, HO, HK, HS⟩ := hrel
            have HT : Hid (f' t = f t) := by
              show _ = _
              have h1 := HK.out t HTT.out
              cases hft : f t with
              | true => exact h1.2 (.inl hft)
              | false =>
                cases hft' : f' t with
                | false => rfl
                | true =>
                  rcases h1.1 hft' with h2 | ⟨i, h2, h3⟩
                  · rw [hft] at h2; cases h2
                  · have := (HG.out.2.1 t HTT.out i (by rw [HL.out]; omega)).2
                    omega
            have m0 := HS.out.2.1.cell ht
            rw [HT.out] at m0
            have hfz := HS.out.2.1.free
            obtain ⟨y0, _⟩ := HS.out.1
            obtain ⟨b, off, ia, ic, rfl, hlb, c3, hri⟩ := kids_at (HR.out.1.below HS.out.2.2) HTT.out
            rw [HL.out] at c3
            cases hft : f t with
            | false =>
              rw [hft] at m0
              obtain rfl : k = 0 := by
                rcases HO.out with h | h
                · rw [hft] at h; cases h
                · exact h
              have HF2 : Hid (FlI ns rs t f') := HF.out.step HG.out.2.1 HTT.out fun j hj => by
                rw [HK.out j hj, hft]
                exact ⟨fun h => by
                  rcases h with h | ⟨i, h1, _⟩
                  · exact .inl h
                  · omega, fun h => by
                  rcases h with h | ⟨h, _⟩
                  · exact .inl h
                  · cases h⟩
              clear hft HF HK HO hri
              go_wp2
              exact ⟨⟨t, f', by omega, rfl, HF2, HS⟩, by simp [intOf]⟩
            | true =>
              rw [hft] at m0
              by_cases hlt2 : k < l
              · have hkk : k < (nthN ns t).2.2.2.length := by rw [HL.out]; exact hlt2
                obtain ⟨b2, o2, rfl, hlb2, hc2⟩ := hri k hkk
                have hq := HG.out.2.1 t HTT.out k hkk
                obtain ⟨c, hc⟩ : ∃ c : Nat, nthI (nthN ns t).2.2.2 k = (c : Int) := ⟨(nthI (nthN ns t).2.2.2 k).toNat, by omega⟩
                have hcn : c < n := by omega
                have hcI : (c : Int) < (n : Int) := by omega
                have HK2 : Hid (KdF ns t (k + 1) f (fun j => if j = c then true else f' j)) := fun j hj => by
                  by_cases e : j = c
                  · subst e
                    exact ⟨fun _ => .inr ⟨k, by omega, hc⟩, fun _ => by simp⟩
                  · simp only [e, if_false]
                    rw [HK.out j hj]
                    exact ⟨fun h => by
                      rcases h with h | ⟨i, h1, h2⟩
                      · exact .inl h
                      · exact .inr ⟨i, by omega, h2⟩, fun h => by
                      rcases h with h | ⟨i, h1, h2⟩
                      · exact .inl h
                      · by_cases e' : i = k
                        · subst e'; omega
                        · exact .inr ⟨i, by omega, h2⟩⟩
                have HS2 : Hid (StM w (.slice (some ⟨b, off, none⟩) n cap) n (fun j => if j = c then true else f' j) (wr.setCell ⟨w.heap.size + 1, c, none⟩ (.bool true))) := HS.out.set hcn
                have m1 := HS.out.2.1.cell hcn
                have HO2 : Hid (True ∨ k + 1 = 0) := Or.inl trivial
                rw [hc] at hc2
                clear hft HK HO hq hc hkk HS hri
                go_wp2
                go_roundw
                case rel => exact ⟨k + 1, _, by omega, by go_num, HO2, HK2, HS2⟩
                case measure => simp [intOf]; omega
              · obtain rfl : k = l := by omega
                have HF2 : Hid (FlI ns rs t f') := HF.out.step HG.out.2.1 HTT.out fun j hj => by
                  rw [HK.out j hj, hft]
                  exact ⟨fun h => by
                    rcases h with h | ⟨i, h1, h2⟩
                    · exact .inl h
                    · exact .inr ⟨rfl, i, by rw [HL.out]; exact h1, h2⟩, fun h => by
                    rcases h with h | ⟨_, i, h1, h2⟩
                    · exact .inl h
                    · exact .inr ⟨i, by rw [HL.out] at h1; exact h1, h2⟩⟩
                clear hft HF HK HO hri
                go_wp2
                exact ⟨⟨t, f', by omega, rfl, HF2, HS⟩, by simp [intOf]⟩
set_option maxRecDepth 100000 in
set_option maxHeartbeats 4000000 in
theorem specReached_any (a ra : Option Addr) (cap rc : Nat) (ns : List Nd) (rs : List Int) (w : World) (h : RowN w a ns) (hr : RowI w ra rs) (hlen : ns.length ≤ 1048576) (hsm : ∀ i, i < ns.length → SmallN (nthN ns i)) (hrl : rs.length ≤ 1048576) :
    Calls Try.prog 30 #[FV (.slice a ns.length cap), .slice ra rs.length rc] w (RetR w ns rs) := by
  have B0 : Below w.heap.size w (w.alloc (.cells #[.slice a ns.length cap] 25)) := (Below.refl _ _).alloc (Nat.le_refl _) _
  have X0 : Hid (BoxF w.heap.size (.slice a ns.length cap) (w.alloc (.cells #[.slice a ns.length cap] 25))) := BoxF.new 25
  have hc := l05Roots_any a ra cap rc ns rs _ (h.below B0) (hr.below B0) hlen hsm hrl
  have HR : Hid (RowN w a ns ∧ RowI w ra rs ∧ ns.length ≤ 1048576 ∧ (∀ i, i < ns.length → SmallN (nthN ns i)) ∧ rs.length ≤ 1048576) := ⟨h, hr, hlen, hsm, hrl⟩
  have HE : Hid (rcL ns rs = if rtC ns rs = 0 then rchL ns rs else []) := rfl
  have HZ : Hid (rtC ns rs = 0 → ForOK ns ∧ RgP ns rs ∧ rs.length ≤ 4096) := rtC_zero
  have HB : Hid (4096 < rs.length → rtC ns rs = 2) := fun hb => by unfold rtC; rw [if_pos hb]
  clear h hr hsm
  unfold RetR
  generalize rtC ns rs = code at *
  by_cases h4 : (4096 : Int) < (rs.length : Int)
  · obtain rfl := HB.out (by omega)
    have HE2 : Hid (rcL ns rs = []) := by show _ = _; rw [HE.out, if_neg (by omega)]
    have O0 : OwnI ((w.alloc (.cells #[.slice a ns.length cap] 25)).alloc (.cells #[] 3)) (w.heap.size + 1) (.slice (some ⟨w.heap.size + 1, 0, none⟩) 0 0) [] := by
      have e : (w.alloc (.cells #[.slice a ns.length cap] 25)).heap.size = w.heap.size + 1 := by simp
      have := OwnI.made (w.alloc (.cells #[.slice a ns.length cap] 25)) (w.heap.size + 1) (by omega)
      rw [e] at this
      exact this
    have HO0 : Hid (OwnI _ _ _ _) := O0
    clear hc O0
    go_enter Try.func30, Try.ntmps30
    go_wp2
    exact bodyPost_ret (v := .tuple #[.slice (some ⟨w.heap.size + 1, 0, none⟩) 0 0, .int .i64 2]) (by simp [results, Try.results30, go_sem]) rfl ⟨_, rfl, by rw [HE2.out]; exact own_mono HO0.out (Nat.le_succ _), B0.alloc B0.size _⟩
  go_enter Try.func30, Try.ntmps30
  go_wp2_with fail
  refine hc.mono ?_
  rintro e w1 ⟨rfl, b1⟩
  have B1 := B0.trans (b1.mono B0.size)
  obtain ⟨y0, _⟩ := X0.out.below b1
  clear hc b1 B0 X0
  by_cases hz : code = 0
  case neg =>
    have HE2 : Hid (rcL ns rs = []) := by show _ = _; rw [HE.out, if_neg hz]
    go_wp2
    exact bodyPost_ret (v := .tuple #[.slice (some ⟨w1.heap.size, 0, none⟩) 0 0, .int .i64 code]) (by simp [results, Try.results30, go_sem]) rfl ⟨_, rfl, by rw [HE2.out]; exact own_mono (OwnI.made _ _ (Nat.le_refl _)) B1.size, B1.alloc B1.size _⟩
  case pos =>
    subst hz
    obtain ⟨z1, z2, _⟩ := HZ.out rfl
    have hc := l05Marks_any a ra cap rc ns rs w1 (HR.out.1.below B1) (HR.out.2.1.below B1) z1.kids z2 HR.out.2.2.1 HR.out.2.2.2.1 HR.out.2.2.2.2
    have HE2 : Hid (rcL ns rs = rchL ns rs) := by show _ = _; rw [HE.out, if_pos rfl]
    clear z1 z2 HZ HE HB
    obtain ⟨n, hn⟩ : ∃ n, ns.length = n := ⟨_, rfl⟩
    have HN : Hid (ns.length = n) := hn
    rw [hn] at hc y0 hlen ⊢
    clear hn
    go_wp2_with fail
    refine hc.mono ?_
    rintro e w2 ⟨f, rfl, hF, hA, b2⟩
    have B2 := below_step B1 (Nat.le_refl _) b2
    have HA : Hid (∀ j, j < n → f j = asB (Rch ns rs j)) := hA
    have HF : Hid (FlB (w2.alloc (.cells #[] 3)) (w1.heap.size + 1) n f ∧ Below w.heap.size w (w2.alloc (.cells #[] 3))) := ⟨hF.at (heap_old _ _ _ hF.lt), B2.alloc B2.size _⟩
    have HO : Hid (OwnI (w2.alloc (.cells #[] 3)) (w1.heap.size + 2) (.slice (some ⟨w2.heap.size, 0, none⟩) 0 0) (upL f 0)) := OwnI.made _ _ hF.lt
    have hw12 : w.heap.size ≤ w1.heap.size := B1.size
    clear hc b2 hF hA B2 y0 B1
    go_wp2
    go_loopw [8, 9] (fun v i wi => ∃ q : Nat, q ≤ n ∧ i = .int .i64 q ∧ OwnI wi (w1.heap.size + 2) v (upL f q) ∧ Hid (FlB wi (w1.heap.size + 1) n f ∧ Below w.heap.size w wi)) (fun _ i _ => n - (intOf i).toNat)
    case atStart => exact ⟨0, by omega, rfl, HO.out, HF⟩
    case round =>
      clear HF HO
      obtain ⟨q, hqn, rfl, hO, HF⟩ := hrel
      by_cases hlt2 : q < n
      · have m0 := HF.out.1.cell hlt2
        have hlt2I : (q : Int) < (n : Int) := by omega
        have hgl : w1.heap.size + 2 ≤ wr.heap.size := HF.out.1.lt
        cases hfq : f q with
        | true =>
          have HU : Hid (upL f (q + 1) = upL f q ++ [(q : Int)]) := by show _ = _; rw [upL_succ, if_pos hfq]
          rw [hfq] at m0
          have hB2 : Below w.heap.size w (wr.alloc (.cells #[.int .i64 q] 3)) := HF.out.2.alloc HF.out.2.size _
          obtain ⟨v', w4, hrun, o4, gr⟩ := app_I5 u8 (upL f q) (q : Int) (wr.alloc (.cells #[.int .i64 q] 3)) (w1.heap.size + 2) 1 (hO.alloc _) (by have := upL_len f q; omega) ⟨wr.heap.size, 0, none⟩ (slab_cell (heap_new' _ _ _ rfl)) (by simp; omega)
          have HO4 : Hid (OwnI w4 (w1.heap.size + 2) v' (upL f (q + 1))) := by show OwnI _ _ _ _; rw [HU.out]; exact o4
          have hbel : Below (w1.heap.size + 2) (wr.alloc (.cells #[.int .i64 q] 3)) w4 := own_below (Below.refl _ _) (by simp; omega) (hO.alloc _) gr
          have HF4 : Hid (FlB w4 (w1.heap.size + 1) n f ∧ Below w.heap.size w w4) := ⟨(HF.out.1.at (heap_old _ _ _ HF.out.1.lt)).at (hbel.block _ (Nat.lt_succ_self _)), hB2.trans (hbel.mono (by omega))⟩
          clear hfq hO HF hB2 o4 gr HU hbel
          go_wp2_with (at_builtin; refine Lib.wpList_append_run _ rfl _ _ _ _ rfl _ _ rfl rfl _ _ hrun ?_)
          exact ⟨⟨q + 1, by omega, by go_num, HO4.out, HF4⟩, by simp [intOf]; omega⟩
        | false =>
          have HO4 : Hid (OwnI wr (w1.heap.size + 2) u8 (upL f (q + 1))) := by show OwnI _ _ _ _; rw [upL_succ, if_neg (by rw [hfq]; simp)]; exact hO
          rw [hfq] at m0
          clear hfq hO
          go_wp2
          exact ⟨⟨q + 1, by omega, by go_num, HO4.out, HF⟩, by simp [intOf]; omega⟩
      · obtain rfl : q = n := by omega
        have HO4 : Hid (OwnI wr w.heap.size u8 (rcL ns rs)) := by
          show OwnI _ _ _ _
          have e : upL f q = rchL ns rs := by unfold rchL; rw [HN.out]; exact upL_congr fun j hj => HA.out j hj
          rw [HE2.out, ← e]
          exact own_mono hO (by omega)
        clear hO
        go_wp2
        exact bodyPost_ret (v := .tuple #[u8, .int .i64 0]) (by simp [results, Try.results30, go_sem]) rfl ⟨u8, rfl, HO4.out, HF.out.2⟩
end Go.Proofs.Ythflalpapdaidaa
