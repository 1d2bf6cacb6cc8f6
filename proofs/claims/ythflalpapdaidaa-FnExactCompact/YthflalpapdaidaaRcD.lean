/- impl's Reached: a search that marks what it meets (stage 5). -/
import Derived.Test.YthflalpapdaidaaRcC
namespace Go.Proofs.Ythflalpapdaidaa
open Go.RowKit

/-- A block of n flags. -/
def FlB (w : World) (g n : Nat) (f : Nat → Bool) : Prop := ∃ cur : Array Value, w.heap[g]? = some (.cells cur 4 (0, 0)) ∧ cur.size = n ∧ ∀ j, j < n → cur[j]? = some (.bool (f j))
theorem FlB.lt {w : World} {g n : Nat} {f : Nat → Bool} (h : FlB w g n f) : g < w.heap.size := by
  obtain ⟨cur, hh, _⟩ := h
  exact slab_lt hh
theorem FlB.below {w w' : World} {g n : Nat} {f : Nat → Bool} (h : FlB w g n f) (hb : Below w.heap.size w w') : FlB w' g n f := by
  obtain ⟨cur, hh, r⟩ := h
  exact ⟨cur, (hb.block g (slab_lt hh)).trans hh, r⟩
theorem FlB.at {w w' : World} {g n : Nat} {f : Nat → Bool} (h : FlB w g n f) (hb : w'.heap[g]? = w.heap[g]?) : FlB w' g n f := by
  obtain ⟨cur, hh, r⟩ := h
  exact ⟨cur, hb.trans hh, r⟩
theorem FlB.cell {w : World} {g n j : Nat} {f : Nat → Bool} (h : FlB w g n f) (hj : j < n) : w.cell? ⟨g, j, none⟩ = some (.bool (f j)) := by
  obtain ⟨cur, hh, _, r⟩ := h
  exact (slab_cell hh).trans (r j hj)
theorem FlB.free {w : World} {g n : Nat} {f : Nat → Bool} (h : FlB w g n f) (j : Nat) : w.frozen? ⟨g, j, none⟩ = false := by
  obtain ⟨cur, hh, _⟩ := h
  exact slab_free hh
theorem FlB.set {w : World} {g n p : Nat} {f : Nat → Bool} (h : FlB w g n f) (hp : p < n) : FlB (w.setCell ⟨g, p, none⟩ (.bool true)) g n (fun j => if j = p then true else f j) := by
  obtain ⟨cur, hh, hs, r⟩ := h
  refine ⟨_, slab_set hh _, by simpa using hs, fun j hj => ?_⟩
  by_cases e : j = p
  · subst e
    rw [Array.getElem?_setIfInBounds_self_of_lt (by omega)]
    simp
  · rw [Array.getElem?_setIfInBounds_ne (by omega)]
    simp only [e, if_false]
    exact r j hj

/-- The kids of node t, as they are read. -/
theorem kids_at {w : World} {a : Option Addr} {ns : List Nd} {t : Nat} (h : RowN w a ns) (ht : t < ns.length) : ∃ b off ia ic, a = some ⟨b, off, none⟩ ∧ b < w.heap.size ∧ w.cell? ⟨b, off + t * 4 + 3, none⟩ = some (.slice ia (nthN ns t).2.2.2.length ic) ∧ RowI w ia (nthN ns t).2.2.2 := by
  obtain ⟨b, off, e, hlb, ka, kc, va, vc, ia, ic, q0, q1, q2, q3, hr⟩ := h t ht
  exact ⟨b, off, ia, ic, e, hlb, q3, hr.2.2.1⟩

/-- What markBelow does from node t. -/
def MbC (W0 : World) (a : Option Addr) (cap : Nat) (ns : List Nd) (g t : Nat) : Prop := ∀ (f : Nat → Bool) (w : World), Below W0.heap.size W0 w → FlB w g ns.length f →
    Calls Try.prog 106 #[.slice a ns.length cap, .int .i64 (t : Nat), fullS g ns.length] w fun e w' => e = .returned (.tuple #[]) ∧ ∃ f', FlB w' g ns.length f' ∧ Adds ns t f f' ∧ Below W0.heap.size W0 w'
set_option maxRecDepth 100000 in
set_option maxHeartbeats 4000000 in
theorem markBelow_step (W0 : World) (a : Option Addr) (cap : Nat) (ns : List Nd) (g t : Nat) (hrow : RowN W0 a ns) (hg : W0.heap.size ≤ g) (hk : KidsLt ns) (ht : t < ns.length) (hlen : ns.length ≤ 1048576) (hsm : SmallN (nthN ns t)) (ih : ∀ c, c < t → MbC W0 a cap ns g c) : MbC W0 a cap ns g t := by
  intro f w hB hF
  have HR : Hid (RowN W0 a ns) := hrow
  have HK : Hid (KidsLt ns) := hk
  have IH : Hid (∀ c, c < t → MbC W0 a cap ns g c) := ih
  have m0 := hF.cell ht
  have hfz := hF.free
  obtain ⟨n, hn⟩ : ∃ n, ns.length = n := ⟨_, rfl⟩
  have HN : Hid (ns.length = n) := hn
  unfold MbC at IH
  rw [hn] at ht hlen hF IH ⊢
  have htI : (t : Int) < (n : Int) := by omega
  have htM : ¬ ((t : Int) = -1) := by omega
  have htB : ((t : Int) == -1) = false := by simp
  clear hrow hk ih hn
  cases hft : f t with
  | true =>
    rw [hft] at m0
    have HA : Hid (Adds ns t f f) := Adds.same hft
    clear hft
    go_enter Try.func106, Try.ntmps106
    go_wp2
    exact bodyPost_ret (v := .tuple #[]) (by simp [results, Try.results106, go_sem]) rfl ⟨rfl, f, hF, HA.out, hB⟩
  | false =>
    rw [hft] at m0
    have F1 : FlB (w.setCell ⟨g, t, none⟩ (.bool true)) g n (fun j => if j = t then true else f j) := hF.set ht
    have B1 : Below W0.heap.size W0 (w.setCell ⟨g, t, none⟩ (.bool true)) := hB.setCell (p := ⟨g, t, none⟩) hg _
    have HP : Hid (Part ns t 0 f (fun j => if j = t then true else f j)) := Part.start
    obtain ⟨b, off, ia, ic, rfl, hlb, c3, hri⟩ := kids_at HR.out (by rw [HN.out]; exact ht)
    have c3' : w.cell? ⟨b, off + t * 4 + 3, none⟩ = some (.slice ia (nthN ns t).2.2.2.length ic) := (hB.cell (p := ⟨b, off + t * 4 + 3, none⟩) hlb).trans c3
    have hbg : ¬ b = g := by omega
    have HRI : Hid (RowI W0 ia (nthN ns t).2.2.2) := hri
    have HS : Hid (FlB (w.setCell ⟨g, t, none⟩ (.bool true)) g n (fun j => if j = t then true else f j) ∧ Below W0.heap.size W0 (w.setCell ⟨g, t, none⟩ (.bool true))) := ⟨F1, B1⟩
    obtain ⟨l, hl⟩ : ∃ l, (nthN ns t).2.2.2.length = l := ⟨_, rfl⟩
    have HL : Hid ((nthN ns t).2.2.2.length = l) := hl
    have hll : l ≤ 1048576 := by rw [← hl]; exact hsm.2.2
    rw [hl] at c3'
    clear hft c3 hri F1 B1 hl hF
    go_enter Try.func106, Try.ntmps106
    go_wp2
    go_loopw [25] (fun i wr => ∃ (k : Nat) (f' : Nat → Bool), k ≤ l ∧ i = .int .i64 k ∧ Hid (Part ns t k f f') ∧ Hid (FlB wr g n f' ∧ Below W0.heap.size W0 wr)) (fun i _ => l - (intOf i).toNat)
    case atStart => exact ⟨0, _, by omega, rfl, HP, HS⟩
    case round =>
      clear HP HS m0 hfz c3' hB
      obtain ⟨k, f', hkl, rfl, HP, HS⟩ := hrel
      by_cases hlt : k < l
      · have hkl' : k < (nthN ns t).2.2.2.length := by rw [HL.out]; exact hlt
        obtain ⟨b2, o2, rfl, hlb2, hc2⟩ := (HRI.out.below HS.out.2) k hkl'
        have hlt' := HK.out t (by rw [HN.out]; exact ht) k hkl'
        obtain ⟨c, hc⟩ : ∃ c : Nat, nthI (nthN ns t).2.2.2 k = (c : Int) := ⟨(nthI (nthN ns t).2.2.2 k).toNat, by omega⟩
        have HC : Hid (nthI (nthN ns t).2.2.2 k = (c : Int)) := hc
        rw [hc] at hc2 hlt'
        have hcall := IH.out c (by omega) f' wr HS.out.2 HS.out.1
        have HP2 : Hid (∀ f'', Adds ns c f' f'' → Part ns t (k + 1) f f'') := fun f'' ha => HP.out.step (by rw [HN.out]; exact ht) hkl' HC.out ha
        clear hc HP hkl' hlt'
        go_wp2_with fail
        refine hcall.mono ?_
        rintro e w2 ⟨rfl, f'', hF2, hA2, hB2⟩
        have HS2 : Hid (FlB w2 g n f'' ∧ Below W0.heap.size W0 w2) := ⟨hF2, hB2⟩
        have HP3 : Hid (Part ns t (k + 1) f f'') := HP2.out f'' hA2
        clear hcall hF2 hA2 hB2 HP2 HS hc2
        go_wp2
        go_roundw
        case rel => exact ⟨k + 1, f'', by omega, by go_num, HP3, HS2⟩
        case measure => simp [intOf]; omega
      · obtain rfl : k = l := by omega
        have HA : Hid (Adds ns t f f') := Part.done (by rw [HL.out]; exact HP.out)
        go_wp2
        exact bodyPost_end (v := .tuple #[]) (by simp [results, Try.results106, go_sem]) rfl ⟨rfl, f', HS.out.1, HA.out, HS.out.2⟩
theorem markBelow_all (W0 : World) (a : Option Addr) (cap : Nat) (ns : List Nd) (g : Nat) (hrow : RowN W0 a ns) (hg : W0.heap.size ≤ g) (hk : KidsLt ns) (hlen : ns.length ≤ 1048576) (hsm : ∀ i, i < ns.length → SmallN (nthN ns i)) : ∀ (m t : Nat), t < m → t < ns.length → MbC W0 a cap ns g t
  | 0, _, h, _ => by omega
  | m + 1, t, _, ht => markBelow_step W0 a cap ns g t hrow hg hk ht hlen (hsm t ht) fun c hc => markBelow_all W0 a cap ns g hrow hg hk hlen hsm m c (by omega) (by omega)
set_option maxRecDepth 100000 in
theorem markBelow_none (a : Option Addr) (n cap g : Nat) (w : World) : Calls Try.prog 106 #[.slice a n cap, .int .i64 (-1), fullS g n] w fun e w' => e = .returned (.tuple #[]) ∧ w' = w := by
  go_enter Try.func106, Try.ntmps106
  go_wp2
  exact bodyPost_ret (v := .tuple #[]) (by simp [results, Try.results106, go_sem]) rfl ⟨rfl, rfl⟩
theorem infoB : (Try.prog.info? 4).map (fun i => (i.zero, i.size, i.bytes)) = some (some (.bool false), 1, 1) := by kernel_rfl
/-- The list of those that are reached. -/
noncomputable def rchL (ns : List Nd) (rs : List Int) : List Int := upL (fun j => asB (Rch ns rs j)) ns.length
theorem flB_made {w1 : World} {g n : Nat} (hown : w1.ownsRow g 4 1 (.slice (some ⟨g, 0, none⟩) n n) n (madeCells #[.bool false] n).toList) : FlB w1 g n (fun _ => false) := by
  rw [toList_madeCells_one] at hown
  rcases hown.2 with ⟨h, _⟩ | ⟨g', c, cur, h, _, hh, _, _, hcs, hcl⟩
  · cases h
  · cases h
    rw [Nat.mul_one] at hcs hcl
    refine ⟨cur, hh, hcs, fun j hj => ?_⟩
    have := congrArg (fun q => q[j]?) hcl
    rw [List.getElem?_take_of_lt hj, Array.getElem?_toList] at this
    rw [this, List.getElem?_replicate, if_pos hj]
theorem app_I5 (v : Value) (l : List Int) (x : Int) (w : World) (B : Nat) (c : Nat) (h : OwnI w B v l) (hl : l.length + 1 ≤ 2097152) (ad : Addr) (hx : w.cell? ad = some (.int .i64 x)) (hB : B ≤ w.heap.size) :
    ∃ v' w', (Builtin.append_ #[47, 47] 47 #[v, .slice (some ad) 1 c]).run Try.prog w = .ok v' w' ∧ OwnI w' B v' (l ++ [x]) ∧ w.grownBy w' v.ownBlock := by
  obtain ⟨i0, hi, hz0, hz1, hz2⟩ := info_parts info3
  obtain ⟨v', w', hrun, r1, r2, _⟩ := run_append_own (P := Try.prog) w B 47 47 3 i0 (.int .i64 0) 1 8 Try.underlying47 hi hz0 hz1 hz2 rfl (by decide) v l.length (l.map (Value.int .i64)) h ad 1 c [.int .i64 x] rfl (fun j u hu => by
    match j, hu with
    | 0, hu =>
      simp at hu
      subst hu
      obtain ⟨b, o, s⟩ := ad
      have hs : s = none := by simpa using World.cell?_spot hx
      subst hs
      rw [add_plain]
      exact hx) (fun u hu => by simp at hu; subst hu; rfl) (by unfold maxLen; omega) (by omega) hB
  exact ⟨v', w', hrun, OwnI.snoc r1, r2⟩
set_option maxRecDepth 100000 in
set_option maxHeartbeats 4000000 in
theorem reachedNodes_any (a ra : Option Addr) (cap rc : Nat) (ns : List Nd) (rs : List Int) (w : World) (hrow : RowN w a ns) (hr : RowI w ra rs) (hk : KidsLt ns) (hg : RgP ns rs) (hlen : ns.length ≤ 1048576) (hsm : ∀ i, i < ns.length → SmallN (nthN ns i)) (hrl : rs.length ≤ 1048576) :
    Calls Try.prog 71 #[.slice a ns.length cap, .slice ra rs.length rc] w fun e w' => ∃ v, e = .returned v ∧ OwnI w' w.heap.size v (rchL ns rs) ∧ Below w.heap.size w w' := by
  have HR : Hid (RowN w a ns ∧ RowI w ra rs) := ⟨hrow, hr⟩
  have HG : Hid (RgP ns rs) := hg
  have HMB : Hid (∀ t, t < ns.length → MbC w a cap ns w.heap.size t) := fun t ht => markBelow_all w a cap ns w.heap.size hrow (Nat.le_refl _) hk hlen hsm _ t (Nat.lt_succ_self t) ht
  clear hrow hr hk hg hsm
  unfold MbC at HMB
  obtain ⟨m, hm⟩ : ∃ m, rs.length = m := ⟨_, rfl⟩
  have HM : Hid (rs.length = m) := hm
  obtain ⟨n, hn⟩ : ∃ n, ns.length = n := ⟨_, rfl⟩
  have HN : Hid (ns.length = n) := hn
  rw [hm] at hrl ⊢
  rw [hn] at hlen HMB ⊢
  clear hm hn
  obtain ⟨i0, hi, hz0, hz1, hz2⟩ := info_parts infoB
  go_enter Try.func71, Try.ntmps71
  go_wp2_with (at_make; refine wpList_make_full _ rfl _ _ 102 rfl w.heap.size 4 i0 _ 1 Try.underlying102 hi hz0 hz1 .i64 .i64 _ _ n rfl rfl rfl rfl ?m1 ?m2 (Nat.le_refl _) ?_)
  case m1 => rw [hz2]; omega
  case m2 => unfold maxLen; omega
  intro w1 hown hgr
  have hB1 : Below w.heap.size w w1 := (Below.refl _ _).grown hgr (Nat.le_refl _) (fun k hk => by cases hk)
  have HF : Hid (FlB w1 w.heap.size n (fun _ => false) ∧ Below w.heap.size w w1) := ⟨flB_made hown, hB1⟩
  have HS : Hid (Seen ns rs 0 (fun _ => false)) := ⟨fun i hi => by omega, fun j h => by simp at h, fun j _ h => by simp at h⟩
  clear hown hgr hi hz0 hz1 hz2 hB1
  go_wp2
  go_loopw [16] (fun i wr => ∃ (k : Nat) (f : Nat → Bool), k ≤ m ∧ i = .int .i64 k ∧ Hid (Seen ns rs k f) ∧ Hid (FlB wr w.heap.size n f ∧ Below w.heap.size w wr)) (fun i _ => m - (intOf i).toNat)
  case atStart => exact ⟨0, _, by omega, rfl, HS, HF⟩
  case round =>
    clear HS HF
    obtain ⟨k, f, hkm, rfl, HS, HF⟩ := hrel
    by_cases hlt : k < m
    · obtain ⟨b, off, rfl, hlb, hc0⟩ := (HR.out.2.below HF.out.2) k (by rw [HM.out]; exact hlt)
      have hq := HG.out k (by rw [HM.out]; exact hlt)
      by_cases hneg : nthI rs k = -1
      · have HS2 : Hid (Seen ns rs (k + 1) f) := HS.out.skip hneg
        rw [hneg] at hc0
        clear hneg hq HS
        go_wp2_with fail
        refine (markBelow_none a n cap w.heap.size wr).mono ?_
        rintro e w2 ⟨rfl, hw2⟩
        obtain rfl := hw2.symm
        go_wp2
        go_roundw
        case rel => exact ⟨k + 1, f, by omega, by go_num, HS2, HF⟩
        case measure => simp [intOf]; omega
      · obtain ⟨t, ht⟩ : ∃ t : Nat, nthI rs k = (t : Int) := ⟨(nthI rs k).toNat, by omega⟩
        have htn : t < n := by rw [HN.out] at hq; omega
        have hcall := HMB.out t htn f wr HF.out.2 HF.out.1
        have HS2 : Hid (∀ f', Adds ns t f f' → Seen ns rs (k + 1) f') := fun f' ha => HS.out.step (by rw [HM.out]; exact hlt) ht ha
        rw [ht] at hc0
        clear hneg hq ht HS
        go_wp2_with fail
        refine hcall.mono ?_
        rintro e w2 ⟨rfl, f', hF2, hA2, hB2⟩
        have HF2 : Hid (FlB w2 w.heap.size n f' ∧ Below w.heap.size w w2) := ⟨hF2, hB2⟩
        have HS3 : Hid (Seen ns rs (k + 1) f') := HS2.out f' hA2
        clear hcall hF2 hA2 hB2 HS2 HF hc0
        go_wp2
        go_roundw
        case rel => exact ⟨k + 1, f', by omega, by go_num, HS3, HF2⟩
        case measure => simp [intOf]; omega
    · obtain rfl : k = m := by omega
      have HA : Hid (∀ j, f j = asB (Rch ns rs j)) := fun j => by
        have hS : Seen ns rs rs.length f := by rw [HM.out]; exact HS.out
        cases hfj : f j with
        | true => exact asB_true ((hS.all j).1 hfj)
        | false => exact asB_false fun hR => by have := (hS.all j).2 hR; rw [hfj] at this; cases this
      clear HS HMB HG
      go_wp2
      go_loopw [8, 27] (fun v i wi => ∃ q : Nat, q ≤ n ∧ i = .int .i64 q ∧ OwnI wi (w.heap.size + 1) v (upL f q) ∧ Hid (FlB wi w.heap.size n f ∧ Below w.heap.size w wi)) (fun _ i _ => n - (intOf i).toNat)
      case atStart => exact ⟨0, by omega, rfl, OwnI.nil _ _, HF⟩
      case round =>
        clear HF
        obtain ⟨q, hqn, rfl, hO, HF⟩ := hrel
        by_cases hlt2 : q < n
        · have m0 := HF.out.1.cell hlt2
          have hlt2I : (q : Int) < (n : Int) := by omega
          have hgl : w.heap.size + 1 ≤ wr.heap.size := HF.out.1.lt
          cases hfq : f q with
          | true =>
            have HU : Hid (upL f (q + 1) = upL f q ++ [(q : Int)]) := by show _ = _; rw [upL_succ, if_pos hfq]
            rw [hfq] at m0
            have hB2 : Below w.heap.size w (wr.alloc (.cells #[.int .i64 q] 3)) := HF.out.2.alloc HF.out.2.size _
            obtain ⟨v', w4, hrun, o4, gr⟩ := app_I5 u8 (upL f q) (q : Int) (wr.alloc (.cells #[.int .i64 q] 3)) (w.heap.size + 1) 1 (hO.alloc _) (by have := upL_len f q; omega) ⟨wr.heap.size, 0, none⟩ (slab_cell (heap_new' _ _ _ rfl)) (by simp; omega)
            have HO4 : Hid (OwnI w4 (w.heap.size + 1) v' (upL f (q + 1))) := by show OwnI _ _ _ _; rw [HU.out]; exact o4
            have hbel : Below (w.heap.size + 1) (wr.alloc (.cells #[.int .i64 q] 3)) w4 := own_below (Below.refl _ _) (by simp; omega) (hO.alloc _) gr
            have HF4 : Hid (FlB w4 w.heap.size n f ∧ Below w.heap.size w w4) := ⟨(HF.out.1.at (heap_old _ _ _ HF.out.1.lt)).at (hbel.block _ (Nat.lt_succ_self _)), hB2.trans (hbel.mono (Nat.le_succ _))⟩
            clear hfq hO HF hB2 o4 gr HU hbel
            go_wp2_with (at_builtin; refine Lib.wpList_append_run _ rfl _ _ _ _ rfl _ _ rfl rfl _ _ hrun ?_)
            exact ⟨⟨q + 1, by omega, by go_num, HO4.out, HF4⟩, by simp [intOf]; omega⟩
          | false =>
            have HO4 : Hid (OwnI wr (w.heap.size + 1) u8 (upL f (q + 1))) := by show OwnI _ _ _ _; rw [upL_succ, if_neg (by rw [hfq]; simp)]; exact hO
            rw [hfq] at m0
            clear hfq hO
            go_wp2
            exact ⟨⟨q + 1, by omega, by go_num, HO4.out, HF⟩, by simp [intOf]; omega⟩
        · obtain rfl : q = n := by omega
          have HO4 : Hid (OwnI wr w.heap.size u8 (rchL ns rs)) := by
            show OwnI _ _ _ _
            have e : upL f q = rchL ns rs := by unfold rchL; rw [HN.out]; exact upL_congr fun j _ => HA.out j
            rw [← e]
            exact own_mono hO (Nat.le_succ _)
          clear hO
          go_wp2
          go_ret
          exact ⟨_, rfl, HO4.out, HF.out.2⟩
end Go.Proofs.Ythflalpapdaidaa
