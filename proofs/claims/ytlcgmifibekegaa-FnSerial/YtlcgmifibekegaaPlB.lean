/- The specification's play of a history (stage 8). -/
import Derived.Test.YtlcgmifibekegaaOvA
namespace Go.Proofs.Ytlcgmifibekegaa
open Go.RowKit

/-- The value of the first entry that has the key. -/
def valY (l : List TY) (k : ByteArray) : Option ByteArray := (l.find? fun e => e.1.toList == k.toList).map fun e => e.2
theorem valY_at {l : List TY} {k : ByteArray} {j : Nat} (hj : j < l.length) (h1 : ∀ i, i < j → ((nthY l i).1.toList == k.toList) = false) (h2 : ((nthY l j).1.toList == k.toList) = true) : valY l k = some (nthY l j).2 := by
  unfold valY
  have : l.find? (fun e => e.1.toList == k.toList) = some (nthY l j) := by
    rw [nthY_get hj]
    refine List.find?_eq_some_iff_getElem.2 ⟨by rw [nthY_get hj] at h2; exact h2, j, hj, rfl, fun i hi => ?_⟩
    have := h1 i hi
    rw [nthY_get (by omega)] at this
    simp only [this]; rfl
  rw [this]; rfl
theorem valY_none {l : List TY} {k : ByteArray} (h1 : ∀ i, i < l.length → ((nthY l i).1.toList == k.toList) = false) : valY l k = none := by
  unfold valY
  have : l.find? (fun e => e.1.toList == k.toList) = none := by
    rw [List.find?_eq_none]
    intro x hx
    obtain ⟨i, hi, rfl⟩ := List.mem_iff_getElem.1 hx
    have := h1 i hi
    rw [nthY_get hi] at this
    rw [this]; decide
  rw [this]; rfl
def noT : ByteArray := ⟨#[]⟩
set_option maxRecDepth 100000 in
set_option maxHeartbeats 1000000 in
theorem l08Value_any (a : Option Addr) (cap : Nat) (l : List TY) (k : ByteArray) (w : World) (h : RowY w a l) (hl : l.length ≤ 1048576) :
    Calls Try.prog 130 #[.slice a l.length cap, .string k] w fun e w' => e = .returned (.tuple #[.string ((valY l k).getD noT), .bool (valY l k).isSome]) ∧ Below w.heap.size w w' := by
  have HR : Hid (RowY w a l) := h
  clear h
  obtain ⟨n, hn⟩ : ∃ n, l.length = n := ⟨_, rfl⟩
  have HL : Hid (l.length = n) := hn
  rw [hn] at hl ⊢
  clear hn
  go_enter Try.func130, Try.ntmps130
  go_wp2
  go_loopw [6] (fun i wr => ∃ j : Nat, j ≤ n ∧ i = .int .i64 j ∧ Hid (∀ i, i < j → ((nthY l i).1.toList == k.toList) = false) ∧ Below w.heap.size w wr) (fun i _ => n - (intOf i).toNat)
  case atStart => exact ⟨0, by omega, rfl, fun i hi => by omega, Below.refl _ _⟩
  case round =>
    obtain ⟨j, hj, rfl, HA, hbl⟩ := hrel
    by_cases hlt : j < n
    · have hltI : (j : Int) < (n : Int) := by omega
      obtain ⟨b, off, rfl, hlb, ⟨q0, q1⟩⟩ := (HR.out.below hbl) j (by rw [HL.out]; exact hlt)
      cases hw : ((nthY l j).1.toList == k.toList) with
      | true =>
        have HF : Hid (valY l k = some (nthY l j).2) := valY_at (by rw [HL.out]; exact hlt) HA.out hw
        go_wp2
        go_ret2
        rw [HF.out]
        exact ⟨rfl, hbl⟩
      | false =>
        have HF : Hid (∀ i, i < j + 1 → ((nthY l i).1.toList == k.toList) = false) := all_step' HA.out hw
        go_wp2
        go_roundw
        case rel => exact ⟨j + 1, by omega, by go_num, HF, hbl⟩
        case measure => simp [intOf]; omega
    · obtain rfl : j = n := by omega
      have HF : Hid (valY l k = none) := valY_none (by rw [HL.out]; exact HA.out)
      go_wp2
      go_ret2
      rw [HF.out]
      exact ⟨rfl, hbl⟩

/-- What one act of a committed one does: what was found, what is there. -/
def stepP (s : List TS × List TY) (x : TH) : List TS × List TY :=
  if x.2.1 = 1 then (s.1 ++ [(valY s.2 x.2.2.1).getD noT], s.2) else if x.2.1 = 2 then (s.1, overV s.2 [(x.2.2.1, x.2.2.2, false)]) else s
def playL (l : List TH) : List TS × List TY := l.foldl stepP ([], [])
theorem playL_nil : playL [] = ([], []) := rfl
theorem playL_snoc (l : List TH) (x : TH) : playL (l ++ [x]) = stepP (playL l) x := by unfold playL; rw [List.foldl_append]; rfl
theorem playL_len : ∀ (l : List TH), (playL l).1.length ≤ l.length ∧ (playL l).2.length ≤ l.length := by
  have key : ∀ (l : List TH) (s : List TS × List TY), (l.foldl stepP s).1.length ≤ s.1.length + l.length ∧ (l.foldl stepP s).2.length ≤ s.2.length + l.length := by
    intro l
    induction l with
    | nil => intro s; exact ⟨Nat.le_refl _, Nat.le_refl _⟩
    | cons x l ih =>
      intro s
      have h := ih (stepP s x)
      have e : (stepP s x).1.length ≤ s.1.length + 1 ∧ (stepP s x).2.length ≤ s.2.length + 1 := by
        unfold stepP
        split
        · simp
        · split
          · have := overV_len _ s.2 [(x.2.2.1, x.2.2.2, false)] (Nat.le_refl _)
            simp at this ⊢; omega
          · omega
      rw [List.foldl_cons]
      simp only [List.length_cons]
      omega
  intro l
  have := key l ([], [])
  simpa [playL] using this
theorem any_setL (f : Nat → Bool) (T : Nat) : ∀ k, (setL f k).any (fun x => x == (T : Int)) = (decide (T < k) && f T)
  | 0 => by simp [setL]
  | k + 1 => by
    unfold setL
    have ih := any_setL f T k
    cases hf : f k with
    | true =>
      rw [if_pos rfl, List.any_append, ih]
      by_cases e : T = k
      · subst e; simp [hf]
      · have h1 : ((k : Int) == (T : Int)) = false := by simp; omega
        have h2 : decide (T < k + 1) = decide (T < k) := by simp; omega
        simp [h1, h2]
    | false =>
      rw [if_neg (by decide), ih]
      by_cases e : T = k
      · subst e; simp [hf]
      · have h2 : decide (T < k + 1) = decide (T < k) := by simp; omega
        rw [h2]
theorem info9 : (Try.prog.info? 9).map (fun i => (i.zero, i.size, i.bytes)) = some (some (.string ⟨#[]⟩), 1, 16) := by kernel_rfl
/-- What stands while an act is written. -/
abbrev StPl (W : World) (b o : Nat) (k v : ByteArray) (w' : World) : Prop := w'.cell? ⟨b, o + 2, none⟩ = some (.string k) ∧ w'.cell? ⟨b, o + 3, none⟩ = some (.string v) ∧ b < w'.heap.size ∧ Below W.heap.size W w'
theorem StPl.keep {W : World} {b o : Nat} {k v : ByteArray} {w1 w2 : World} (h : StPl W b o k v w1) (hb : Below w1.heap.size w1 w2) : StPl W b o k v w2 :=
  ⟨(hb.cell (p := ⟨b, o + 2, none⟩) h.2.2.1).trans h.1, (hb.cell (p := ⟨b, o + 3, none⟩) h.2.2.1).trans h.2.1, Nat.lt_of_lt_of_le h.2.2.1 hb.size, below_step h.2.2.2 (Nat.le_refl _) hb⟩
theorem rowW_one {w : World} {g : Nat} {k v : ByteArray} {x : Bool} (h : w.heap[g]? = some (.cells #[.string k, .string v, .bool x] 177 (0, 0))) : RowW w (some ⟨g, 0, none⟩) [(k, v, x)] := fun i hi => by
  obtain rfl : i = 0 := by simp at hi; omega
  exact ⟨g, 0, rfl, slab_lt h, slab_cell h, slab_cell h, slab_cell h⟩

theorem own_rowS_blk {w : World} {B e m n : Nat} {v : Value} {xs : List Value} (h : w.ownsRow B e m v n xs) {j : Nat} (hj : v.ownBlock = some j) : ∃ cur, w.heap[j]? = some (.cells cur e (0, 0)) := by
  rcases h.2 with ⟨rfl, _⟩ | ⟨g, cap, cur, rfl, _, hh, _⟩
  · cases hj
  · cases hj; exact ⟨cur, hh⟩
theorem own_apart {w w' : World} {B B' e e' m m' n n' : Nat} {v v' : Value} {xs xs' : List Value} (h : w.ownsRow B e m v n xs) (h' : w.ownsRow B' e' m' v' n' xs') (he : e ≠ e') (hg : w.grownBy w' v'.ownBlock) : w'.ownsRow B e m v n xs := by
  refine h.kept hg ?_
  cases hv : v.ownBlock with
  | none => exact .inl rfl
  | some j =>
    refine .inr fun e2 => ?_
    obtain ⟨c, hc⟩ := own_rowS_blk h hv
    obtain ⟨c', hc'⟩ := own_rowS_blk h' e2.symm
    rw [hc] at hc'
    cases hc'
    exact he rfl

set_option maxRecDepth 100000 in
set_option maxHeartbeats 8000000 in
theorem l08Play_any (a : Option Addr) (cap : Nat) (ss : List TH) (w : World) (h : RowH w a ss) (hl : ss.length ≤ 60) (hp : HistP ss) :
    Calls Try.prog 94 #[.slice a ss.length cap] w fun e w' => ∃ v1 v2, e = .returned (.tuple #[v1, v2]) ∧ OwnS w' w.heap.size v1 (playL (selL (comF ss ss.length) ss ss.length)).1 ∧ OwnY w' w.heap.size v2 (playL (selL (comF ss ss.length) ss ss.length)).2 ∧ Below w.heap.size w w' := by
  have HR : Hid (RowH w a ss) := h
  have HP : Hid (TxsP ss) := hp.txs
  have hcall := l08Committed_any a cap ss w h (by omega)
  have HG : Hid (setL (comG ss) 6 = setL (comF ss ss.length) 6) := setL_congr 6 (fun i _ => comG_F hp i)
  rw [HG.out] at hcall
  clear HG
  obtain ⟨f, hf⟩ : ∃ f, comF ss ss.length = f := ⟨_, rfl⟩
  rw [hf] at hcall ⊢
  clear h hp hf
  obtain ⟨n, hn⟩ : ∃ m, ss.length = m := ⟨_, rfl⟩
  have HL : Hid (ss.length = n) := hn
  rw [hn] at hl hcall ⊢
  clear hn
  obtain ⟨i0, hI, hz0, hz1, hz2⟩ := info_parts info9
  go_enter Try.func94, Try.ntmps94
  go_wp2_with fail
  refine hcall.mono ?_
  rintro e w1 ⟨dv, rfl, o1, b1⟩
  have HD : Hid (OwnI w1 w.heap.size dv (setL f 6)) := o1
  have HB1 : Hid (Below w.heap.size w w1) := b1
  have hs1 : w.heap.size ≤ w1.heap.size := b1.size
  have A2 : Below w1.heap.size w1 ((w1.alloc (.cells #[] 61)).alloc (.cells #[] 9)) := ((Below.refl _ _).alloc (Nat.le_refl _) _).alloc (by simp) _
  have HY2 : Hid (OwnY ((w1.alloc (.cells #[] 61)).alloc (.cells #[] 9)) (w1.heap.size) (.slice (some ⟨w1.heap.size, 0, none⟩) 0 0) []) := (OwnY.made w1 w1.heap.size (Nat.le_refl _)).alloc _
  have HS2 : Hid (OwnS ((w1.alloc (.cells #[] 61)).alloc (.cells #[] 9)) (w1.heap.size) (.slice (some ⟨w1.heap.size + 1, 0, none⟩) 0 0) []) := by
    show OwnS _ _ _ _
    have := OwnS.made (w1.alloc (.cells #[] 61)) w1.heap.size (by simp)
    simpa using this
  clear o1 hcall b1
  go_wp2
  go_loopw [5, 6, 7] (fun yv sv i wr => ∃ k : Nat, k ≤ n ∧ i = .int .i64 k ∧ OwnY wr w1.heap.size yv (playL (selL f ss k)).2 ∧ OwnS wr w1.heap.size sv (playL (selL f ss k)).1 ∧ Below w1.heap.size w1 wr) (fun _ _ i _ => n - (intOf i).toNat)
  case atStart => exact ⟨0, by omega, rfl, by rw [selL_zero]; exact HY2.out, by rw [selL_zero]; exact HS2.out, A2⟩
  case round =>
    clear HY2 HS2 A2
    obtain ⟨k, hk, rfl, hY, hS, hbl⟩ := hrel
    have hB : Below w.heap.size w wr := HB1.out.trans (hbl.mono hs1)
    have hsr : w1.heap.size ≤ wr.heap.size := hbl.size
    by_cases hlt : k < n
    · have hltI : (k : Int) < (n : Int) := by omega
      obtain ⟨b, off, rfl, hlb, ⟨q0, q1, q2, q3⟩, z1, z2⟩ := (HR.out.below hB) k (by rw [HL.out]; exact hlt)
      obtain ⟨t0, t5⟩ := HP.out k (by rw [HL.out]; exact hlt)
      have hst := selL_step f (ss := ss) (k := k) (by rw [HL.out]; exact hlt)
      have hlen := playL_len (selL f ss k)
      have hsl := selL_len f ss k
      obtain ⟨P, hPe⟩ : ∃ P, playL (selL f ss k) = P := ⟨_, rfl⟩
      have HPE : Hid (playL (selL f ss k) = P) := hPe
      rw [hPe] at hY hS hlen
      generalize nthH ss k = x at *
      obtain ⟨tx, kd, ky, va⟩ := x
      simp only at q0 q1 q2 q3 t0 t5 hst
      obtain ⟨T, rfl⟩ := Int.eq_ofNat_of_zero_le t0
      rw [show (T : Int).toNat = T from rfl] at hst
      have hhas : Calls Try.prog 76 #[dv, .int .i64 T] wr fun r w' => r = .returned (.bool (f T)) ∧ w' = wr := by
        obtain ⟨da, dc, e, hr, _⟩ := (HD.out.below hbl).row
        have hc := l03Has_any da dc (setL f 6) T wr hr (by have := setL_len f 6; omega)
        rw [any_setL f T 6, decide_eq_true (by omega : T < 6), Bool.true_and] at hc
        rw [e]; exact hc
      have HY : Hid (OwnY wr w1.heap.size u5 P.2) := hY
      have HS : Hid (OwnS wr w1.heap.size u6 P.1) := hS
      clear hY hS hPe t0 t5
      cases hf : f T with
      | false =>
        rw [hf] at hhas hst
        have HN : Hid (playL (selL f ss (k + 1)) = P) := by show _ = _; rw [hst]; exact HPE.out
        clear hf hst
        go_wp2_with (go_at_call 76; refine hhas.mono ?_; rintro e w' ⟨rfl, hq⟩; obtain rfl := hq.symm)
        go_roundw
        case rel => exact ⟨k + 1, by omega, by go_num, by rw [HN.out]; exact HY.out, by rw [HN.out]; exact HS.out, hbl⟩
        case measure => simp [intOf]; omega
      | true =>
        rw [hf] at hhas hst
        have HN : Hid (playL (selL f ss (k + 1)) = stepP P ((T : Int), kd, ky, va)) := by show _ = _; rw [hst, if_pos rfl, playL_snoc, HPE.out]
        clear hf hst
        by_cases k1 : kd = 1
        · subst k1
          have HN1 : Hid (playL (selL f ss (k + 1)) = (P.1 ++ [(valY P.2 ky).getD noT], P.2)) := HN.out
          have hval : Calls Try.prog 130 #[u5, .string ky] wr fun e w' => e = .returned (.tuple #[.string ((valY P.2 ky).getD noT), .bool (valY P.2 ky).isSome]) ∧ Below wr.heap.size wr w' := by
            obtain ⟨ya, yc, e, r⟩ := HY.out.row
            rw [e]; exact l08Value_any ya yc P.2 ky wr r (by omega)
          clear HN
          generalize (valY P.2 ky).getD noT = vv at *
          go_wp2_with (first | (go_at_call 76; refine hhas.mono ?_; rintro e w' ⟨rfl, hq⟩; obtain rfl := hq.symm) | (go_at_call 130; refine hval.mono ?_; rintro e w2 ⟨rfl, b2⟩; have HY2 : Hid (OwnY w2 w1.heap.size u5 P.2) := HY.out.below b2; have HS2 : Hid (OwnS w2 w1.heap.size u6 P.1) := HS.out.below b2; have B2 : Hid (Below w1.heap.size w1 w2) := below_step hbl (Nat.le_refl _) b2; have hs2 : w1.heap.size ≤ w2.heap.size := B2.out.size; clear HY HS b2) | (at_builtin; refine wpList_append_own _ rfl _ _ 36 rfl w1.heap.size 9 i0 (.string ⟨#[]⟩) 1 16 Try.underlying36 hI hz0 hz1 hz2 rfl (by decide) _ _ _ rfl (HS2.out.alloc _) ⟨w2.heap.size, 0, none⟩ 1 1 [.string vv] rfl rfl (cell_one_new _ _ _) ?m4 ?m1 ?m2 ?m3 ?_))
          case m4 => intro u hu; simp at hu; subst hu; rfl
          case m1 => unfold maxLen; omega
          case m2 => omega
          case m3 => first | omega | (simp; omega)
          intro v' w3 ho3 g3 _
          have HS3 : Hid (OwnS w3 w1.heap.size v' (P.1 ++ [vv])) := OwnS.snoc (p := vv) ho3
          have HY3 : Hid (OwnY w3 w1.heap.size u5 P.2) := own_apart (HY2.out.alloc _) (HS2.out.alloc _) (by decide) g3
          have B3 : Hid (Below w1.heap.size w1 w3) := own_belowX (B2.out.alloc hs2 _) (by simp; omega) (HS2.out.alloc _) g3
          clear ho3 g3
          go_wp2
          go_roundw
          case rel => exact ⟨k + 1, by omega, by go_num, by rw [HN1.out]; exact HY3.out, by rw [HN1.out]; exact HS3.out, B3.out⟩
          case measure => simp [intOf]; omega
        · have k1' : (kd == 1) = false := by simpa using k1
          by_cases k2 : kd = 2
          · subst k2
            have HN1 : Hid (playL (selL f ss (k + 1)) = (P.1, overV P.2 [(ky, va, false)])) := HN.out
            have hC : StPl wr b (off + k * 4) ky va wr.drew := ⟨q2, q3, hlb, (Below.refl _ _).drew⟩
            have hover : ∀ (W : World) (g : Nat), Below wr.heap.size wr W → W.heap[g]? = some (.cells #[.string ky, .string va, .bool false] 177 (0, 0)) → Calls Try.prog 128 #[u5, .slice (some ⟨g, 0, none⟩) 1 1] W fun e w' => ∃ v, e = .returned v ∧ OwnY w' W.heap.size v (overV P.2 [(ky, va, false)]) ∧ Below W.heap.size W w' := fun W g hW hg => by
              obtain ⟨ya, yc, e, r⟩ := (HY.out.below hW).row
              rw [e]
              exact l07Over_any ya _ yc 1 P.2 [(ky, va, false)] W r (rowW_one hg) (by omega) (by simp)
            clear HN
            go_wp2_with (go_at_call 76; refine hhas.mono ?_; rintro e w' ⟨rfl, hq⟩; obtain rfl := hq.symm)
            have hwk : IntKind.i64.wrap (k : Int) = (k : Int) := wrap_nat (by omega)
            have SA : Hid (StPl wr b (off + k * 4) ky va (wr.alloc (.cells #[.string ky, .string va, .bool false] 177)).drew) := (show StPl wr b (off + k * 4) ky va wr from ⟨q2, q3, hlb, Below.refl _ _⟩).keep (((Below.refl _ _).alloc (Nat.le_refl _) _).drew)
            have hcall := hover (wr.alloc (.cells #[.string ky, .string va, .bool false] 177)).drew wr.heap.size (((Below.refl _ _).alloc (Nat.le_refl _) _).drew) (heap_new' _ _ _ rfl)
            clear hover
            go_region_held3 (StPl wr b (off + k * 4) ky va) (first | exact hC | exact SA.out | exact StPl.keep SA.out hb) (first | (go_at_call 128; refine hcall.mono ?_; rintro e wA ⟨yv, rfl, oA, hb⟩) | fail)
            rename_i hPL
            have hBA : Below wr.heap.size wr wA := hPL.2.2.2
            have HYA : Hid (OwnY wA w1.heap.size yv (overV P.2 [(ky, va, false)])) := own_mono oA (by simp; omega)
            have HSA : Hid (OwnS wA w1.heap.size u6 P.1) := HS.out.below hBA
            have BA : Hid (Below w1.heap.size w1 wA) := below_step hbl (Nat.le_refl _) hBA
            clear hPL oA hb hcall SA hC hBA
            go_wp2
            go_roundw
            case rel => exact ⟨k + 1, by omega, by go_num, by rw [HN1.out]; exact HYA.out, by rw [HN1.out]; exact HSA.out, BA.out⟩
            case measure => simp [intOf]; omega
          · have k2' : (kd == 2) = false := by simpa using k2
            have HN1 : Hid (playL (selL f ss (k + 1)) = P) := by show _ = _; rw [HN.out]; unfold stepP; rw [if_neg k1, if_neg k2]
            clear HN
            go_wp2_with (go_at_call 76; refine hhas.mono ?_; rintro e w' ⟨rfl, hq⟩; obtain rfl := hq.symm)
            go_roundw
            case rel => exact ⟨k + 1, by omega, by go_num, by rw [HN1.out]; exact HY.out, by rw [HN1.out]; exact HS.out, hbl⟩
            case measure => simp [intOf]; omega
    · obtain rfl : k = n := by omega
      have HY : Hid (OwnY wr w1.heap.size u5 (playL (selL f ss k)).2) := hY
      have HS : Hid (OwnS wr w1.heap.size u6 (playL (selL f ss k)).1) := hS
      clear hY hS
      go_wp2
      go_ret2
      exact ⟨_, _, rfl, own_mono HS.out hs1, own_mono HY.out hs1, hB⟩

/-- What PlayHistory answers: what was found, what is left. -/
noncomputable def plV (ss : List TH) : List TS × List TY := if hisC ss = 0 then playL (selL (comF ss ss.length) ss ss.length) else ([], [])
theorem plV_len (ss : List TH) : (plV ss).1.length ≤ 60 ∧ (plV ss).2.length ≤ 60 := by
  unfold plV
  split
  · rename_i h
    have h1 := playL_len (selL (comF ss ss.length) ss ss.length)
    have h2 := selL_len (comF ss ss.length) ss ss.length
    have h3 := (hisC_ok h).1
    omega
  · simp
abbrev RetPl (w : World) (L : List TS × List TY) (c : Int) (r : Ending) (w' : World) : Prop := ∃ v1 v2, r = .returned (.tuple #[v1, v2, .int .i64 c]) ∧ OwnS w' w.heap.size v1 L.1 ∧ OwnY w' w.heap.size v2 L.2 ∧ Below w.heap.size w w'
set_option maxRecDepth 100000 in
set_option maxHeartbeats 2000000 in
theorem specPlayHistory_any (a : Option Addr) (cap : Nat) (ss : List TH) (w : World) (h : RowH w a ss) (hl : ss.length ≤ 1048576) :
    Calls Try.prog 49 #[.slice a ss.length cap] w (RetPl w (plV ss) (hisC ss)) := by
  have HR : Hid (RowH w a ss) := h
  have hcall := specHistoryOK_any a cap ss w h hl
  have HC : Hid (plV ss = if hisC ss = 0 then playL (selL (comF ss ss.length) ss ss.length) else ([], [])) := rfl
  have HS : Hid (hisC ss = if 4096 < ss.length then 2 else if asB (HistP ss) = true then 0 else 1) := rfl
  have hplay : HistP ss → ∀ W, RowH W a ss → Calls Try.prog 94 #[.slice a ss.length cap] W fun e w' => ∃ v1 v2, e = .returned (.tuple #[v1, v2]) ∧ OwnS w' W.heap.size v1 (playL (selL (comF ss ss.length) ss ss.length)).1 ∧ OwnY w' W.heap.size v2 (playL (selL (comF ss ss.length) ss ss.length)).2 ∧ Below W.heap.size W w' := fun hp W hW => l08Play_any a cap ss W hW hp.1 hp
  generalize hisC ss = c at *
  generalize plV ss = L at *
  obtain ⟨F, hF⟩ : ∃ F, playL (selL (comF ss ss.length) ss ss.length) = F := ⟨_, rfl⟩
  rw [hF] at HC hplay
  clear hF h
  obtain ⟨len, hlen⟩ : ∃ m, ss.length = m := ⟨_, rfl⟩
  rw [hlen] at hl hcall HS hplay ⊢
  clear hlen
  have OS : ∀ W : World, w.heap.size ≤ W.heap.size → OwnS ((W.alloc (.cells #[] 9)).alloc (.cells #[] 61)) w.heap.size (.slice (some ⟨W.heap.size, 0, none⟩) 0 0) [] ∧ OwnY ((W.alloc (.cells #[] 9)).alloc (.cells #[] 61)) w.heap.size (.slice (some ⟨W.heap.size + 1, 0, none⟩) 0 0) [] := fun W hW => by
    refine ⟨(OwnS.made W w.heap.size hW).alloc _, ?_⟩
    have := OwnY.made (W.alloc (.cells #[] 9)) w.heap.size (by simp; omega)
    simpa using this
  by_cases h4 : (4096 : Int) < (len : Int)
  · have E1 : Hid (c = 2) := by show _ = _; rw [HS.out, if_pos (by omega)]
    have E2 : Hid (L = ([], [])) := by show _ = _; rw [HC.out, E1.out]; rfl
    have O1 : Hid (_ ∧ _) := OS w (Nat.le_refl _)
    clear OS hplay
    go_enter Try.func49, Try.ntmps49
    go_wp2
    go_ret3
    rw [E1.out, E2.out]
    exact ⟨_, _, rfl, O1.out.1, O1.out.2, ((Below.refl _ _).alloc (Nat.le_refl _) _).alloc (by simp) _⟩
  · go_enter Try.func49, Try.ntmps49
    go_wp2_with fail
    refine hcall.mono ?_
    rintro e w1 ⟨rfl, b1⟩
    clear hcall
    cases hp : asB (HistP ss) with
    | false =>
      have E1 : Hid (c = 1) := by show _ = _; rw [HS.out, if_neg (by omega), hp]; rfl
      have E2 : Hid (L = ([], [])) := by show _ = _; rw [HC.out, E1.out]; rfl
      have O1 : Hid (_ ∧ _) := OS w1 b1.size
      clear hp OS hplay
      go_wp2
      go_ret3
      rw [E1.out, E2.out]
      exact ⟨_, _, rfl, O1.out.1, O1.out.2, (b1.alloc b1.size _).alloc (by have := b1.size; simp; omega) _⟩
    | true =>
      have E1 : Hid (c = 0) := by show _ = _; rw [HS.out, if_neg (by omega), hp]; rfl
      have E2 : Hid (L = F) := by show _ = _; rw [HC.out, E1.out]; rfl
      have hcall := hplay (asB_is hp) w1 (HR.out.below b1)
      clear hp OS hplay
      go_wp2_with fail
      refine hcall.mono ?_
      rintro e w2 ⟨v1, v2, rfl, o1, o2, b2⟩
      have O1 : Hid (OwnS w2 w.heap.size v1 F.1) := own_mono o1 b1.size
      have O2 : Hid (OwnY w2 w.heap.size v2 F.2) := own_mono o2 b1.size
      have B2 := below_step b1 (Nat.le_refl _) b2
      clear o1 o2 b2 b1 hcall
      go_wp2
      go_ret3
      rw [E1.out, E2.out]
      exact ⟨_, _, rfl, O1.out, O2.out, B2⟩
end Go.Proofs.Ytlcgmifibekegaa
