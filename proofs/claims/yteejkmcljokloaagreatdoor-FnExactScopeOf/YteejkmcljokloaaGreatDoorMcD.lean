/- Sizes, impl's ScopeOf, lists of names, and the specification's ScopeOf (stage 16). -/
import Derived.Test.YteejkmcljokloaaGreatDoorTrD
import Derived.Test.YteejkmcljokloaaGreatDoorMcA
import Derived.Test.YteejkmcljokloaaGreatDoorSqM
import Derived.Test.YteejkmcljokloaaGreatDoorMcC
import Derived.Test.YteejkmcljokloaaGreatDoorSqQ
import Derived.Test.YteejkmcljokloaaGreatDoorCkB
namespace Go.Proofs.YteejkmcljokloaaGreatDoor
open Go.RowKit

set_option maxRecDepth 100000 in
set_option maxHeartbeats 2000000 in
theorem l10Size_all : ∀ (m : Nat) (x : ND) (ks : Fo) (ka : Option Addr) (kc : Nat) (w : World), ks.size ≤ m → ks.size ≤ 1048576 → RowT 0 w ka 0 ks →
    Calls Tryz.prog 47 #[ValT x (.slice ka ks.len kc)] w fun e w' => e = .returned (.int .i64 ((ks.size : Int) + 1)) ∧ Below w.heap.size w w' := by
  intro m
  induction m with
  | zero =>
    intro x ks ka kc w hm hsz hrow
    have hl0 : ks.len = 0 := by have := ks.len_le; omega
    have HZ : Hid (ks.size = 0) := (by omega : ks.size = 0)
    rw [hl0]
    clear hm hsz hrow hl0
    have B0 : Below w.heap.size w (w.alloc (.cells #[.int .i64 x.k, .int .i64 x.n, .string x.nm, .string x.of, .int .i64 x.vk, .int .i64 x.vn, .string x.vt, .slice ka 0 kc] 38)) := (Below.refl _ _).alloc (Nat.le_refl _) _
    go_enter Tryz.func47, Tryz.ntmps47
    go_wp2
    go_loopw [3, 4] (fun s i wr => s = .int .i64 1 ∧ i = .int .i64 0 ∧ wr = w.alloc (.cells #[.int .i64 x.k, .int .i64 x.n, .string x.nm, .string x.of, .int .i64 x.vk, .int .i64 x.vn, .string x.vt, .slice ka 0 kc] 38)) (fun _ _ _ => 0)
    case atStart => exact ⟨rfl, rfl, rfl⟩
    case round =>
      obtain ⟨rfl, rfl, rfl⟩ := hrel
      go_wp2
      go_ret
      exact ⟨ret_int' (by rw [HZ.out]; rfl), B0⟩
  | succ m ih =>
    intro x ks ka kc w hm hsz hrow
    have HR : Hid (RowT 0 w ka 0 ks) := hrow
    have IH : Hid (∀ (x : ND) (ks : Fo) (ka : Option Addr) (kc : Nat) (w : World), ks.size ≤ m → ks.size ≤ 1048576 → RowT 0 w ka 0 ks → Calls Tryz.prog 47 #[ValT x (.slice ka ks.len kc)] w fun e w' => e = .returned (.int .i64 ((ks.size : Int) + 1)) ∧ Below w.heap.size w w') := ih
    have HM : Hid (ks.size ≤ m + 1 ∧ ks.size ≤ 1048576) := ⟨hm, hsz⟩
    clear hrow ih hm
    obtain ⟨len, hL⟩ : ∃ m, ks.len = m := ⟨_, rfl⟩
    have HL : Hid (ks.len = len) := hL
    have hlen : len ≤ 1048576 := by have := ks.len_le; omega
    rw [hL]
    clear hL hsz
    have B0 : Below w.heap.size w (w.alloc (.cells #[.int .i64 x.k, .int .i64 x.n, .string x.nm, .string x.of, .int .i64 x.vk, .int .i64 x.vn, .string x.vt, .slice ka len kc] 38)) := (Below.refl _ _).alloc (Nat.le_refl _) _
    have X0 : BoxN w.heap.size x (.slice ka len kc) (w.alloc (.cells #[.int .i64 x.k, .int .i64 x.n, .string x.nm, .string x.of, .int .i64 x.vk, .int .i64 x.vn, .string x.vt, .slice ka len kc] 38)) := BoxN.new 38
    have HB : Hid (Below w.heap.size w _ ∧ BoxN w.heap.size x (.slice ka len kc) _) := ⟨B0, X0⟩
    clear B0 X0
    go_enter Tryz.func47, Tryz.ntmps47
    go_wp2
    go_loopw [3, 4] (fun s i wr => ∃ k : Nat, k ≤ len ∧ i = .int .i64 k ∧ s = .int .i64 ((ks.upTo k : Int) + 1) ∧ Hid (Below w.heap.size w wr ∧ BoxN w.heap.size x (.slice ka len kc) wr)) (fun _ i _ => len - (intOf i).toNat)
    case atStart => exact ⟨0, by omega, rfl, by rw [Fo.upTo_zero]; rfl, HB⟩
    case round =>
      obtain ⟨k, hk, rfl, rfl, HW⟩ := hrel
      clear HB
      obtain ⟨⟨_, _, _, _, _, _, _, y7⟩, _⟩ := HW.out.2
      by_cases hlt : k < len
      · have hkf : k < ks.len := by rw [HL.out]; exact hlt
        obtain ⟨b, off, ca, cc, rfl, _, hlb, ⟨c0, c1, c2, c3, c4, c5, c6, c7⟩, _, hkr⟩ := (HR.out.below HW.out.1).at k hkf
        have HU : Hid (ks.upTo (k + 1) = ks.upTo k + (ks.kids k).size + 1) := ks.upTo_succ k hkf
        have hkz : (ks.kids k).size ≤ m ∧ (ks.kids k).size ≤ 1048576 := by have := ks.kids_lt k hkf; have := HM.out; omega
        have hub : ks.upTo (k + 1) ≤ 1048576 := by have := ks.upTo_le (k + 1); have := HM.out; omega
        have HK : Hid (RowT 0 wr ca 0 (ks.kids k) ∧ (ks.kids k).size ≤ m ∧ (ks.kids k).size ≤ 1048576) := ⟨hkr, hkz⟩
        clear hkr hkf
        obtain ⟨u, hu⟩ : ∃ u, ks.upTo k = u := ⟨_, rfl⟩
        have HU1 : Hid (ks.upTo k = u) := hu
        rw [hu]
        have hub' : (u : Int) + 1 + ((ks.kids k).size + 1) ≤ 1048577 := by have := HU.out; rw [hu] at this; omega
        clear hu hub
        go_wp2_with fail
        refine (IH.out (ks.node k) (ks.kids k) ca cc wr HK.out.2.1 HK.out.2.2 HK.out.1).mono ?_
        rintro e w1 ⟨rfl, b1⟩
        have HW1 : Hid (Below w.heap.size w w1 ∧ BoxN w.heap.size x (.slice (some ⟨b, off, none⟩) len kc) w1) := ⟨below_step HW.out.1 (Nat.le_refl _) b1, HW.out.2.below b1⟩
        clear HW y7 c0 c1 c2 c3 c4 c5 c6 c7 b1 hlb
        go_wp2
        go_roundw
        case rel => exact ⟨k + 1, by omega, by go_num, by rw [HU.out, HU1.out]; go_num, HW1⟩
        case measure => simp [intOf]; omega
      · obtain rfl : k = len := by omega
        have HE : Hid (ks.upTo k = ks.size) := by show _ = _; rw [← HL.out, Fo.upTo_len]
        go_wp2
        go_ret
        exact ⟨ret_int' (by rw [HE.out]), HW.out.1⟩
end Go.Proofs.YteejkmcljokloaaGreatDoor
namespace Go.Proofs.YteejkmcljokloaaGreatDoor
open Go.RowKit

theorem scp_place (ss : List TT) : ∀ (f : Fo) (ns : List ByteArray) (out : List TF) (a : Int), ((scp ss f ns out a).2.1 = 0 ∧ (scp ss f ns out a).2.2 = 0) ∨ ((scp ss f ns out a).2.1 ≠ 0 ∧ (scp ss f ns out a).1 = [] ∧ a ≤ (scp ss f ns out a).2.2 ∧ (scp ss f ns out a).2.2 ≤ a + f.size)
  | .nil, _, _, _ => .inl ⟨rfl, rfl⟩
  | .cons x ks r, ns, out, a => by
    unfold scp
    by_cases h6 : x.k = 6
    · rw [if_pos h6]
      by_cases hf : fnd ss x.nm < 0
      · rw [if_pos hf]; exact .inr ⟨by show (11 : Int) ≠ 0; decide, rfl, Int.le_refl _, by simp only [Fo.size]; omega⟩
      · rw [if_neg hf]
        by_cases hn : (ns.any fun n => n.toList == (tabNm x).toList) = true
        · rw [if_pos hn]; exact .inr ⟨by show (9 : Int) ≠ 0; decide, rfl, Int.le_refl _, by simp only [Fo.size]; omega⟩
        · rw [if_neg hn]
          rcases scp_place ss r (ns ++ [tabNm x]) (out ++ colsF (tabNm x) (colT ss x.nm)) (a + ((ks.size : Int) + 1)) with h | ⟨h1, h4, h2, h3⟩
          · exact .inl h
          · exact .inr ⟨h1, h4, by omega, by simp only [Fo.size]; push_cast; omega⟩
    · rw [if_neg h6]
      rcases scp_place ss r ns out (a + ((ks.size : Int) + 1)) with h | ⟨h1, h4, h2, h3⟩
      · exact .inl h
      · exact .inr ⟨h1, h4, by omega, by simp only [Fo.size]; push_cast; omega⟩
/-- What both sides answer. -/
noncomputable def scR (ss : List TT) (x : ND) (ks : Fo) : List TF × Int × Int :=
  if 4096 < ss.length then ([], 2, 0) else if asB (CatP ss) = false ∨ sqlB x ks = false then ([], 1, 0) else if x.k = 1 then scp ss ks [] [] 1 else if fnd ss x.nm < 0 then ([], 11, 0) else (colsF x.nm (colT ss x.nm), 0, 0)
/-- What scopeOf answers. -/
def SoR (r : List TF × Int × Int) (w : World) (e : Ending) (w' : World) : Prop := ∃ v er, e = .returned (.tuple #[v, erV er]) ∧ OwnF w' w.heap.size v r.1 ∧ ((er = .nil ∧ r.2.1 = 0 ∧ r.2.2 = 0) ∨ (er = .code r.2.1 ∧ r.2.2 = 0) ∨ (er = .col r.2.2 (.code r.2.1) ∧ 0 ≤ r.2.2 ∧ r.2.2 ≤ 1048577)) ∧ Below w.heap.size w w'
set_option maxRecDepth 100000 in
set_option maxHeartbeats 8000000 in
theorem scopeOf_any (a : Option Addr) (cap : Nat) (ss : List TT) (x : ND) (ks : Fo) (ka : Option Addr) (kc : Nat) (w : World) (h : RowTb w a ss) (hl : ss.length ≤ 1048576) (hz : ∀ i, i < ss.length → SmallT (nthT ss i)) (hsz : ks.size ≤ 1048576) (hrow : RowT 0 w ka 0 ks) (ht : TextsN maxLen x) (hkc : ks.len ≤ kc) :
    Calls Tryz.prog 26 #[.slice a ss.length cap, ValT x (.slice ka ks.len kc)] w fun e w' => SoR (scR ss x ks) w e w' := by
  have HR : Hid (RowTb w a ss ∧ RowT 0 w ka 0 ks ∧ ks.size ≤ 1048576 ∧ TextsN maxLen x ∧ ks.len ≤ kc) := ⟨h, hrow, hsz, ht, hkc⟩
  have HZ : Hid (∀ i, i < ss.length → SmallT (nthT ss i)) := hz
  obtain ⟨len, hL⟩ : ∃ m, ks.len = m := ⟨_, rfl⟩
  have HL : Hid (ks.len = len) := hL
  rw [hL]
  obtain ⟨n, hn⟩ : ∃ n, ss.length = n := ⟨_, rfl⟩
  have HN : Hid (ss.length = n) := hn
  rw [hn] at hl ⊢
  have B0 : Below w.heap.size w (w.alloc (.cells #[.int .i64 x.k, .int .i64 x.n, .string x.nm, .string x.of, .int .i64 x.vk, .int .i64 x.vn, .string x.vt, .slice ka len kc] 38)) := (Below.refl _ _).alloc (Nat.le_refl _) _
  have HB0 : Hid (Below w.heap.size w (w.alloc (.cells #[.int .i64 x.k, .int .i64 x.n, .string x.nm, .string x.of, .int .i64 x.vk, .int .i64 x.vn, .string x.vt, .slice ka len kc] 38)) ∧ BoxN w.heap.size x (.slice ka len kc) (w.alloc (.cells #[.int .i64 x.k, .int .i64 x.n, .string x.nm, .string x.of, .int .i64 x.vk, .int .i64 x.vn, .string x.vt, .slice ka len kc] 38))) := ⟨B0, BoxN.new 38⟩
  have hcat := implCatalogOK_any a cap ss _ (h.below B0) (by omega) hz
  rw [hn] at hcat
  clear h hz hsz hrow ht hkc hL hn B0
  by_cases h1 : 4096 < n
  · have HS : Hid (scR ss x ks = ([], 2, 0)) := by unfold scR; rw [if_pos (by rw [HN.out]; exact h1)]; rfl
    have h1I : (4096 : Int) < (n : Int) := by omega
    clear hcat
    go_enter Tryz.func26, Tryz.ntmps26
    go_wp2
    go_ret2
    rw [HS.out]
    exact ⟨_, .code 2, rfl, OwnF.nil _ _, .inr (.inl ⟨rfl, rfl⟩), HB0.out.1⟩
  have h1I : ¬ (4096 : Int) < (n : Int) := by omega
  have H1 : Hid (¬ 4096 < ss.length) := by show ¬ _; rw [HN.out]; exact h1
  go_enter Tryz.func26, Tryz.ntmps26
  go_wp2_with fail
  refine hcat.mono ?_
  rintro e w1 ⟨rfl, b1⟩
  have HB1 : Hid (Below w.heap.size w w1 ∧ BoxN w.heap.size x (.slice ka len kc) w1) := ⟨HB0.out.1.trans (b1.mono HB0.out.1.size), HB0.out.2.below b1⟩
  clear hcat b1 HB0
  cases hok : asB (CatP ss) with
  | false =>
    have HS : Hid (scR ss x ks = ([], 1, 0)) := by unfold scR; rw [if_neg H1.out, if_pos (.inl hok)]; rfl
    clear hok
    go_wp2
    go_ret2
    rw [HS.out]
    exact ⟨_, .code 1, rfl, OwnF.nil _ _, .inr (.inl ⟨rfl, rfl⟩), HB1.out.1⟩
  | true =>
    have HP : Hid (CatP ss) := asB_is hok
    have hsql := implSqlOK_any x ks ka kc w1 (HR.out.2.1.below HB1.out.1) HR.out.2.2.1 HR.out.2.2.2.1
    rw [HL.out] at hsql
    obtain ⟨⟨y0, y1, y2, y3, y4, y5, y6, y7⟩, _⟩ := HB1.out.2
    have HOK : Hid (asB (CatP ss) = true) := hok
    clear hok
    go_wp2_with fail
    refine hsql.mono ?_
    rintro e w2 ⟨rfl, b2⟩
    have HB2 : Hid (Below w.heap.size w w2 ∧ BoxN w.heap.size x (.slice ka len kc) w2) := ⟨below_step HB1.out.1 (Nat.le_refl _) b2, HB1.out.2.below b2⟩
    clear hsql b2 HB1 y0 y1 y2 y3 y4 y5 y6 y7
    cases hsq : sqlB x ks with
    | false =>
      have HS : Hid (scR ss x ks = ([], 1, 0)) := by unfold scR; rw [if_neg H1.out, if_pos (.inr hsq)]; rfl
      clear hsq
      go_wp2
      go_ret2
      rw [HS.out]
      exact ⟨_, .code 1, rfl, OwnF.nil _ _, .inr (.inl ⟨rfl, rfl⟩), HB2.out.1⟩
    | true =>
      have HSQ : Hid (sqlB x ks = true) := hsq
      have hno : Hid (¬ (asB (CatP ss) = false ∨ sqlB x ks = false)) := fun h => by
        rcases h with h | h
        · rw [HOK.out] at h; cases h
        · rw [HSQ.out] at h; cases h
      clear hsq
      obtain ⟨⟨y0, y1, y2, y3, y4, y5, y6, y7⟩, _⟩ := HB2.out.2
      by_cases hk : x.k = 1
      · have HS : Hid (scR ss x ks = scp ss ks [] [] 1) := by unfold scR; rw [if_neg H1.out, if_neg hno.out, if_pos hk]; rfl
        have hq := queryScope_any a cap ss x ks ka kc w2 (HR.out.1.below HB2.out.1) HP.out (sqlB_size HSQ.out) (HR.out.2.1.below HB2.out.1) HR.out.2.2.2.2
        rw [qsp_two ss (fun nm h => HP.out.ne nm h) ks 1 (sqlB_tabs HSQ.out hk), HN.out, HL.out] at hq
        have hx : ValT x (.slice ka len kc) = .agg #[.int .i64 1, .int .i64 x.n, .string x.nm, .string x.of, .int .i64 x.vk, .int .i64 x.vn, .string x.vt, .slice ka len kc] := by
          show Value.agg #[.int .i64 x.k, .int .i64 x.n, .string x.nm, .string x.of, .int .i64 x.vk, .int .i64 x.vn, .string x.vt, .slice ka len kc] = _
          rw [hk]
        rw [hx] at hq
        go_wp2_with fail
        refine hq.mono ?_
        rintro e w3 ⟨v, rfl, o3, b3⟩
        have HO : Hid (OwnF w3 w.heap.size v (scp ss ks [] [] 1).1 ∧ Below w.heap.size w w3) := ⟨o3.mono HB2.out.1.size, below_step HB2.out.1 (Nat.le_refl _) b3⟩
        have HPL := scp_place ss ks [] [] 1
        have HSZ := sqlB_size HSQ.out
        clear hq o3 b3 y0 y1 y2 y3 y4 y5 y6 y7
        go_wp2
        go_ret2
        rw [HS.out]
        rcases HPL with ⟨p1, p2⟩ | ⟨p1, _, p2, p3⟩
        · refine ⟨v, .nil, ?_, HO.out.1, .inl ⟨rfl, p1, p2⟩, HO.out.2⟩
          unfold erQ
          rw [if_pos p1]
          rfl
        · refine ⟨v, .col _ (.code _), ?_, HO.out.1, .inr (.inr ⟨rfl, by omega, by omega⟩), HO.out.2⟩
          unfold erQ
          rw [if_neg p1]
          rfl
      · have hft := tableFields_any a cap ss x.nm x.nm w2 (HR.out.1.below HB2.out.1) HP.out
        rw [HN.out] at hft
        go_wp2_with fail
        refine hft.mono ?_
        rintro e w3 ⟨v, rfl, o3, b3⟩
        have HO : Hid (OwnF w3 w.heap.size v (if fnd ss x.nm < 0 then [] else colsF x.nm (colT ss x.nm)) ∧ Below w.heap.size w w3) := ⟨o3.mono HB2.out.1.size, below_step HB2.out.1 (Nat.le_refl _) b3⟩
        clear hft o3 b3 y0 y1 y2 y3 y4 y5 y6 y7
        by_cases hf : fnd ss x.nm < 0
        · have HS : Hid (scR ss x ks = ([], 11, 0)) := by unfold scR; rw [if_neg H1.out, if_neg hno.out, if_neg hk, if_pos hf]; rfl
          have HO2 : Hid (OwnF w3 w.heap.size v [] ∧ Below w.heap.size w w3) := by have := HO.out; rw [if_pos hf] at this; exact this
          rw [if_pos hf]
          clear HO hf
          go_wp2
          go_ret2
          rw [HS.out]
          exact ⟨v, .code 11, rfl, HO2.out.1, .inr (.inl ⟨rfl, rfl⟩), HO2.out.2⟩
        · have HS : Hid (scR ss x ks = (colsF x.nm (colT ss x.nm), 0, 0)) := by unfold scR; rw [if_neg H1.out, if_neg hno.out, if_neg hk, if_neg hf]; rfl
          have HO2 : Hid (OwnF w3 w.heap.size v (colsF x.nm (colT ss x.nm)) ∧ Below w.heap.size w w3) := by have := HO.out; rw [if_neg hf] at this; exact this
          rw [if_neg hf]
          clear HO hf
          go_wp2
          go_ret2
          rw [HS.out]
          exact ⟨v, .nil, rfl, HO2.out.1, .inl ⟨rfl, rfl, rfl⟩, HO2.out.2⟩
end Go.Proofs.YteejkmcljokloaaGreatDoor
namespace Go.Proofs.YteejkmcljokloaaGreatDoor
open Go.RowKit

/-- What both sides' ScopeOf answer. -/
def ScA (r : List TF × Int × Int) (w : World) (e : Ending) (w' : World) : Prop := ∃ v, e = .returned (.tuple #[v, .int .i64 r.2.1, .int .i64 r.2.2]) ∧ OwnF w' w.heap.size v r.1 ∧ Below w.heap.size w w'
set_option maxRecDepth 100000 in
set_option maxHeartbeats 8000000 in
theorem implScope_any (a : Option Addr) (cap : Nat) (ss : List TT) (x : ND) (ks : Fo) (ka : Option Addr) (kc : Nat) (w : World) (hg : ErrT w) (h : RowTb w a ss) (hl : ss.length ≤ 1048576) (hz : ∀ i, i < ss.length → SmallT (nthT ss i)) (hsz : ks.size ≤ 1048576) (hrow : RowT 0 w ka 0 ks) (ht : TextsN maxLen x) (hkc : ks.len ≤ kc) :
    Calls Tryz.prog 9 #[.slice a ss.length cap, ValT x (.slice ka ks.len kc)] w fun e w' => ScA (scR ss x ks) w e w' := by
  obtain ⟨W0, hW0⟩ : ∃ W0, w.alloc (.cells #[.int .i64 x.k, .int .i64 x.n, .string x.nm, .string x.of, .int .i64 x.vk, .int .i64 x.vn, .string x.vt, .slice ka ks.len kc] 38) = W0 := ⟨_, rfl⟩
  have B0 : Below w.heap.size w W0 := hW0 ▸ (Below.refl _ _).alloc (Nat.le_refl _) _
  have X0 : BoxN w.heap.size x (.slice ka ks.len kc) W0 := hW0 ▸ BoxN.new 38
  have hc := scopeOf_any a cap ss x ks ka kc W0 (h.below B0) hl hz hsz (hrow.below B0) ht hkc
  have HB : Hid (Below w.heap.size w W0) := B0
  have HG : Hid (ErrT w) := hg
  obtain ⟨len, hL⟩ : ∃ m, ks.len = m := ⟨_, rfl⟩
  obtain ⟨n, hn⟩ : ∃ n, ss.length = n := ⟨_, rfl⟩
  rw [hL] at hc hW0 X0 ⊢
  rw [hn] at hc ⊢
  obtain ⟨⟨y0, y1, y2, y3, y4, y5, y6, y7⟩, _⟩ := X0
  clear hL hn h hz hrow ht hkc B0 hg hsz hl
  generalize scR ss x ks = r at *
  go_enter Tryz.func9, Tryz.ntmps9
  go_wp2_with fail
  refine hc.mono ?_
  rintro e w1 ⟨v, er, rfl, o1, her, b1⟩
  have HO : Hid (OwnF w1 w.heap.size v r.1 ∧ Below w.heap.size w w1 ∧ ErrT w1) := by
    have hb := HB.out.trans (b1.mono HB.out.size)
    exact ⟨o1.mono HB.out.size, hb, HG.out.below hb HG.out.2⟩
  clear hc o1 b1 y0 y1 y2 y3 y4 y5 y6 y7 hW0
  have h1 : Hid (∀ W, ErrT W → Calls Tryz.prog 27 #[erV er] W fun e w' => e = .returned (.int .i64 r.2.1) ∧ Below W.heap.size W w') := fun W hW => by
    refine (codeIn_any er W hW).mono ?_
    rintro e w' ⟨rfl, b⟩
    refine ⟨?_, b⟩
    rcases her with ⟨rfl, p1, p2⟩ | ⟨rfl, p2⟩ | ⟨rfl, p2, p3⟩
    · rw [p1]; rfl
    · rfl
    · rfl
  have h2 : Hid (∀ W, ErrT W → Calls Tryz.prog 28 #[erV er] W fun e w' => e = .returned (.int .i64 r.2.2) ∧ Below W.heap.size W w') := fun W hW => by
    rcases her with ⟨rfl, p1, p2⟩ | ⟨rfl, p2⟩ | ⟨rfl, p2, p3⟩
    · rw [p2]; exact placeIn_none .nil rfl W hW
    · rw [p2]; exact placeIn_none _ rfl W hW
    · exact placeIn_one _ _ p2 (by omega) W hW
  clear her
  generalize erV er = ev at *
  go_wp2_with fail
  refine (h1.out _ HO.out.2.2).mono ?_
  rintro e w2 ⟨rfl, b2⟩
  have HO2 : Hid (OwnF w2 w.heap.size v r.1 ∧ Below w.heap.size w w2 ∧ ErrT w2) := ⟨HO.out.1.below b2, below_step HO.out.2.1 (Nat.le_refl _) b2, HO.out.2.2.below b2 (Nat.lt_of_lt_of_le HG.out.2 HO.out.2.1.size)⟩
  clear b2 h1
  go_wp2_with fail
  refine (h2.out _ HO2.out.2.2).mono ?_
  rintro e w3 ⟨rfl, b3⟩
  have HO3 : Hid (OwnF w3 w.heap.size v r.1 ∧ Below w.heap.size w w3) := ⟨HO2.out.1.below b3, below_step HO2.out.2.1 (Nat.le_refl _) b3⟩
  clear b3 h2
  go_wp2
  go_ret3
  exact ⟨v, rfl, HO3.out.1, HO3.out.2⟩
end Go.Proofs.YteejkmcljokloaaGreatDoor
namespace Go.Proofs.YteejkmcljokloaaGreatDoor
open Go.RowKit

abbrev OwnN (w : World) (B : Nat) (v : Value) (l : List ByteArray) : Prop := w.ownsRow B 9 1 v l.length (l.map Value.string)
theorem OwnN.empty {w : World} {B : Nat} (hB : B ≤ w.heap.size) : OwnN (w.alloc (.cells #[] 9)) B (.slice (some ⟨w.heap.size, 0, none⟩) 0 0) [] :=
  ⟨rfl, .inr ⟨w.heap.size, 0, #[], rfl, hB, heap_alloc_new w _, by simp, by simp, by simp, by simp⟩⟩
theorem OwnN.keep {w w' : World} {B : Nat} {v : Value} {l : List ByteArray} (h : OwnN w B v l) (hb : ∀ g, g < w.heap.size → v.ownBlock = some g → w'.heap[g]? = w.heap[g]?) : OwnN w' B v l := by
  obtain ⟨h1, h2⟩ := h
  refine ⟨h1, ?_⟩
  rcases h2 with h | ⟨g, cap, cur, rfl, hg, hh, r⟩
  · exact .inl h
  · exact .inr ⟨g, cap, cur, rfl, hg, (hb g (slab_lt hh) rfl).trans hh, r⟩
theorem OwnF.keep {w w' : World} {B : Nat} {v : Value} {l : List TF} (h : OwnF w B v l) (hb : ∀ g, g < w.heap.size → v.ownBlock = some g → w'.heap[g]? = w.heap[g]?) : OwnF w' B v l := by
  obtain ⟨h1, h2⟩ := h
  refine ⟨h1, ?_⟩
  rcases h2 with h | ⟨g, cap, cur, rfl, hg, hh, r⟩
  · exact .inl h
  · exact .inr ⟨g, cap, cur, rfl, hg, (hb g (slab_lt hh) rfl).trans hh, r⟩
theorem OwnN.lt {w : World} {B : Nat} {v : Value} {l : List ByteArray} (h : OwnN w B v l) {g : Nat} (hg : v.ownBlock = some g) : B ≤ g ∧ g < w.heap.size := by
  obtain ⟨_, h2⟩ := h
  rcases h2 with ⟨rfl, _⟩ | ⟨g', cap, cur, rfl, h1, h3, _⟩
  · simp [Value.ownBlock] at hg
  · simp [Value.ownBlock] at hg
    subst hg
    exact ⟨h1, slab_lt h3⟩
theorem own_apart {w : World} {B B' : Nat} {v v' : Value} {l : List TF} {l' : List ByteArray} (h : OwnF w B v l) (h' : OwnN w B' v' l') {g : Nat} (e : v.ownBlock = some g) (e' : v'.ownBlock = some g) : False := by
  obtain ⟨_, h2⟩ := h
  obtain ⟨_, h2'⟩ := h'
  rcases h2 with ⟨rfl, _⟩ | ⟨g1, cap, cur, rfl, _, h3, _⟩
  · simp [Value.ownBlock] at e
  · rcases h2' with ⟨rfl, _⟩ | ⟨g2, cap', cur', rfl, _, h3', _⟩
    · simp [Value.ownBlock] at e'
    · simp [Value.ownBlock] at e e'
      subst e
      subst e'
      rw [h3] at h3'
      simp at h3'
theorem OwnN.cells {w : World} {B : Nat} {v : Value} {l : List ByteArray} (h : OwnN w B v l) : ∃ a cap, v = .slice a l.length cap ∧ ∀ i (hi : i < l.length), ∃ b, a = some ⟨b, 0, none⟩ ∧ w.cell? ⟨b, i, none⟩ = some (.string l[i]) := by
  obtain ⟨_, h2⟩ := h
  rcases h2 with ⟨rfl, h0⟩ | ⟨g, cap, cur, rfl, _, hh, _, _, hs, ht⟩
  · exact ⟨none, 0, by rw [h0], fun i hi => by omega⟩
  · refine ⟨_, cap, rfl, fun i hi => ⟨g, rfl, ?_⟩⟩
    rw [slab_cell hh]
    have hj : (l.map Value.string)[i]? = some (.string l[i]) := by rw [List.getElem?_map, List.getElem?_eq_getElem hi]; rfl
    rw [← ht, List.getElem?_take] at hj
    split at hj
    · rw [← Array.getElem?_toList]; exact hj
    · cases hj
theorem infoN9 : (Tryz.prog.info? 9).map (fun i => (i.zero, i.size, i.bytes)) = some (some (.string ⟨#[]⟩), 1, 16) := by kernel_rfl
set_option maxRecDepth 100000 in
/-- One name, appended. -/
theorem push_N (v : Value) (l : List ByteArray) (x : ByteArray) (w : World) (B : Nat) (h : OwnN w B v l) (hl : l.length < 2097152) (hB : B ≤ w.heap.size) :
    ∃ v' w', (Builtin.append_ #[84, 84] 84 #[v, .slice (some ⟨w.heap.size, 0, none⟩) 1 1]).run Tryz.prog (w.alloc (.cells #[.string x] 9)) = .ok v' w' ∧ OwnN w' B v' (l ++ [x]) ∧ Grw w w' v v' := by
  have b2 : Below w.heap.size w (w.alloc (.cells #[.string x] 9)) := (Below.refl _ _).alloc (Nat.le_refl _) _
  have o2 : OwnN (w.alloc (.cells #[.string x] 9)) B v l := h.keep fun g hg _ => b2.block g hg
  have hh : (w.alloc (.cells #[.string x] 9)).heap[w.heap.size]? = some (.cells #[.string x] 9 (0, 0)) := heap_new' _ _ _ rfl
  obtain ⟨i0, hi, hz0, hz1, hz2⟩ := info_parts infoN9
  obtain ⟨v', w', h1, h2, h3, _, h4⟩ := run_append_own_at (P := Tryz.prog) (w := w.alloc (.cells #[.string x] 9)) B 84 84 9 i0 _ 1 16 Tryz.underlying84 hi hz0 hz1 hz2 rfl (by decide) v l.length (l.map Value.string) o2 ⟨w.heap.size, 0, none⟩ 1 1 [.string x] rfl (fun j u hj => by
    have hj0 : j = 0 := by
      have := (List.getElem?_eq_some_iff.1 hj).1
      simpa using this
    subst hj0
    simp at hj
    subst hj
    rw [add_plain, slab_cell hh]
    rfl) (fun u hu => by simp at hu; subst hu; rfl) (by unfold maxLen; omega) (by omega) (by simp; omega)
  refine ⟨v', w', h1, by show w'.ownsRow B 9 1 v' (l ++ [x]).length ((l ++ [x]).map Value.string); rw [show (l ++ [x]).length = l.length + 1 by simp, show (l ++ [x]).map Value.string = l.map Value.string ++ [.string x] by simp]; exact h2, (Grw.of_below b2 v).trans ⟨⟨h3.os, h3.tape, h3.output, h3.size, fun k hk hn => h3.block k hk fun e => hn e.symm⟩, fun b hb => ?_⟩⟩
  rcases h4 with h4 | h4
  · rw [h4] at hb; exact .inl hb
  · rw [h4] at hb; cases hb; exact .inr (Nat.le_refl _)
end Go.Proofs.YteejkmcljokloaaGreatDoor
namespace Go.Proofs.YteejkmcljokloaaGreatDoor
open Go.RowKit

/-- Under way. -/
structure SpI (w : World) (ss : List TT) (x : ND) (ks : Fo) (s : Value) (k : Nat) (v : Value) (out : List TF) (nv : Value) (ns : List ByteArray) (wr : World) : Prop where
  own : OwnF wr (w.heap.size + 1) v out
  nam : OwnN wr (w.heap.size + 1) nv ns
  bel : Below w.heap.size w wr
  box : BoxN w.heap.size x s wr
  eq : scp ss (ks.drop k) ns out ((ks.upTo k : Int) + 1) = scp ss ks [] [] 1
  len : out.length ≤ 8 * k
  lns : ns.length ≤ k
set_option maxRecDepth 100000 in
set_option maxHeartbeats 16000000 in
theorem l11Query_any (a : Option Addr) (cap : Nat) (ss : List TT) (x : ND) (ks : Fo) (ka : Option Addr) (kc : Nat) (w : World) (h : RowTb w a ss) (hc : CatP ss) (hsz : ks.size ≤ 119) (hrow : RowT 0 w ka 0 ks) (hk1 : x.k = 1) :
    Calls Tryz.prog 22 #[.slice a ss.length cap, ValT x (.slice ka ks.len kc)] w fun e w' => ScA (scp ss ks [] [] 1) w e w' := by
  have HR : Hid (RowTb w a ss ∧ CatP ss ∧ RowT 0 w ka 0 ks ∧ ks.size ≤ 119) := ⟨h, hc, hrow, hsz⟩
  have hll := ks.len_le
  obtain ⟨len, hL⟩ : ∃ m, ks.len = m := ⟨_, rfl⟩
  have HL : Hid (ks.len = len) := hL
  rw [hL] at hll ⊢
  have hlen : len ≤ 119 := by omega
  obtain ⟨n, hn⟩ : ∃ n, ss.length = n := ⟨_, rfl⟩
  have HN : Hid (ss.length = n) := hn
  rw [hn]
  have hn6 : n ≤ 6 := by have := hc.1; omega
  obtain ⟨W0, hW0⟩ : ∃ W0, ((w.alloc (.cells #[.int .i64 1, .int .i64 x.n, .string x.nm, .string x.of, .int .i64 x.vk, .int .i64 x.vn, .string x.vt, .slice ka len kc] 38)).alloc (.cells #[] 70)).alloc (.cells #[] 9) = W0 := ⟨_, rfl⟩
  have HI0 : Hid (SpI w ss x ks (.slice ka len kc) 0 (.slice (some ⟨w.heap.size + 1, 0, none⟩) 0 0) [] (.slice (some ⟨w.heap.size + 1 + 1, 0, none⟩) 0 0) [] W0) := by
    have b1 : Below w.heap.size w (w.alloc (.cells #[.int .i64 1, .int .i64 x.n, .string x.nm, .string x.of, .int .i64 x.vk, .int .i64 x.vn, .string x.vt, .slice ka len kc] 38)) := (Below.refl _ _).alloc (Nat.le_refl _) _
    have bx : BoxN w.heap.size x (.slice ka len kc) (w.alloc (.cells #[.int .i64 1, .int .i64 x.n, .string x.nm, .string x.of, .int .i64 x.vk, .int .i64 x.vn, .string x.vt, .slice ka len kc] 38)) := by
      have := BoxN.new (x := x) (s := .slice ka len kc) (w := w) 38
      rw [hk1] at this
      exact this
    have s1 : (w.alloc (.cells #[.int .i64 1, .int .i64 x.n, .string x.nm, .string x.of, .int .i64 x.vk, .int .i64 x.vn, .string x.vt, .slice ka len kc] 38)).heap.size = w.heap.size + 1 := by simp
    have b2 : Below (w.heap.size + 1) (w.alloc (.cells #[.int .i64 1, .int .i64 x.n, .string x.nm, .string x.of, .int .i64 x.vk, .int .i64 x.vn, .string x.vt, .slice ka len kc] 38)) ((w.alloc (.cells #[.int .i64 1, .int .i64 x.n, .string x.nm, .string x.of, .int .i64 x.vk, .int .i64 x.vn, .string x.vt, .slice ka len kc] 38)).alloc (.cells #[] 70)) := by rw [← s1]; exact (Below.refl _ _).alloc (Nat.le_refl _) _
    have o2 : OwnF ((w.alloc (.cells #[.int .i64 1, .int .i64 x.n, .string x.nm, .string x.of, .int .i64 x.vk, .int .i64 x.vn, .string x.vt, .slice ka len kc] 38)).alloc (.cells #[] 70)) (w.heap.size + 1) (.slice (some ⟨w.heap.size + 1, 0, none⟩) 0 0) [] := by
      have := OwnF.empty (w := w.alloc (.cells #[.int .i64 1, .int .i64 x.n, .string x.nm, .string x.of, .int .i64 x.vk, .int .i64 x.vn, .string x.vt, .slice ka len kc] 38)) (B := w.heap.size + 1) (by simp)
      rw [s1] at this
      exact this
    have s2 : ((w.alloc (.cells #[.int .i64 1, .int .i64 x.n, .string x.nm, .string x.of, .int .i64 x.vk, .int .i64 x.vn, .string x.vt, .slice ka len kc] 38)).alloc (.cells #[] 70)).heap.size = w.heap.size + 1 + 1 := by simp
    have b3 : Below ((w.alloc (.cells #[.int .i64 1, .int .i64 x.n, .string x.nm, .string x.of, .int .i64 x.vk, .int .i64 x.vn, .string x.vt, .slice ka len kc] 38)).alloc (.cells #[] 70)).heap.size ((w.alloc (.cells #[.int .i64 1, .int .i64 x.n, .string x.nm, .string x.of, .int .i64 x.vk, .int .i64 x.vn, .string x.vt, .slice ka len kc] 38)).alloc (.cells #[] 70)) W0 := hW0 ▸ (Below.refl _ _).alloc (Nat.le_refl _) _
    have o3 : OwnN W0 (w.heap.size + 1) (.slice (some ⟨w.heap.size + 1 + 1, 0, none⟩) 0 0) [] := by
      have := OwnN.empty (w := (w.alloc (.cells #[.int .i64 1, .int .i64 x.n, .string x.nm, .string x.of, .int .i64 x.vk, .int .i64 x.vn, .string x.vt, .slice ka len kc] 38)).alloc (.cells #[] 70)) (B := w.heap.size + 1) (by simp)
      rw [s2, hW0] at this
      exact this
    have bx2 : BoxN w.heap.size x (.slice ka len kc) ((w.alloc (.cells #[.int .i64 1, .int .i64 x.n, .string x.nm, .string x.of, .int .i64 x.vk, .int .i64 x.vn, .string x.vt, .slice ka len kc] 38)).alloc (.cells #[] 70)) := bx.below (by rw [s1]; exact b2)
    exact ⟨o2.below b3, o3, (b1.trans (b2.mono (by omega))).trans (b3.mono (by simp; omega)), bx2.below b3, by rw [Fo.drop_zero, Fo.upTo_zero]; rfl, by simp, by simp⟩
  have z0 : W0.cell? ⟨w.heap.size, 0, none⟩ = some (.int .i64 1) := by
    have := HI0.out.box.1.1
    rw [hk1] at this
    exact this
  clear h hc hrow hsz hL hll hn
  go_enter Tryz.func22, Tryz.ntmps22
  go_wp2
  go_loopw [7, 8, 10, 11] (fun u nu at' i wr => ∃ (k : Nat) (v : Value) (out : List TF) (nv : Value) (ns : List ByteArray), k ≤ len ∧ i = .int .i64 k ∧ v = u ∧ nv = nu ∧ at' = .int .i64 ((ks.upTo k : Int) + 1) ∧ Hid (SpI w ss x ks (.slice ka len kc) k v out nv ns wr)) (fun _ _ _ i _ => len - (intOf i).toNat)
  case atStart => exact ⟨0, _, [], _, [], by omega, rfl, rfl, rfl, by rw [Fo.upTo_zero]; rfl, HI0⟩
  case round =>
    clear HI0 hW0 z0
    obtain ⟨k, v, out, nv, ns, hk, rfl, rfl, rfl, rfl, HS⟩ := hrel
    obtain ⟨⟨_, _, _, _, _, _, _, y7⟩, _⟩ := HS.out.box
    by_cases hlt : k < len
    · have hkf : k < ks.len := by rw [HL.out]; exact hlt
      obtain ⟨b, off, ca, cc, rfl, _, hlw, hcw, _, hkr⟩ := HR.out.2.2.1.at k hkf
      obtain ⟨c0, c1, c2, c3, c4, c5, c6, c7⟩ := hcw.same (HS.out.bel.block b hlw)
      have hlb := Nat.lt_of_lt_of_le hlw HS.out.bel.size
      clear hcw hlw
      have hltI : (k : Int) < (len : Int) := by omega
      have HD := Fo.drop_at ks k hkf
      have HU := ks.upTo_succ k hkf
      have hub : ks.upTo (k + 1) ≤ 119 := by have := ks.upTo_le (k + 1); have := HR.out.2.2.2; omega
      obtain ⟨y, hy⟩ : ∃ y, ks.node k = y := ⟨_, rfl⟩
      obtain ⟨zs, hzs⟩ : ∃ zs, ks.kids k = zs := ⟨_, rfl⟩
      rw [hy, hzs] at HD
      rw [hzs] at HU hkr
      rw [hzs] at c7
      rw [hy] at c0 c1 c2 c3 c4 c5 c6
      have HDU : Hid (ks.drop k = .cons y zs (ks.drop (k + 1)) ∧ ks.upTo (k + 1) = ks.upTo k + zs.size + 1 ∧ ks.upTo (k + 1) ≤ 119 ∧ RowT 0 w ca 0 zs) := ⟨HD, HU, hub, hkr⟩
      clear hy hzs HD HU hub hkr
      by_cases h6 : y.k = 6
      · cases hof : (y.of.toList == []) with
        | true =>
          have HT : Hid (tabNm y = y.nm) := by show _ = _; unfold tabNm; rw [hof]; rfl
          obtain ⟨W1, hW1⟩ : ∃ W1, wr.alloc (.cells #[.int .i64 6, .int .i64 y.n, .string y.nm, .string y.of, .int .i64 y.vk, .int .i64 y.vn, .string y.vt, .slice ca zs.len cc] 38) = W1 := ⟨_, rfl⟩
          have b1 : Below wr.heap.size wr W1 := hW1 ▸ (Below.refl _ _).alloc (Nat.le_refl _) _
          have X1 : CellT W1 wr.heap.size 0 y (.slice ca zs.len cc) := by
            have := cellT_new (w := wr) y (.slice ca zs.len cc) 38
            rw [h6] at this
            rw [← hW1]
            exact this
          have HB1 : Hid (Below wr.heap.size wr W1 ∧ wr.heap.size < W1.heap.size ∧ CellT W1 wr.heap.size 0 y (.slice ca zs.len cc) ∧ Below w.heap.size w W1) := ⟨b1, by rw [← hW1]; simp, X1, below_step HS.out.bel (Nat.le_refl _) b1⟩
          have hfi := l09Find_any a cap n ss y.nm W1 (HR.out.1.below HB1.out.2.2.2) HN.out.symm (by omega)
          obtain ⟨na, nc, hnv, hnc⟩ := HS.out.nam.cells
          have hnc1 : ∀ i (hi : i < ns.length), ∃ b, na = some ⟨b, 0, none⟩ ∧ W1.cell? ⟨b, i, none⟩ = some (.string ns[i]) := fun i hi => by
            obtain ⟨b, e, h⟩ := hnc i hi
            exact ⟨b, e, (b1.cell (p := ⟨b, i, none⟩) (World.block_lt_of_cell? wr ⟨b, i, none⟩ h)).trans h⟩
          have HNC : Hid (∀ i (hi : i < ns.length), ∃ b, na = some ⟨b, 0, none⟩ ∧ W1.cell? ⟨b, i, none⟩ = some (.string ns[i])) := hnc1
          obtain ⟨z0, _, z2, z3, _, _, _, _⟩ := X1
          rw [h6] at z0
          obtain ⟨l, hl⟩ : ∃ l, ns.length = l := ⟨_, rfl⟩
          have HLN : Hid (ns.length = l) := hl
          have hl119 : l ≤ 119 := by have := HS.out.lns; omega
          rw [hl] at hnv
          subst hnv
          obtain ⟨up, hup⟩ : ∃ up, ks.upTo k = up := ⟨_, rfl⟩
          have HUP : Hid (ks.upTo k = up) := hup
          rw [hup]
          have hub : (up : Int) ≤ 119 := by have := ks.upTo_le k; have := HR.out.2.2.2; omega
          clear b1 hnc hnc1 hl hup
          go_wp2_with fail
          refine hfi.mono ?_
          rintro e w2 ⟨rfl, hw2⟩
          obtain rfl := hw2.symm
          clear hfi hW1 y7
          by_cases hf : fnd ss y.nm < 0
          · have hfn : findN (nmT ss) y.nm n < 0 := by have : fnd ss y.nm = findN (nmT ss) y.nm n := by show findN (nmT ss) y.nm ss.length = _; rw [HN.out]
                                                       omega
            have HE2 : Hid (scp ss ks [] [] 1 = ([], 11, (up : Int) + 1)) := by
              show _ = _
              rw [← HS.out.eq, HDU.out.1, HUP.out]
              unfold scp
              rw [if_pos h6, if_pos hf]
            have HO : Hid (OwnF (W1.alloc (.cells #[] 70)) w.heap.size (.slice (some ⟨W1.heap.size, 0, none⟩) 0 0) [] ∧ Below w.heap.size w (W1.alloc (.cells #[] 70))) := ⟨OwnF.empty HB1.out.2.2.2.size, HB1.out.2.2.2.alloc HB1.out.2.2.2.size _⟩
            clear HS
            generalize findN (nmT ss) y.nm n = fi at *
            go_wp2
            go_ret3
            rw [HE2.out]
            exact ⟨_, rfl, HO.out.1, HO.out.2⟩
          · have hF : 0 ≤ fnd ss y.nm := by omega
            have hplt := fnd_lt hF
            obtain ⟨p, hp⟩ : ∃ p, (fnd ss y.nm).toNat = p := ⟨_, rfl⟩
            have hfn : findN (nmT ss) y.nm n = (p : Int) := by
              have : fnd ss y.nm = findN (nmT ss) y.nm n := by show findN (nmT ss) y.nm ss.length = _; rw [HN.out]
              omega
            rw [hfn]
            have HP : Hid ((fnd ss y.nm).toNat = p ∧ p < ss.length ∧ ¬ fnd ss y.nm < 0) := ⟨hp, by omega, hf⟩
            have hpn : p < n := by have := HN.out; omega
            clear hF hplt hp hfn
            go_wp2
            go_loop [15] (fun j => ∃ i : Nat, i ≤ l ∧ j = .int .i64 i ∧ Hid (∀ q (hq : q < ns.length), q < i → (ns[q].toList == (y.nm).toList) = false)) (fun j => l - (intOf j).toNat)
            case atStart => exact ⟨0, by omega, rfl, fun q _ h => by omega⟩
            case round =>
              obtain ⟨i, hi, rfl, HA⟩ := hrel
              by_cases hil : i < l
              · have hin : i < ns.length := by rw [HLN.out]; exact hil
                obtain ⟨nb, rfl, hcell⟩ := HNC.out i hin
                obtain ⟨si, hsi⟩ : ∃ si, ns[i] = si := ⟨_, rfl⟩
                have HSI : Hid (ns[i] = si) := hsi
                rw [hsi] at hcell
                have hiI : (i : Int) < (l : Int) := by omega
                clear hsi
                cases hq : (si.toList == (y.nm).toList) with
                | true =>
                  have HE2 : Hid (scp ss ks [] [] 1 = ([], 9, (up : Int) + 1)) := by
                    have hany : (ns.any fun n => n.toList == (tabNm y).toList) = true := by
                      rw [List.any_eq_true]
                      refine ⟨si, by rw [← HSI.out]; exact List.getElem_mem hin, ?_⟩
                      rw [HT.out]
                      exact hq
                    show _ = _
                    rw [← HS.out.eq, HDU.out.1, HUP.out]
                    unfold scp
                    rw [if_pos h6, if_neg (show ¬ fnd ss y.nm < 0 by have := HP.out.2.2; omega), if_pos hany]
                  have HO : Hid (OwnF (W1.alloc (.cells #[] 70)) w.heap.size (.slice (some ⟨W1.heap.size, 0, none⟩) 0 0) [] ∧ Below w.heap.size w (W1.alloc (.cells #[] 70))) := ⟨OwnF.empty HB1.out.2.2.2.size, HB1.out.2.2.2.alloc HB1.out.2.2.2.size _⟩
                  clear HS HA HSI
                  go_wp2
                  go_ret3
                  rw [HE2.out]
                  exact ⟨_, rfl, HO.out.1, HO.out.2⟩
                | false =>
                  have HA2 : Hid (∀ q (hq : q < ns.length), q < i + 1 → (ns[q].toList == (y.nm).toList) = false) := fun q hqn hqi => by
                    by_cases e : q = i
                    · subst e
                      rw [HSI.out]
                      exact hq
                    · exact HA.out q hqn (by omega)
                  clear HA HSI
                  go_wp2
                  exact ⟨⟨i + 1, by omega, by go_num, HA2⟩, by simp [intOf]; omega⟩
              · obtain rfl : i = l := by omega
                have HANY : Hid (¬ (ns.any fun n => n.toList == (tabNm y).toList) = true) := by
                  show ¬ _
                  rw [List.any_eq_true]
                  rintro ⟨q, hq, he⟩
                  obtain ⟨j, hj, rfl⟩ := List.getElem_of_mem hq
                  rw [HT.out] at he
                  have := HA.out j hj (by rw [← HLN.out]; exact hj)
                  rw [this] at he
                  cases he
                clear HA
                have hs := HS.out
                have hb0 := HB1.out
                have oF1 : OwnF W1 (w.heap.size + 1) v out := hs.own.below hb0.1
                have oN1 : OwnN W1 (w.heap.size + 1) (.slice na i nc) ns := hs.nam.keep fun g q _ => hb0.1.block g q
                have hB1 : w.heap.size + 1 ≤ W1.heap.size := by have := hs.box.2; omega
                obtain ⟨nv', wN, rN, oN, gN⟩ := push_N (.slice na i nc) ns (y.nm) W1 (w.heap.size + 1) oN1 (by have := hs.lns; omega) hB1
                have bN : Below (w.heap.size + 1) W1 wN := gN.kept.below hB1 fun q e => (oN1.lt e).1
                have oFN : OwnF wN (w.heap.size + 1) v out := oF1.keep fun g q e => gN.kept.block g q fun e' => own_apart oF1 oN1 e e'
                have hBN : w.heap.size + 1 ≤ wN.heap.size := Nat.le_trans hB1 bN.size
                have bwN : Below w.heap.size w wN := hb0.2.2.2.trans (bN.mono (by omega))
                have XN : CellT wN wr.heap.size 0 y (.slice ca zs.len cc) := hb0.2.2.1.same (gN.kept.block _ hb0.2.1 fun e => by have := (hs.nam.lt e).2; omega)
                obtain ⟨tb, toff, tca, tcc, txa, txc, rfl, htl, ht4, htr, htx, _⟩ := HR.out.1 p HP.out.2.1
                have ht4N := ht4.below htl bwN
                have hflds := l11Fields_any v out (nthT ss p).1 (y.nm) tca tcc (nthT ss p).2.1 (nthT ss p).2.2.1 (.slice txa (nthT ss p).2.2.2.length txc) wN (w.heap.size + 1) hBN oFN (fun W' hW' => htr.below (bwN.trans (hW'.mono (by omega)))) (by
                  have h1 := hs.len
                  have h2 := (HR.out.2.1.cols (nm := y.nm) (by have := HP.out.2.2; omega)).2
                  have h3 : colT ss y.nm = (nthT ss p).2.1 := by show (nthT ss (fnd ss y.nm).toNat).2.1 = _; rw [HP.out.1]
                  rw [h3] at h2
                  omega)
                have HQ : Hid (OwnF wN (w.heap.size + 1) v out ∧ OwnN wN (w.heap.size + 1) nv' (ns ++ [y.nm]) ∧ w.heap.size + 1 ≤ wN.heap.size ∧ Below (w.heap.size + 1) wr wN ∧ wr.heap.size < wN.heap.size ∧ CellT wN wr.heap.size 0 y (.slice ca zs.len cc)) := ⟨oFN, oN, hBN, (hb0.1.mono (by have := hs.box.2; omega)).trans bN, Nat.lt_of_lt_of_le hb0.2.1 bN.size, XN⟩
                clear hs hb0 oF1 oN1 hB1 oN gN bN oFN hBN bwN XN ht4 htr htx HNC HLN
                obtain ⟨t0, t1, t2, t3⟩ := ht4N
                have HCT : Hid (colT ss y.nm = (nthT ss p).2.1) := by show (nthT ss (fnd ss y.nm).toNat).2.1 = _; rw [HP.out.1]
                generalize nthT ss p = td at *
                obtain ⟨tnm, tcs, tky, txs⟩ := td
                simp only at t0 t1 t2 t3 hflds
                clear HB1
                go_wp2_with (first | (at_builtin; refine Lib.wpList_append_run _ rfl _ _ _ _ rfl _ _ rfl rfl _ _ rN ?_))
                go_wp2_with fail
                refine hflds.mono ?_
                rintro e w5 ⟨v', rfl, oF5, gF5⟩
                have hs := HS.out
                have hq := HQ.out
                have oN5 : OwnN w5 (w.heap.size + 1) nv' (ns ++ [y.nm]) := hq.2.1.keep fun g q e => gF5.kept.block g q fun e' => own_apart hq.1 hq.2.1 e' e
                have b5 : Below (w.heap.size + 1) wr w5 := hq.2.2.2.1.trans (gF5.below hq.1 hq.2.2.1)
                have X5 : CellT w5 wr.heap.size 0 y (.slice ca zs.len cc) := hq.2.2.2.2.2.same (gF5.kept.block _ hq.2.2.2.2.1 fun e => by have := (hs.own.lt e).2; omega)
                have bw5 : Below w.heap.size w w5 := hs.bel.trans (b5.mono (by omega))
                have hsz := l10Size_all _ y zs ca cc w5 (Nat.le_refl _) (by have := HDU.out; omega) (HDU.out.2.2.2.below bw5)
                have HQ5 : Hid (OwnF w5 (w.heap.size + 1) v' (out ++ colsF (y.nm) tcs) ∧ OwnN w5 (w.heap.size + 1) nv' (ns ++ [y.nm]) ∧ Below (w.heap.size + 1) wr w5 ∧ w.heap.size + 1 ≤ wr.heap.size) := ⟨oF5, oN5, b5, by have := hs.box.2; omega⟩
                obtain ⟨u0, u1, u2, u3, u4, u5, u6, u7⟩ := X5
                rw [h6] at u0
                have hx : ValT y (.slice ca zs.len cc) = .agg #[.int .i64 6, .int .i64 y.n, .string y.nm, .string y.of, .int .i64 y.vk, .int .i64 y.vn, .string y.vt, .slice ca zs.len cc] := by
                  show Value.agg #[.int .i64 y.k, .int .i64 y.n, .string y.nm, .string y.of, .int .i64 y.vk, .int .i64 y.vn, .string y.vt, .slice ca zs.len cc] = _
                  rw [h6]
                rw [hx] at hsz
                obtain ⟨zz, hzz⟩ : ∃ zz, zs.size = zz := ⟨_, rfl⟩
                have HZZ : Hid (zs.size = zz) := hzz
                rw [hzz] at hsz
                have hbd : (up : Int) + zz + 2 ≤ 121 := by have := HDU.out; have := HUP.out; omega
                clear hs hq oN5 oF5 gF5 b5 bw5 hx hzz hflds HQ t0 t1 t2 t3 rN
                go_wp2_with fail
                refine hsz.mono ?_
                rintro e w6 ⟨rfl, b6⟩
                have HF : Hid (SpI w ss x ks (.slice (some ⟨b, off, none⟩) len kc) (k + 1) v' (out ++ colsF (y.nm) tcs) nv' (ns ++ [y.nm]) w6) := by
                  have hs := HS.out
                  have hq := HQ5.out
                  have hb : Below (w.heap.size + 1) wr w6 := below_step hq.2.2.1 (by have := hq.2.2.1.size; omega) b6
                  have hcl : tcs.length ≤ 8 := by
                    have h2 := (HR.out.2.1.cols (nm := y.nm) (by have := HP.out.2.2; omega)).2
                    rw [HCT.out] at h2
                    exact h2
                  refine ⟨hq.1.below b6, hq.2.1.keep fun g q _ => b6.block g q, hs.bel.trans (hb.mono (by omega)), ⟨hs.box.1.same (hb.block _ (by omega)), Nat.lt_of_lt_of_le hs.box.2 hb.size⟩, ?_, by rw [List.length_append, colsF_len]; have := hs.len; omega, by rw [List.length_append]; have := hs.lns; simp; omega⟩
                  rw [← hs.eq, HDU.out.1, HDU.out.2.1]
                  conv => rhs; unfold scp
                  rw [if_pos h6, if_neg (show ¬ fnd ss y.nm < 0 by have := HP.out.2.2; omega), if_neg HANY.out, HT.out, HCT.out]
                  congr 1
                  push_cast
                  omega
                clear HS HQ5 hsz b6 u0 u1 u2 u3 u4 u5 u6 u7
                go_wp2
                go_roundw
                case rel => exact ⟨k + 1, _, _, _, _, by omega, by go_num, rfl, rfl, by rw [HDU.out.2.1, HUP.out, HZZ.out]; go_num, HF⟩
                case measure => simp [intOf]; omega
        | false =>
          have HT : Hid (tabNm y = y.of) := by show _ = _; unfold tabNm; rw [hof]; rfl
          obtain ⟨W1, hW1⟩ : ∃ W1, wr.alloc (.cells #[.int .i64 6, .int .i64 y.n, .string y.nm, .string y.of, .int .i64 y.vk, .int .i64 y.vn, .string y.vt, .slice ca zs.len cc] 38) = W1 := ⟨_, rfl⟩
          have b1 : Below wr.heap.size wr W1 := hW1 ▸ (Below.refl _ _).alloc (Nat.le_refl _) _
          have X1 : CellT W1 wr.heap.size 0 y (.slice ca zs.len cc) := by
            have := cellT_new (w := wr) y (.slice ca zs.len cc) 38
            rw [h6] at this
            rw [← hW1]
            exact this
          have HB1 : Hid (Below wr.heap.size wr W1 ∧ wr.heap.size < W1.heap.size ∧ CellT W1 wr.heap.size 0 y (.slice ca zs.len cc) ∧ Below w.heap.size w W1) := ⟨b1, by rw [← hW1]; simp, X1, below_step HS.out.bel (Nat.le_refl _) b1⟩
          have hfi := l09Find_any a cap n ss y.nm W1 (HR.out.1.below HB1.out.2.2.2) HN.out.symm (by omega)
          obtain ⟨na, nc, hnv, hnc⟩ := HS.out.nam.cells
          have hnc1 : ∀ i (hi : i < ns.length), ∃ b, na = some ⟨b, 0, none⟩ ∧ W1.cell? ⟨b, i, none⟩ = some (.string ns[i]) := fun i hi => by
            obtain ⟨b, e, h⟩ := hnc i hi
            exact ⟨b, e, (b1.cell (p := ⟨b, i, none⟩) (World.block_lt_of_cell? wr ⟨b, i, none⟩ h)).trans h⟩
          have HNC : Hid (∀ i (hi : i < ns.length), ∃ b, na = some ⟨b, 0, none⟩ ∧ W1.cell? ⟨b, i, none⟩ = some (.string ns[i])) := hnc1
          obtain ⟨z0, _, z2, z3, _, _, _, _⟩ := X1
          rw [h6] at z0
          obtain ⟨l, hl⟩ : ∃ l, ns.length = l := ⟨_, rfl⟩
          have HLN : Hid (ns.length = l) := hl
          have hl119 : l ≤ 119 := by have := HS.out.lns; omega
          rw [hl] at hnv
          subst hnv
          obtain ⟨up, hup⟩ : ∃ up, ks.upTo k = up := ⟨_, rfl⟩
          have HUP : Hid (ks.upTo k = up) := hup
          rw [hup]
          have hub : (up : Int) ≤ 119 := by have := ks.upTo_le k; have := HR.out.2.2.2; omega
          clear b1 hnc hnc1 hl hup
          go_wp2_with fail
          refine hfi.mono ?_
          rintro e w2 ⟨rfl, hw2⟩
          obtain rfl := hw2.symm
          clear hfi hW1 y7
          by_cases hf : fnd ss y.nm < 0
          · have hfn : findN (nmT ss) y.nm n < 0 := by have : fnd ss y.nm = findN (nmT ss) y.nm n := by show findN (nmT ss) y.nm ss.length = _; rw [HN.out]
                                                       omega
            have HE2 : Hid (scp ss ks [] [] 1 = ([], 11, (up : Int) + 1)) := by
              show _ = _
              rw [← HS.out.eq, HDU.out.1, HUP.out]
              unfold scp
              rw [if_pos h6, if_pos hf]
            have HO : Hid (OwnF (W1.alloc (.cells #[] 70)) w.heap.size (.slice (some ⟨W1.heap.size, 0, none⟩) 0 0) [] ∧ Below w.heap.size w (W1.alloc (.cells #[] 70))) := ⟨OwnF.empty HB1.out.2.2.2.size, HB1.out.2.2.2.alloc HB1.out.2.2.2.size _⟩
            clear HS
            generalize findN (nmT ss) y.nm n = fi at *
            go_wp2
            go_ret3
            rw [HE2.out]
            exact ⟨_, rfl, HO.out.1, HO.out.2⟩
          · have hF : 0 ≤ fnd ss y.nm := by omega
            have hplt := fnd_lt hF
            obtain ⟨p, hp⟩ : ∃ p, (fnd ss y.nm).toNat = p := ⟨_, rfl⟩
            have hfn : findN (nmT ss) y.nm n = (p : Int) := by
              have : fnd ss y.nm = findN (nmT ss) y.nm n := by show findN (nmT ss) y.nm ss.length = _; rw [HN.out]
              omega
            rw [hfn]
            have HP : Hid ((fnd ss y.nm).toNat = p ∧ p < ss.length ∧ ¬ fnd ss y.nm < 0) := ⟨hp, by omega, hf⟩
            have hpn : p < n := by have := HN.out; omega
            clear hF hplt hp hfn
            go_wp2
            go_loop [15] (fun j => ∃ i : Nat, i ≤ l ∧ j = .int .i64 i ∧ Hid (∀ q (hq : q < ns.length), q < i → (ns[q].toList == (y.of).toList) = false)) (fun j => l - (intOf j).toNat)
            case atStart => exact ⟨0, by omega, rfl, fun q _ h => by omega⟩
            case round =>
              obtain ⟨i, hi, rfl, HA⟩ := hrel
              by_cases hil : i < l
              · have hin : i < ns.length := by rw [HLN.out]; exact hil
                obtain ⟨nb, rfl, hcell⟩ := HNC.out i hin
                obtain ⟨si, hsi⟩ : ∃ si, ns[i] = si := ⟨_, rfl⟩
                have HSI : Hid (ns[i] = si) := hsi
                rw [hsi] at hcell
                have hiI : (i : Int) < (l : Int) := by omega
                clear hsi
                cases hq : (si.toList == (y.of).toList) with
                | true =>
                  have HE2 : Hid (scp ss ks [] [] 1 = ([], 9, (up : Int) + 1)) := by
                    have hany : (ns.any fun n => n.toList == (tabNm y).toList) = true := by
                      rw [List.any_eq_true]
                      refine ⟨si, by rw [← HSI.out]; exact List.getElem_mem hin, ?_⟩
                      rw [HT.out]
                      exact hq
                    show _ = _
                    rw [← HS.out.eq, HDU.out.1, HUP.out]
                    unfold scp
                    rw [if_pos h6, if_neg (show ¬ fnd ss y.nm < 0 by have := HP.out.2.2; omega), if_pos hany]
                  have HO : Hid (OwnF (W1.alloc (.cells #[] 70)) w.heap.size (.slice (some ⟨W1.heap.size, 0, none⟩) 0 0) [] ∧ Below w.heap.size w (W1.alloc (.cells #[] 70))) := ⟨OwnF.empty HB1.out.2.2.2.size, HB1.out.2.2.2.alloc HB1.out.2.2.2.size _⟩
                  clear HS HA HSI
                  go_wp2
                  go_ret3
                  rw [HE2.out]
                  exact ⟨_, rfl, HO.out.1, HO.out.2⟩
                | false =>
                  have HA2 : Hid (∀ q (hq : q < ns.length), q < i + 1 → (ns[q].toList == (y.of).toList) = false) := fun q hqn hqi => by
                    by_cases e : q = i
                    · subst e
                      rw [HSI.out]
                      exact hq
                    · exact HA.out q hqn (by omega)
                  clear HA HSI
                  go_wp2
                  exact ⟨⟨i + 1, by omega, by go_num, HA2⟩, by simp [intOf]; omega⟩
              · obtain rfl : i = l := by omega
                have HANY : Hid (¬ (ns.any fun n => n.toList == (tabNm y).toList) = true) := by
                  show ¬ _
                  rw [List.any_eq_true]
                  rintro ⟨q, hq, he⟩
                  obtain ⟨j, hj, rfl⟩ := List.getElem_of_mem hq
                  rw [HT.out] at he
                  have := HA.out j hj (by rw [← HLN.out]; exact hj)
                  rw [this] at he
                  cases he
                clear HA
                have hs := HS.out
                have hb0 := HB1.out
                have oF1 : OwnF W1 (w.heap.size + 1) v out := hs.own.below hb0.1
                have oN1 : OwnN W1 (w.heap.size + 1) (.slice na i nc) ns := hs.nam.keep fun g q _ => hb0.1.block g q
                have hB1 : w.heap.size + 1 ≤ W1.heap.size := by have := hs.box.2; omega
                obtain ⟨nv', wN, rN, oN, gN⟩ := push_N (.slice na i nc) ns (y.of) W1 (w.heap.size + 1) oN1 (by have := hs.lns; omega) hB1
                have bN : Below (w.heap.size + 1) W1 wN := gN.kept.below hB1 fun q e => (oN1.lt e).1
                have oFN : OwnF wN (w.heap.size + 1) v out := oF1.keep fun g q e => gN.kept.block g q fun e' => own_apart oF1 oN1 e e'
                have hBN : w.heap.size + 1 ≤ wN.heap.size := Nat.le_trans hB1 bN.size
                have bwN : Below w.heap.size w wN := hb0.2.2.2.trans (bN.mono (by omega))
                have XN : CellT wN wr.heap.size 0 y (.slice ca zs.len cc) := hb0.2.2.1.same (gN.kept.block _ hb0.2.1 fun e => by have := (hs.nam.lt e).2; omega)
                obtain ⟨tb, toff, tca, tcc, txa, txc, rfl, htl, ht4, htr, htx, _⟩ := HR.out.1 p HP.out.2.1
                have ht4N := ht4.below htl bwN
                have hflds := l11Fields_any v out (nthT ss p).1 (y.of) tca tcc (nthT ss p).2.1 (nthT ss p).2.2.1 (.slice txa (nthT ss p).2.2.2.length txc) wN (w.heap.size + 1) hBN oFN (fun W' hW' => htr.below (bwN.trans (hW'.mono (by omega)))) (by
                  have h1 := hs.len
                  have h2 := (HR.out.2.1.cols (nm := y.nm) (by have := HP.out.2.2; omega)).2
                  have h3 : colT ss y.nm = (nthT ss p).2.1 := by show (nthT ss (fnd ss y.nm).toNat).2.1 = _; rw [HP.out.1]
                  rw [h3] at h2
                  omega)
                have HQ : Hid (OwnF wN (w.heap.size + 1) v out ∧ OwnN wN (w.heap.size + 1) nv' (ns ++ [y.of]) ∧ w.heap.size + 1 ≤ wN.heap.size ∧ Below (w.heap.size + 1) wr wN ∧ wr.heap.size < wN.heap.size ∧ CellT wN wr.heap.size 0 y (.slice ca zs.len cc)) := ⟨oFN, oN, hBN, (hb0.1.mono (by have := hs.box.2; omega)).trans bN, Nat.lt_of_lt_of_le hb0.2.1 bN.size, XN⟩
                clear hs hb0 oF1 oN1 hB1 oN gN bN oFN hBN bwN XN ht4 htr htx HNC HLN
                obtain ⟨t0, t1, t2, t3⟩ := ht4N
                have HCT : Hid (colT ss y.nm = (nthT ss p).2.1) := by show (nthT ss (fnd ss y.nm).toNat).2.1 = _; rw [HP.out.1]
                generalize nthT ss p = td at *
                obtain ⟨tnm, tcs, tky, txs⟩ := td
                simp only at t0 t1 t2 t3 hflds
                clear HB1
                go_wp2_with (first | (at_builtin; refine Lib.wpList_append_run _ rfl _ _ _ _ rfl _ _ rfl rfl _ _ rN ?_))
                go_wp2_with fail
                refine hflds.mono ?_
                rintro e w5 ⟨v', rfl, oF5, gF5⟩
                have hs := HS.out
                have hq := HQ.out
                have oN5 : OwnN w5 (w.heap.size + 1) nv' (ns ++ [y.of]) := hq.2.1.keep fun g q e => gF5.kept.block g q fun e' => own_apart hq.1 hq.2.1 e' e
                have b5 : Below (w.heap.size + 1) wr w5 := hq.2.2.2.1.trans (gF5.below hq.1 hq.2.2.1)
                have X5 : CellT w5 wr.heap.size 0 y (.slice ca zs.len cc) := hq.2.2.2.2.2.same (gF5.kept.block _ hq.2.2.2.2.1 fun e => by have := (hs.own.lt e).2; omega)
                have bw5 : Below w.heap.size w w5 := hs.bel.trans (b5.mono (by omega))
                have hsz := l10Size_all _ y zs ca cc w5 (Nat.le_refl _) (by have := HDU.out; omega) (HDU.out.2.2.2.below bw5)
                have HQ5 : Hid (OwnF w5 (w.heap.size + 1) v' (out ++ colsF (y.of) tcs) ∧ OwnN w5 (w.heap.size + 1) nv' (ns ++ [y.of]) ∧ Below (w.heap.size + 1) wr w5 ∧ w.heap.size + 1 ≤ wr.heap.size) := ⟨oF5, oN5, b5, by have := hs.box.2; omega⟩
                obtain ⟨u0, u1, u2, u3, u4, u5, u6, u7⟩ := X5
                rw [h6] at u0
                have hx : ValT y (.slice ca zs.len cc) = .agg #[.int .i64 6, .int .i64 y.n, .string y.nm, .string y.of, .int .i64 y.vk, .int .i64 y.vn, .string y.vt, .slice ca zs.len cc] := by
                  show Value.agg #[.int .i64 y.k, .int .i64 y.n, .string y.nm, .string y.of, .int .i64 y.vk, .int .i64 y.vn, .string y.vt, .slice ca zs.len cc] = _
                  rw [h6]
                rw [hx] at hsz
                obtain ⟨zz, hzz⟩ : ∃ zz, zs.size = zz := ⟨_, rfl⟩
                have HZZ : Hid (zs.size = zz) := hzz
                rw [hzz] at hsz
                have hbd : (up : Int) + zz + 2 ≤ 121 := by have := HDU.out; have := HUP.out; omega
                clear hs hq oN5 oF5 gF5 b5 bw5 hx hzz hflds HQ t0 t1 t2 t3 rN
                go_wp2_with fail
                refine hsz.mono ?_
                rintro e w6 ⟨rfl, b6⟩
                have HF : Hid (SpI w ss x ks (.slice (some ⟨b, off, none⟩) len kc) (k + 1) v' (out ++ colsF (y.of) tcs) nv' (ns ++ [y.of]) w6) := by
                  have hs := HS.out
                  have hq := HQ5.out
                  have hb : Below (w.heap.size + 1) wr w6 := below_step hq.2.2.1 (by have := hq.2.2.1.size; omega) b6
                  have hcl : tcs.length ≤ 8 := by
                    have h2 := (HR.out.2.1.cols (nm := y.nm) (by have := HP.out.2.2; omega)).2
                    rw [HCT.out] at h2
                    exact h2
                  refine ⟨hq.1.below b6, hq.2.1.keep fun g q _ => b6.block g q, hs.bel.trans (hb.mono (by omega)), ⟨hs.box.1.same (hb.block _ (by omega)), Nat.lt_of_lt_of_le hs.box.2 hb.size⟩, ?_, by rw [List.length_append, colsF_len]; have := hs.len; omega, by rw [List.length_append]; have := hs.lns; simp; omega⟩
                  rw [← hs.eq, HDU.out.1, HDU.out.2.1]
                  conv => rhs; unfold scp
                  rw [if_pos h6, if_neg (show ¬ fnd ss y.nm < 0 by have := HP.out.2.2; omega), if_neg HANY.out, HT.out, HCT.out]
                  congr 1
                  push_cast
                  omega
                clear HS HQ5 hsz b6 u0 u1 u2 u3 u4 u5 u6 u7
                go_wp2
                go_roundw
                case rel => exact ⟨k + 1, _, _, _, _, by omega, by go_num, rfl, rfl, by rw [HDU.out.2.1, HUP.out, HZZ.out]; go_num, HF⟩
                case measure => simp [intOf]; omega
      · obtain ⟨W1, hW1⟩ : ∃ W1, wr.alloc (.cells #[.int .i64 y.k, .int .i64 y.n, .string y.nm, .string y.of, .int .i64 y.vk, .int .i64 y.vn, .string y.vt, .slice ca zs.len cc] 38) = W1 := ⟨_, rfl⟩
        have b1 : Below wr.heap.size wr W1 := hW1 ▸ (Below.refl _ _).alloc (Nat.le_refl _) _
        have X1 : CellT W1 wr.heap.size 0 y (.slice ca zs.len cc) := hW1 ▸ cellT_new y _ 38
        have hsz := l10Size_all _ y zs ca cc W1 (Nat.le_refl _) (by have := HDU.out; omega) (HDU.out.2.2.2.below (below_step HS.out.bel (Nat.le_refl _) b1))
        have HB1 : Hid (Below wr.heap.size wr W1) := b1
        obtain ⟨z0, z1, z2, z3, z4, z5, z6, z7⟩ := X1
        obtain ⟨up, hup⟩ : ∃ up, ks.upTo k = up := ⟨_, rfl⟩
        have HUP : Hid (ks.upTo k = up) := hup
        rw [hup]
        obtain ⟨zz, hzz⟩ : ∃ zz, zs.size = zz := ⟨_, rfl⟩
        have HZZ : Hid (zs.size = zz) := hzz
        rw [hzz] at hsz
        have hbd : (up : Int) + zz + 2 ≤ 121 := by have := HDU.out; rw [hup, hzz] at this; omega
        clear b1 hup hzz
        go_wp2_with fail
        refine hsz.mono ?_
        rintro e w2 ⟨rfl, b2⟩
        have HF : Hid (SpI w ss x ks (.slice (some ⟨b, off, none⟩) len kc) (k + 1) v out nv ns w2) := by
          have hs := HS.out
          have hb : Below wr.heap.size wr w2 := below_step HB1.out (Nat.le_refl _) b2
          refine ⟨hs.own.below hb, hs.nam.keep fun g q _ => hb.block g q, below_step hs.bel (Nat.le_refl _) hb, hs.box.below hb, ?_, by have := hs.len; omega, by have := hs.lns; omega⟩
          rw [← hs.eq, HDU.out.1, HDU.out.2.1]
          conv => rhs; unfold scp
          rw [if_neg h6]
          congr 1
          push_cast
          omega
        clear HS HB1 hsz b2 hW1 z0 z1 z2 z3 z4 z5 z6 z7
        go_wp2
        go_roundw
        case rel => exact ⟨k + 1, _, _, _, _, by omega, by go_num, rfl, rfl, by rw [HDU.out.2.1, HUP.out, HZZ.out]; go_num, HF⟩
        case measure => simp [intOf]; omega
    · obtain rfl : k = len := by omega
      have he := HS.out.eq
      rw [show ks.drop k = .nil by rw [← HL.out]; exact Fo.drop_len ks] at he
      have HO : Hid (OwnF wr w.heap.size v out ∧ Below w.heap.size w wr) := ⟨HS.out.own.mono (by omega), HS.out.bel⟩
      have HE2 : Hid (scp ss ks [] [] 1 = (out, 0, 0)) := he.symm
      clear HS he
      go_wp2
      go_ret3
      rw [HE2.out]
      exact ⟨_, rfl, HO.out.1, HO.out.2⟩
end Go.Proofs.YteejkmcljokloaaGreatDoor
namespace Go.Proofs.YteejkmcljokloaaGreatDoor
open Go.RowKit

set_option maxRecDepth 100000 in
set_option maxHeartbeats 8000000 in
theorem l11Table_any (a : Option Addr) (cap : Nat) (ss : List TT) (x : ND) (len : Nat) (ka : Option Addr) (kc : Nat) (w : World) (h : RowTb w a ss) (hc : CatP ss) (hk1 : ¬ x.k = 1) :
    Calls Tryz.prog 22 #[.slice a ss.length cap, ValT x (.slice ka len kc)] w fun e w' => ScA (if fnd ss x.nm < 0 then ([], 11, 0) else (colsF x.nm (colT ss x.nm), 0, 0)) w e w' := by
  have HR : Hid (RowTb w a ss ∧ CatP ss) := ⟨h, hc⟩
  obtain ⟨r, hr⟩ : ∃ r : List TF × Int × Int, (if fnd ss x.nm < 0 then ([], 11, 0) else (colsF x.nm (colT ss x.nm), 0, 0)) = r := ⟨_, rfl⟩
  have HRR : Hid ((if fnd ss x.nm < 0 then ([], 11, 0) else (colsF x.nm (colT ss x.nm), 0, 0)) = r) := hr
  rw [hr]
  clear hr
  obtain ⟨n, hn⟩ : ∃ n, ss.length = n := ⟨_, rfl⟩
  have HN : Hid (ss.length = n) := hn
  rw [hn]
  have hn6 : n ≤ 6 := by have := hc.1; omega
  obtain ⟨W0, hW0⟩ : ∃ W0, ((w.alloc (.cells #[.int .i64 x.k, .int .i64 x.n, .string x.nm, .string x.of, .int .i64 x.vk, .int .i64 x.vn, .string x.vt, .slice ka len kc] 38)).alloc (.cells #[] 70)).alloc (.cells #[] 9) = W0 := ⟨_, rfl⟩
  have b1 : Below w.heap.size w (w.alloc (.cells #[.int .i64 x.k, .int .i64 x.n, .string x.nm, .string x.of, .int .i64 x.vk, .int .i64 x.vn, .string x.vt, .slice ka len kc] 38)) := (Below.refl _ _).alloc (Nat.le_refl _) _
  have bx : BoxN w.heap.size x (.slice ka len kc) (w.alloc (.cells #[.int .i64 x.k, .int .i64 x.n, .string x.nm, .string x.of, .int .i64 x.vk, .int .i64 x.vn, .string x.vt, .slice ka len kc] 38)) := BoxN.new 38
  have s1 : (w.alloc (.cells #[.int .i64 x.k, .int .i64 x.n, .string x.nm, .string x.of, .int .i64 x.vk, .int .i64 x.vn, .string x.vt, .slice ka len kc] 38)).heap.size = w.heap.size + 1 := by simp
  have b2 : Below (w.alloc (.cells #[.int .i64 x.k, .int .i64 x.n, .string x.nm, .string x.of, .int .i64 x.vk, .int .i64 x.vn, .string x.vt, .slice ka len kc] 38)).heap.size (w.alloc (.cells #[.int .i64 x.k, .int .i64 x.n, .string x.nm, .string x.of, .int .i64 x.vk, .int .i64 x.vn, .string x.vt, .slice ka len kc] 38)) ((w.alloc (.cells #[.int .i64 x.k, .int .i64 x.n, .string x.nm, .string x.of, .int .i64 x.vk, .int .i64 x.vn, .string x.vt, .slice ka len kc] 38)).alloc (.cells #[] 70)) := (Below.refl _ _).alloc (Nat.le_refl _) _
  have o2 : OwnF ((w.alloc (.cells #[.int .i64 x.k, .int .i64 x.n, .string x.nm, .string x.of, .int .i64 x.vk, .int .i64 x.vn, .string x.vt, .slice ka len kc] 38)).alloc (.cells #[] 70)) (w.heap.size + 1) (.slice (some ⟨w.heap.size + 1, 0, none⟩) 0 0) [] := by
    have := OwnF.empty (w := w.alloc (.cells #[.int .i64 x.k, .int .i64 x.n, .string x.nm, .string x.of, .int .i64 x.vk, .int .i64 x.vn, .string x.vt, .slice ka len kc] 38)) (B := w.heap.size + 1) (by simp)
    rw [s1] at this
    exact this
  have b3 : Below ((w.alloc (.cells #[.int .i64 x.k, .int .i64 x.n, .string x.nm, .string x.of, .int .i64 x.vk, .int .i64 x.vn, .string x.vt, .slice ka len kc] 38)).alloc (.cells #[] 70)).heap.size ((w.alloc (.cells #[.int .i64 x.k, .int .i64 x.n, .string x.nm, .string x.of, .int .i64 x.vk, .int .i64 x.vn, .string x.vt, .slice ka len kc] 38)).alloc (.cells #[] 70)) W0 := hW0 ▸ (Below.refl _ _).alloc (Nat.le_refl _) _
  have HX : Hid (OwnF W0 (w.heap.size + 1) (.slice (some ⟨w.heap.size + 1, 0, none⟩) 0 0) [] ∧ Below w.heap.size w W0 ∧ BoxN w.heap.size x (.slice ka len kc) W0 ∧ w.heap.size + 1 ≤ W0.heap.size) := ⟨o2.below b3, (b1.trans (b2.mono (by simp))).trans (b3.mono (by simp; omega)), (bx.below b2).below b3, by rw [← hW0]; simp⟩
  have hfi := l09Find_any a cap n ss x.nm W0 (HR.out.1.below HX.out.2.1) HN.out.symm (by omega)
  obtain ⟨⟨y0, y1, y2, y3, y4, y5, y6, y7⟩, ybl⟩ := HX.out.2.2.1
  have HH : Hid (¬ x.k = 1) := hk1
  clear h hc hn b1 bx s1 b2 o2 b3
  go_enter Tryz.func22, Tryz.ntmps22
  go_wp2_with fail
  refine hfi.mono ?_
  rintro e w2 ⟨rfl, hw2⟩
  obtain rfl := hw2.symm
  clear hfi hW0
  by_cases hf : fnd ss x.nm < 0
  · have hfn : findN (nmT ss) x.nm n < 0 := by
      have : fnd ss x.nm = findN (nmT ss) x.nm n := by show findN (nmT ss) x.nm ss.length = _; rw [HN.out]
      omega
    have HO : Hid (OwnF (W0.alloc (.cells #[] 70)) w.heap.size (.slice (some ⟨W0.heap.size, 0, none⟩) 0 0) [] ∧ Below w.heap.size w (W0.alloc (.cells #[] 70))) := ⟨OwnF.empty (by have := HX.out.2.2.2; omega), HX.out.2.1.alloc (by have := HX.out.2.2.2; omega) _⟩
    have HE : Hid (r = ([], 11, 0)) := by show _ = _; rw [← HRR.out, if_pos hf]
    clear HX hf
    generalize findN (nmT ss) x.nm n = fi at *
    go_wp2
    go_ret3
    rw [HE.out]
    exact ⟨_, rfl, HO.out.1, HO.out.2⟩
  · have HE : Hid (r = (colsF x.nm (colT ss x.nm), 0, 0)) := by show _ = _; rw [← HRR.out, if_neg hf]
    have hF : 0 ≤ fnd ss x.nm := by omega
    have hplt := fnd_lt hF
    obtain ⟨p, hp⟩ : ∃ p, (fnd ss x.nm).toNat = p := ⟨_, rfl⟩
    have hfn : findN (nmT ss) x.nm n = (p : Int) := by
      have : fnd ss x.nm = findN (nmT ss) x.nm n := by show findN (nmT ss) x.nm ss.length = _; rw [HN.out]
      omega
    rw [hfn]
    have hps : p < ss.length := by omega
    have hpn : p < n := by rw [← HN.out]; exact hps
    have hpI : (p : Int) < (n : Int) := by omega
    have hct : colT ss x.nm = (nthT ss p).2.1 := by show (nthT ss (fnd ss x.nm).toNat).2.1 = _; rw [hp]
    have hcl := (HR.out.2.cols hF).2
    rw [hct] at hcl HE
    obtain ⟨tb, toff, tca, tcc, txa, txc, rfl, htl, ht4, htr, htx, _⟩ := HR.out.1 p hps
    obtain ⟨t0, t1, t2, t3⟩ := ht4.below htl HX.out.2.1
    have htl := Nat.lt_of_lt_of_le htl HX.out.2.1.size
    have HFL : Hid (∀ W, Below W0.heap.size W0 W → Calls Tryz.prog 46 #[.slice (some ⟨w.heap.size + 1, 0, none⟩) 0 0, TbV (nthT ss p).1 (.slice tca (nthT ss p).2.1.length tcc) (nthT ss p).2.2.1 (.slice txa (nthT ss p).2.2.2.length txc), .string x.nm] W fun e w' => ∃ v', e = .returned v' ∧ OwnF w' w.heap.size v' (colsF x.nm (nthT ss p).2.1) ∧ Below w.heap.size w w') := fun W hW => by
      have hx := HX.out
      have o1 := hx.1.below hW
      have hs : w.heap.size + 1 ≤ W.heap.size := Nat.le_trans hx.2.2.2 hW.size
      have bw : Below w.heap.size w W := hx.2.1.trans (hW.mono (by omega))
      refine (l11Fields_any _ [] (nthT ss p).1 x.nm tca tcc (nthT ss p).2.1 (nthT ss p).2.2.1 _ W (w.heap.size + 1) hs o1 (fun W' hW' => htr.below (bw.trans (hW'.mono (by omega)))) (by simp; omega)).mono ?_
      rintro e w' ⟨v', rfl, q1, q2⟩
      exact ⟨v', rfl, q1.mono (by omega), bw.trans ((q2.below o1 hs).mono (by omega))⟩
    clear hfn hf hF hplt hp hct hcl HX htr htx ht4 hps
    generalize nthT ss p = td at *
    obtain ⟨tnm, tcs, tky, txs⟩ := td
    simp only at t0 t1 t2 t3 HFL
    go_wp2_with fail
    go_region_law (first
      | (go_simp; refine (HFL.out _ (by first | exact Below.refl _ _ | exact (Below.refl _ _).drew)).mono ?_; rintro e wA ⟨v', rfl, q1, q2⟩)
      | fail)
    all_goals
      go_wp2
      go_ret3
      rw [HE.out]
      exact ⟨v', rfl, q1, q2⟩
end Go.Proofs.YteejkmcljokloaaGreatDoor
namespace Go.Proofs.YteejkmcljokloaaGreatDoor
open Go.RowKit

theorem OwnF.fresh {w w1 : World} (h : Below w.heap.size w w1) : OwnF (w1.alloc (.cells #[] 70)) w.heap.size (.slice (some ⟨w1.heap.size, 0, none⟩) 0 0) [] ∧ Below w.heap.size w (w1.alloc (.cells #[] 70)) := ⟨OwnF.empty h.size, h.alloc h.size _⟩
set_option maxRecDepth 100000 in
set_option maxHeartbeats 8000000 in
theorem specScope_any (a : Option Addr) (cap : Nat) (ss : List TT) (x : ND) (ks : Fo) (ka : Option Addr) (kc : Nat) (w : World) (h : RowTb w a ss) (hl : ss.length ≤ 1048576) (hz : ∀ i, i < ss.length → SmallT (nthT ss i)) (hsz : ks.size ≤ 1048576) (hrow : RowT 0 w ka 0 ks) (ht : TextsN maxLen x) :
    Calls Tryz.prog 6 #[.slice a ss.length cap, ValT x (.slice ka ks.len kc)] w fun e w' => ScA (scR ss x ks) w e w' := by
  have HR : Hid (RowTb w a ss ∧ RowT 0 w ka 0 ks ∧ ks.size ≤ 1048576 ∧ TextsN maxLen x) := ⟨h, hrow, hsz, ht⟩
  obtain ⟨r, hr⟩ : ∃ r, scR ss x ks = r := ⟨_, rfl⟩
  have HRR : Hid (scR ss x ks = r) := hr
  rw [hr]
  obtain ⟨len, hL⟩ : ∃ m, ks.len = m := ⟨_, rfl⟩
  have HL : Hid (ks.len = len) := hL
  rw [hL]
  obtain ⟨n, hn⟩ : ∃ n, ss.length = n := ⟨_, rfl⟩
  have HN : Hid (ss.length = n) := hn
  rw [hn] at hl ⊢
  obtain ⟨W0, hW0⟩ : ∃ W0, w.alloc (.cells #[.int .i64 x.k, .int .i64 x.n, .string x.nm, .string x.of, .int .i64 x.vk, .int .i64 x.vn, .string x.vt, .slice ka len kc] 38) = W0 := ⟨_, rfl⟩
  have B0 : Below w.heap.size w W0 := hW0 ▸ (Below.refl _ _).alloc (Nat.le_refl _) _
  have HB0 : Hid (Below w.heap.size w W0 ∧ BoxN w.heap.size x (.slice ka len kc) W0) := ⟨B0, hW0 ▸ BoxN.new 38⟩
  have hcat := specCatalogOK_any a cap ss _ (h.below B0) (by omega) hz
  rw [hn] at hcat
  clear h hz hsz hrow ht hL hn B0 hr
  by_cases h1 : 4096 < n
  · have HS : Hid (r = ([], 2, 0)) := by show _ = _; rw [← HRR.out]; unfold scR; rw [if_pos (by rw [HN.out]; exact h1)]
    have h1I : (4096 : Int) < (n : Int) := by omega
    have HO : Hid _ := OwnF.fresh HB0.out.1
    clear hcat
    go_enter Tryz.func6, Tryz.ntmps6
    go_wp2
    go_ret3
    rw [HS.out]
    exact ⟨_, rfl, HO⟩
  have h1I : ¬ (4096 : Int) < (n : Int) := by omega
  have H1 : Hid (¬ 4096 < ss.length) := by show ¬ _; rw [HN.out]; exact h1
  go_enter Tryz.func6, Tryz.ntmps6
  go_wp2_with fail
  refine hcat.mono ?_
  rintro e w1 ⟨rfl, b1⟩
  have HB1 : Hid (Below w.heap.size w w1 ∧ BoxN w.heap.size x (.slice ka len kc) w1) := ⟨HB0.out.1.trans (b1.mono HB0.out.1.size), HB0.out.2.below b1⟩
  clear hcat b1 HB0 hW0
  cases hok : asB (CatP ss) with
  | false =>
    have HS : Hid (r = ([], 1, 0)) := by show _ = _; rw [← HRR.out]; unfold scR; rw [if_neg H1.out, if_pos (.inl hok)]
    have HO : Hid _ := OwnF.fresh HB1.out.1
    clear hok
    go_wp2
    go_ret3
    rw [HS.out]
    exact ⟨_, rfl, HO⟩
  | true =>
    have HP : Hid (CatP ss) := asB_is hok
    have hsql := specSqlOK_any x ks ka kc w1 (HR.out.2.1.below HB1.out.1) HR.out.2.2.1 HR.out.2.2.2
    rw [HL.out] at hsql
    obtain ⟨⟨y0, y1, y2, y3, y4, y5, y6, y7⟩, _⟩ := HB1.out.2
    have HOK : Hid (asB (CatP ss) = true) := hok
    clear hok
    go_wp2_with fail
    refine hsql.mono ?_
    rintro e w2 ⟨rfl, b2⟩
    have HB2 : Hid (Below w.heap.size w w2 ∧ BoxN w.heap.size x (.slice ka len kc) w2) := ⟨below_step HB1.out.1 (Nat.le_refl _) b2, HB1.out.2.below b2⟩
    clear hsql b2 HB1 y0 y1 y2 y3 y4 y5 y6 y7
    cases hsq : sqlB x ks with
    | false =>
      have HS : Hid (r = ([], 1, 0)) := by show _ = _; rw [← HRR.out]; unfold scR; rw [if_neg H1.out, if_pos (.inr hsq)]
      have HO : Hid _ := OwnF.fresh HB2.out.1
      clear hsq
      go_wp2
      go_ret3
      rw [HS.out]
      exact ⟨_, rfl, HO⟩
    | true =>
      have HSQ : Hid (sqlB x ks = true) := hsq
      have hno : Hid (¬ (asB (CatP ss) = false ∨ sqlB x ks = false)) := fun h => by
        rcases h with h | h
        · rw [HOK.out] at h; cases h
        · rw [HSQ.out] at h; cases h
      clear hsq
      obtain ⟨⟨y0, y1, y2, y3, y4, y5, y6, y7⟩, _⟩ := HB2.out.2
      have hq : Calls Tryz.prog 22 #[.slice a n cap, ValT x (.slice ka len kc)] w2 fun e w' => ScA r w2 e w' := by
        rw [← HRR.out]
        unfold scR
        rw [if_neg H1.out, if_neg hno.out]
        by_cases hk : x.k = 1
        · rw [if_pos hk]
          have hq := l11Query_any a cap ss x ks ka kc w2 (HR.out.1.below HB2.out.1) HP.out (sqlB_size HSQ.out) (HR.out.2.1.below HB2.out.1) hk
          rw [HN.out, HL.out] at hq
          exact hq
        · rw [if_neg hk]
          have hq := l11Table_any a cap ss x len ka kc w2 (HR.out.1.below HB2.out.1) HP.out hk
          rw [HN.out] at hq
          exact hq
      go_wp2_with fail
      refine hq.mono ?_
      rintro e w3 ⟨v, rfl, o3, b3⟩
      have HO : Hid (OwnF w3 w.heap.size v r.1 ∧ Below w.heap.size w w3) := ⟨o3.mono HB2.out.1.size, below_step HB2.out.1 (Nat.le_refl _) b3⟩
      clear hq o3 b3 y0 y1 y2 y3 y4 y5 y6 y7
      go_wp2
      go_ret3
      exact ⟨v, rfl, HO.out.1, HO.out.2⟩
end Go.Proofs.YteejkmcljokloaaGreatDoor
