/- Both sizes of a tree, impl's ScopeOf, lists of names (stage 16). -/
import Derived.Test.YteejkmcljokloaaGreatDoorTrD
import Derived.Test.YteejkmcljokloaaGreatDoorMcA
import Derived.Test.YteejkmcljokloaaGreatDoorSqM
namespace Go.Proofs.YteejkmcljokloaaGreatDoor
open Go.RowKit

set_option maxRecDepth 100000 in
set_option maxHeartbeats 2000000 in
theorem l10Size_all : ∀ (m : Nat) (x : ND) (ks : Fo) (ka : Option Addr) (kc : Nat) (w : World), ks.size ≤ m → ks.size ≤ 1048576 → RowT 0 w ka 0 ks →
    Calls Tryz.prog 47 #[ValT x (.slice ka ks.len kc)] w fun e w' => e = .returned (.int .i64 ((ks.size : Int) + 1)) ∧ Below w.heap.size w w' := by
  intro m
  induction m with
  | zero =>
    intro x ks ka kc w hm hsz hrow
    have hl0 : ks.len = 0 := by have := ks.len_le; omega
    have HZ : Hid (ks.size = 0) := (by omega : ks.size = 0)
    rw [hl0]
    clear hm hsz hrow hl0
    have B0 : Below w.heap.size w (w.alloc (.cells #[.int .i64 x.k, .int .i64 x.n, .string x.nm, .string x.of, .int .i64 x.vk, .int .i64 x.vn, .string x.vt, .slice ka 0 kc] 38)) := (Below.refl _ _).alloc (Nat.le_refl _) _
    go_enter Tryz.func47, Tryz.ntmps47
    go_wp2
    go_loopw [3, 4] (fun s i wr => s = .int .i64 1 ∧ i = .int .i64 0 ∧ wr = w.alloc (.cells #[.int .i64 x.k, .int .i64 x.n, .string x.nm, .string x.of, .int .i64 x.vk, .int .i64 x.vn, .string x.vt, .slice ka 0 kc] 38)) (fun _ _ _ => 0)
    case atStart => exact ⟨rfl, rfl, rfl⟩
    case round =>
      obtain ⟨rfl, rfl, rfl⟩ := hrel
      go_wp2
      go_ret
      exact ⟨ret_int' (by rw [HZ.out]; rfl), B0⟩
  | succ m ih =>
    intro x ks ka kc w hm hsz hrow
    have HR : Hid (RowT 0 w ka 0 ks) := hrow
    have IH : Hid (∀ (x : ND) (ks : Fo) (ka : Option Addr) (kc : Nat) (w : World), ks.size ≤ m → ks.size ≤ 1048576 → RowT 0 w ka 0 ks → Calls Tryz.prog 47 #[ValT x (.slice ka ks.len kc)] w fun e w' => e = .returned (.int .i64 ((ks.size : Int) + 1)) ∧ Below w.heap.size w w') := ih
    have HM : Hid (ks.size ≤ m + 1 ∧ ks.size ≤ 1048576) := ⟨hm, hsz⟩
    clear hrow ih hm
    obtain ⟨len, hL⟩ : ∃ m, ks.len = m := ⟨_, rfl⟩
    have HL : Hid (ks.len = len) := hL
    have hlen : len ≤ 1048576 := by have := ks.len_le; omega
    rw [hL]
    clear hL hsz
    have B0 : Below w.heap.size w (w.alloc (.cells #[.int .i64 x.k, .int .i64 x.n, .string x.nm, .string x.of, .int .i64 x.vk, .int .i64 x.vn, .string x.vt, .slice ka len kc] 38)) := (Below.refl _ _).alloc (Nat.le_refl _) _
    have X0 : BoxN w.heap.size x (.slice ka len kc) (w.alloc (.cells #[.int .i64 x.k, .int .i64 x.n, .string x.nm, .string x.of, .int .i64 x.vk, .int .i64 x.vn, .string x.vt, .slice ka len kc] 38)) := BoxN.new 38
    have HB : Hid (Below w.heap.size w _ ∧ BoxN w.heap.size x (.slice ka len kc) _) := ⟨B0, X0⟩
    clear B0 X0
    go_enter Tryz.func47, Tryz.ntmps47
    go_wp2
    go_loopw [3, 4] (fun s i wr => ∃ k : Nat, k ≤ len ∧ i = .int .i64 k ∧ s = .int .i64 ((ks.upTo k : Int) + 1) ∧ Hid (Below w.heap.size w wr ∧ BoxN w.heap.size x (.slice ka len kc) wr)) (fun _ i _ => len - (intOf i).toNat)
    case atStart => exact ⟨0, by omega, rfl, by rw [Fo.upTo_zero]; rfl, HB⟩
    case round =>
      obtain ⟨k, hk, rfl, rfl, HW⟩ := hrel
      clear HB
      obtain ⟨⟨_, _, _, _, _, _, _, y7⟩, _⟩ := HW.out.2
      by_cases hlt : k < len
      · have hkf : k < ks.len := by rw [HL.out]; exact hlt
        obtain ⟨b, off, ca, cc, rfl, _, hlb, ⟨c0, c1, c2, c3, c4, c5, c6, c7⟩, _, hkr⟩ := (HR.out.below HW.out.1).at k hkf
        have HU : Hid (ks.upTo (k + 1) = ks.upTo k + (ks.kids k).size + 1) := ks.upTo_succ k hkf
        have hkz : (ks.kids k).size ≤ m ∧ (ks.kids k).size ≤ 1048576 := by have := ks.kids_lt k hkf; have := HM.out; omega
        have hub : ks.upTo (k + 1) ≤ 1048576 := by have := ks.upTo_le (k + 1); have := HM.out; omega
        have HK : Hid (RowT 0 wr ca 0 (ks.kids k) ∧ (ks.kids k).size ≤ m ∧ (ks.kids k).size ≤ 1048576) := ⟨hkr, hkz⟩
        clear hkr hkf
        obtain ⟨u, hu⟩ : ∃ u, ks.upTo k = u := ⟨_, rfl⟩
        have HU1 : Hid (ks.upTo k = u) := hu
        rw [hu]
        have hub' : (u : Int) + 1 + ((ks.kids k).size + 1) ≤ 1048577 := by have := HU.out; rw [hu] at this; omega
        clear hu hub
        go_wp2_with fail
        refine (IH.out (ks.node k) (ks.kids k) ca cc wr HK.out.2.1 HK.out.2.2 HK.out.1).mono ?_
        rintro e w1 ⟨rfl, b1⟩
        have HW1 : Hid (Below w.heap.size w w1 ∧ BoxN w.heap.size x (.slice (some ⟨b, off, none⟩) len kc) w1) := ⟨below_step HW.out.1 (Nat.le_refl _) b1, HW.out.2.below b1⟩
        clear HW y7 c0 c1 c2 c3 c4 c5 c6 c7 b1 hlb
        go_wp2
        go_roundw
        case rel => exact ⟨k + 1, by omega, by go_num, by rw [HU.out, HU1.out]; go_num, HW1⟩
        case measure => simp [intOf]; omega
      · obtain rfl : k = len := by omega
        have HE : Hid (ks.upTo k = ks.size) := by show _ = _; rw [← HL.out, Fo.upTo_len]
        go_wp2
        go_ret
        exact ⟨ret_int' (by rw [HE.out]), HW.out.1⟩
end Go.Proofs.YteejkmcljokloaaGreatDoor
namespace Go.Proofs.YteejkmcljokloaaGreatDoor
open Go.RowKit

theorem scp_place (ss : List TT) : ∀ (f : Fo) (ns : List ByteArray) (out : List TF) (a : Int), ((scp ss f ns out a).2.1 = 0 ∧ (scp ss f ns out a).2.2 = 0) ∨ ((scp ss f ns out a).2.1 ≠ 0 ∧ (scp ss f ns out a).1 = [] ∧ a ≤ (scp ss f ns out a).2.2 ∧ (scp ss f ns out a).2.2 ≤ a + f.size)
  | .nil, _, _, _ => .inl ⟨rfl, rfl⟩
  | .cons x ks r, ns, out, a => by
    unfold scp
    by_cases h6 : x.k = 6
    · rw [if_pos h6]
      by_cases hf : fnd ss x.nm < 0
      · rw [if_pos hf]; exact .inr ⟨by show (11 : Int) ≠ 0; decide, rfl, Int.le_refl _, by simp only [Fo.size]; omega⟩
      · rw [if_neg hf]
        by_cases hn : (ns.any fun n => n.toList == (tabNm x).toList) = true
        · rw [if_pos hn]; exact .inr ⟨by show (9 : Int) ≠ 0; decide, rfl, Int.le_refl _, by simp only [Fo.size]; omega⟩
        · rw [if_neg hn]
          rcases scp_place ss r (ns ++ [tabNm x]) (out ++ colsF (tabNm x) (colT ss x.nm)) (a + ((ks.size : Int) + 1)) with h | ⟨h1, h4, h2, h3⟩
          · exact .inl h
          · exact .inr ⟨h1, h4, by omega, by simp only [Fo.size]; push_cast; omega⟩
    · rw [if_neg h6]
      rcases scp_place ss r ns out (a + ((ks.size : Int) + 1)) with h | ⟨h1, h4, h2, h3⟩
      · exact .inl h
      · exact .inr ⟨h1, h4, by omega, by simp only [Fo.size]; push_cast; omega⟩
/-- What both sides answer. -/
noncomputable def scR (ss : List TT) (x : ND) (ks : Fo) : List TF × Int × Int :=
  if 4096 < ss.length then ([], 2, 0) else if asB (CatP ss) = false ∨ sqlB x ks = false then ([], 1, 0) else if x.k = 1 then scp ss ks [] [] 1 else if fnd ss x.nm < 0 then ([], 11, 0) else (colsF x.nm (colT ss x.nm), 0, 0)
/-- What scopeOf answers. -/
def SoR (r : List TF × Int × Int) (w : World) (e : Ending) (w' : World) : Prop := ∃ v er, e = .returned (.tuple #[v, erV er]) ∧ OwnF w' w.heap.size v r.1 ∧ ((er = .nil ∧ r.2.1 = 0 ∧ r.2.2 = 0) ∨ (er = .code r.2.1 ∧ r.2.2 = 0) ∨ (er = .col r.2.2 (.code r.2.1) ∧ 0 ≤ r.2.2 ∧ r.2.2 ≤ 1048577)) ∧ Below w.heap.size w w'
set_option maxRecDepth 100000 in
set_option maxHeartbeats 8000000 in
theorem scopeOf_any (a : Option Addr) (cap : Nat) (ss : List TT) (x : ND) (ks : Fo) (ka : Option Addr) (kc : Nat) (w : World) (h : RowTb w a ss) (hl : ss.length ≤ 1048576) (hz : ∀ i, i < ss.length → SmallT (nthT ss i)) (hsz : ks.size ≤ 1048576) (hrow : RowT 0 w ka 0 ks) (ht : TextsN maxLen x) (hkc : ks.len ≤ kc) :
    Calls Tryz.prog 26 #[.slice a ss.length cap, ValT x (.slice ka ks.len kc)] w fun e w' => SoR (scR ss x ks) w e w' := by
  have HR : Hid (RowTb w a ss ∧ RowT 0 w ka 0 ks ∧ ks.size ≤ 1048576 ∧ TextsN maxLen x ∧ ks.len ≤ kc) := ⟨h, hrow, hsz, ht, hkc⟩
  have HZ : Hid (∀ i, i < ss.length → SmallT (nthT ss i)) := hz
  obtain ⟨len, hL⟩ : ∃ m, ks.len = m := ⟨_, rfl⟩
  have HL : Hid (ks.len = len) := hL
  rw [hL]
  obtain ⟨n, hn⟩ : ∃ n, ss.length = n := ⟨_, rfl⟩
  have HN : Hid (ss.length = n) := hn
  rw [hn] at hl ⊢
  have B0 : Below w.heap.size w (w.alloc (.cells #[.int .i64 x.k, .int .i64 x.n, .string x.nm, .string x.of, .int .i64 x.vk, .int .i64 x.vn, .string x.vt, .slice ka len kc] 38)) := (Below.refl _ _).alloc (Nat.le_refl _) _
  have HB0 : Hid (Below w.heap.size w (w.alloc (.cells #[.int .i64 x.k, .int .i64 x.n, .string x.nm, .string x.of, .int .i64 x.vk, .int .i64 x.vn, .string x.vt, .slice ka len kc] 38)) ∧ BoxN w.heap.size x (.slice ka len kc) (w.alloc (.cells #[.int .i64 x.k, .int .i64 x.n, .string x.nm, .string x.of, .int .i64 x.vk, .int .i64 x.vn, .string x.vt, .slice ka len kc] 38))) := ⟨B0, BoxN.new 38⟩
  have hcat := implCatalogOK_any a cap ss _ (h.below B0) (by omega) hz
  rw [hn] at hcat
  clear h hz hsz hrow ht hkc hL hn B0
  by_cases h1 : 4096 < n
  · have HS : Hid (scR ss x ks = ([], 2, 0)) := by unfold scR; rw [if_pos (by rw [HN.out]; exact h1)]; rfl
    have h1I : (4096 : Int) < (n : Int) := by omega
    clear hcat
    go_enter Tryz.func26, Tryz.ntmps26
    go_wp2
    go_ret2
    rw [HS.out]
    exact ⟨_, .code 2, rfl, OwnF.nil _ _, .inr (.inl ⟨rfl, rfl⟩), HB0.out.1⟩
  have h1I : ¬ (4096 : Int) < (n : Int) := by omega
  have H1 : Hid (¬ 4096 < ss.length) := by show ¬ _; rw [HN.out]; exact h1
  go_enter Tryz.func26, Tryz.ntmps26
  go_wp2_with fail
  refine hcat.mono ?_
  rintro e w1 ⟨rfl, b1⟩
  have HB1 : Hid (Below w.heap.size w w1 ∧ BoxN w.heap.size x (.slice ka len kc) w1) := ⟨HB0.out.1.trans (b1.mono HB0.out.1.size), HB0.out.2.below b1⟩
  clear hcat b1 HB0
  cases hok : asB (CatP ss) with
  | false =>
    have HS : Hid (scR ss x ks = ([], 1, 0)) := by unfold scR; rw [if_neg H1.out, if_pos (.inl hok)]; rfl
    clear hok
    go_wp2
    go_ret2
    rw [HS.out]
    exact ⟨_, .code 1, rfl, OwnF.nil _ _, .inr (.inl ⟨rfl, rfl⟩), HB1.out.1⟩
  | true =>
    have HP : Hid (CatP ss) := asB_is hok
    have hsql := implSqlOK_any x ks ka kc w1 (HR.out.2.1.below HB1.out.1) HR.out.2.2.1 HR.out.2.2.2.1
    rw [HL.out] at hsql
    obtain ⟨⟨y0, y1, y2, y3, y4, y5, y6, y7⟩, _⟩ := HB1.out.2
    have HOK : Hid (asB (CatP ss) = true) := hok
    clear hok
    go_wp2_with fail
    refine hsql.mono ?_
    rintro e w2 ⟨rfl, b2⟩
    have HB2 : Hid (Below w.heap.size w w2 ∧ BoxN w.heap.size x (.slice ka len kc) w2) := ⟨below_step HB1.out.1 (Nat.le_refl _) b2, HB1.out.2.below b2⟩
    clear hsql b2 HB1 y0 y1 y2 y3 y4 y5 y6 y7
    cases hsq : sqlB x ks with
    | false =>
      have HS : Hid (scR ss x ks = ([], 1, 0)) := by unfold scR; rw [if_neg H1.out, if_pos (.inr hsq)]; rfl
      clear hsq
      go_wp2
      go_ret2
      rw [HS.out]
      exact ⟨_, .code 1, rfl, OwnF.nil _ _, .inr (.inl ⟨rfl, rfl⟩), HB2.out.1⟩
    | true =>
      have HSQ : Hid (sqlB x ks = true) := hsq
      have hno : Hid (¬ (asB (CatP ss) = false ∨ sqlB x ks = false)) := fun h => by
        rcases h with h | h
        · rw [HOK.out] at h; cases h
        · rw [HSQ.out] at h; cases h
      clear hsq
      obtain ⟨⟨y0, y1, y2, y3, y4, y5, y6, y7⟩, _⟩ := HB2.out.2
      by_cases hk : x.k = 1
      · have HS : Hid (scR ss x ks = scp ss ks [] [] 1) := by unfold scR; rw [if_neg H1.out, if_neg hno.out, if_pos hk]; rfl
        have hq := queryScope_any a cap ss x ks ka kc w2 (HR.out.1.below HB2.out.1) HP.out (sqlB_size HSQ.out) (HR.out.2.1.below HB2.out.1) HR.out.2.2.2.2
        rw [qsp_two ss (fun nm h => HP.out.ne nm h) ks 1 (sqlB_tabs HSQ.out hk), HN.out, HL.out] at hq
        have hx : ValT x (.slice ka len kc) = .agg #[.int .i64 1, .int .i64 x.n, .string x.nm, .string x.of, .int .i64 x.vk, .int .i64 x.vn, .string x.vt, .slice ka len kc] := by
          show Value.agg #[.int .i64 x.k, .int .i64 x.n, .string x.nm, .string x.of, .int .i64 x.vk, .int .i64 x.vn, .string x.vt, .slice ka len kc] = _
          rw [hk]
        rw [hx] at hq
        go_wp2_with fail
        refine hq.mono ?_
        rintro e w3 ⟨v, rfl, o3, b3⟩
        have HO : Hid (OwnF w3 w.heap.size v (scp ss ks [] [] 1).1 ∧ Below w.heap.size w w3) := ⟨o3.mono HB2.out.1.size, below_step HB2.out.1 (Nat.le_refl _) b3⟩
        have HPL := scp_place ss ks [] [] 1
        have HSZ := sqlB_size HSQ.out
        clear hq o3 b3 y0 y1 y2 y3 y4 y5 y6 y7
        go_wp2
        go_ret2
        rw [HS.out]
        rcases HPL with ⟨p1, p2⟩ | ⟨p1, _, p2, p3⟩
        · refine ⟨v, .nil, ?_, HO.out.1, .inl ⟨rfl, p1, p2⟩, HO.out.2⟩
          unfold erQ
          rw [if_pos p1]
          rfl
        · refine ⟨v, .col _ (.code _), ?_, HO.out.1, .inr (.inr ⟨rfl, by omega, by omega⟩), HO.out.2⟩
          unfold erQ
          rw [if_neg p1]
          rfl
      · have hft := tableFields_any a cap ss x.nm x.nm w2 (HR.out.1.below HB2.out.1) HP.out
        rw [HN.out] at hft
        go_wp2_with fail
        refine hft.mono ?_
        rintro e w3 ⟨v, rfl, o3, b3⟩
        have HO : Hid (OwnF w3 w.heap.size v (if fnd ss x.nm < 0 then [] else colsF x.nm (colT ss x.nm)) ∧ Below w.heap.size w w3) := ⟨o3.mono HB2.out.1.size, below_step HB2.out.1 (Nat.le_refl _) b3⟩
        clear hft o3 b3 y0 y1 y2 y3 y4 y5 y6 y7
        by_cases hf : fnd ss x.nm < 0
        · have HS : Hid (scR ss x ks = ([], 11, 0)) := by unfold scR; rw [if_neg H1.out, if_neg hno.out, if_neg hk, if_pos hf]; rfl
          have HO2 : Hid (OwnF w3 w.heap.size v [] ∧ Below w.heap.size w w3) := by have := HO.out; rw [if_pos hf] at this; exact this
          rw [if_pos hf]
          clear HO hf
          go_wp2
          go_ret2
          rw [HS.out]
          exact ⟨v, .code 11, rfl, HO2.out.1, .inr (.inl ⟨rfl, rfl⟩), HO2.out.2⟩
        · have HS : Hid (scR ss x ks = (colsF x.nm (colT ss x.nm), 0, 0)) := by unfold scR; rw [if_neg H1.out, if_neg hno.out, if_neg hk, if_neg hf]; rfl
          have HO2 : Hid (OwnF w3 w.heap.size v (colsF x.nm (colT ss x.nm)) ∧ Below w.heap.size w w3) := by have := HO.out; rw [if_neg hf] at this; exact this
          rw [if_neg hf]
          clear HO hf
          go_wp2
          go_ret2
          rw [HS.out]
          exact ⟨v, .nil, rfl, HO2.out.1, .inl ⟨rfl, rfl, rfl⟩, HO2.out.2⟩
end Go.Proofs.YteejkmcljokloaaGreatDoor
namespace Go.Proofs.YteejkmcljokloaaGreatDoor
open Go.RowKit

/-- What both sides' ScopeOf answer. -/
def ScA (r : List TF × Int × Int) (w : World) (e : Ending) (w' : World) : Prop := ∃ v, e = .returned (.tuple #[v, .int .i64 r.2.1, .int .i64 r.2.2]) ∧ OwnF w' w.heap.size v r.1 ∧ Below w.heap.size w w'
set_option maxRecDepth 100000 in
set_option maxHeartbeats 8000000 in
theorem implScope_any (a : Option Addr) (cap : Nat) (ss : List TT) (x : ND) (ks : Fo) (ka : Option Addr) (kc : Nat) (w : World) (hg : ErrT w) (h : RowTb w a ss) (hl : ss.length ≤ 1048576) (hz : ∀ i, i < ss.length → SmallT (nthT ss i)) (hsz : ks.size ≤ 1048576) (hrow : RowT 0 w ka 0 ks) (ht : TextsN maxLen x) (hkc : ks.len ≤ kc) :
    Calls Tryz.prog 9 #[.slice a ss.length cap, ValT x (.slice ka ks.len kc)] w fun e w' => ScA (scR ss x ks) w e w' := by
  obtain ⟨W0, hW0⟩ : ∃ W0, w.alloc (.cells #[.int .i64 x.k, .int .i64 x.n, .string x.nm, .string x.of, .int .i64 x.vk, .int .i64 x.vn, .string x.vt, .slice ka ks.len kc] 38) = W0 := ⟨_, rfl⟩
  have B0 : Below w.heap.size w W0 := hW0 ▸ (Below.refl _ _).alloc (Nat.le_refl _) _
  have X0 : BoxN w.heap.size x (.slice ka ks.len kc) W0 := hW0 ▸ BoxN.new 38
  have hc := scopeOf_any a cap ss x ks ka kc W0 (h.below B0) hl hz hsz (hrow.below B0) ht hkc
  have HB : Hid (Below w.heap.size w W0) := B0
  have HG : Hid (ErrT w) := hg
  obtain ⟨len, hL⟩ : ∃ m, ks.len = m := ⟨_, rfl⟩
  obtain ⟨n, hn⟩ : ∃ n, ss.length = n := ⟨_, rfl⟩
  rw [hL] at hc hW0 X0 ⊢
  rw [hn] at hc ⊢
  obtain ⟨⟨y0, y1, y2, y3, y4, y5, y6, y7⟩, _⟩ := X0
  clear hL hn h hz hrow ht hkc B0 hg hsz hl
  generalize scR ss x ks = r at *
  go_enter Tryz.func9, Tryz.ntmps9
  go_wp2_with fail
  refine hc.mono ?_
  rintro e w1 ⟨v, er, rfl, o1, her, b1⟩
  have HO : Hid (OwnF w1 w.heap.size v r.1 ∧ Below w.heap.size w w1 ∧ ErrT w1) := by
    have hb := HB.out.trans (b1.mono HB.out.size)
    exact ⟨o1.mono HB.out.size, hb, HG.out.below hb HG.out.2⟩
  clear hc o1 b1 y0 y1 y2 y3 y4 y5 y6 y7 hW0
  have h1 : Hid (∀ W, ErrT W → Calls Tryz.prog 27 #[erV er] W fun e w' => e = .returned (.int .i64 r.2.1) ∧ Below W.heap.size W w') := fun W hW => by
    refine (codeIn_any er W hW).mono ?_
    rintro e w' ⟨rfl, b⟩
    refine ⟨?_, b⟩
    rcases her with ⟨rfl, p1, p2⟩ | ⟨rfl, p2⟩ | ⟨rfl, p2, p3⟩
    · rw [p1]; rfl
    · rfl
    · rfl
  have h2 : Hid (∀ W, ErrT W → Calls Tryz.prog 28 #[erV er] W fun e w' => e = .returned (.int .i64 r.2.2) ∧ Below W.heap.size W w') := fun W hW => by
    rcases her with ⟨rfl, p1, p2⟩ | ⟨rfl, p2⟩ | ⟨rfl, p2, p3⟩
    · rw [p2]; exact placeIn_none .nil rfl W hW
    · rw [p2]; exact placeIn_none _ rfl W hW
    · exact placeIn_one _ _ p2 (by omega) W hW
  clear her
  generalize erV er = ev at *
  go_wp2_with fail
  refine (h1.out _ HO.out.2.2).mono ?_
  rintro e w2 ⟨rfl, b2⟩
  have HO2 : Hid (OwnF w2 w.heap.size v r.1 ∧ Below w.heap.size w w2 ∧ ErrT w2) := ⟨HO.out.1.below b2, below_step HO.out.2.1 (Nat.le_refl _) b2, HO.out.2.2.below b2 (Nat.lt_of_lt_of_le HG.out.2 HO.out.2.1.size)⟩
  clear b2 h1
  go_wp2_with fail
  refine (h2.out _ HO2.out.2.2).mono ?_
  rintro e w3 ⟨rfl, b3⟩
  have HO3 : Hid (OwnF w3 w.heap.size v r.1 ∧ Below w.heap.size w w3) := ⟨HO2.out.1.below b3, below_step HO2.out.2.1 (Nat.le_refl _) b3⟩
  clear b3 h2
  go_wp2
  go_ret3
  exact ⟨v, rfl, HO3.out.1, HO3.out.2⟩
end Go.Proofs.YteejkmcljokloaaGreatDoor
namespace Go.Proofs.YteejkmcljokloaaGreatDoor
open Go.RowKit

abbrev OwnN (w : World) (B : Nat) (v : Value) (l : List ByteArray) : Prop := w.ownsRow B 9 1 v l.length (l.map Value.string)
theorem OwnN.empty {w : World} {B : Nat} (hB : B ≤ w.heap.size) : OwnN (w.alloc (.cells #[] 9)) B (.slice (some ⟨w.heap.size, 0, none⟩) 0 0) [] :=
  ⟨rfl, .inr ⟨w.heap.size, 0, #[], rfl, hB, heap_alloc_new w _, by simp, by simp, by simp, by simp⟩⟩
theorem OwnN.keep {w w' : World} {B : Nat} {v : Value} {l : List ByteArray} (h : OwnN w B v l) (hb : ∀ g, g < w.heap.size → v.ownBlock = some g → w'.heap[g]? = w.heap[g]?) : OwnN w' B v l := by
  obtain ⟨h1, h2⟩ := h
  refine ⟨h1, ?_⟩
  rcases h2 with h | ⟨g, cap, cur, rfl, hg, hh, r⟩
  · exact .inl h
  · exact .inr ⟨g, cap, cur, rfl, hg, (hb g (slab_lt hh) rfl).trans hh, r⟩
theorem OwnF.keep {w w' : World} {B : Nat} {v : Value} {l : List TF} (h : OwnF w B v l) (hb : ∀ g, g < w.heap.size → v.ownBlock = some g → w'.heap[g]? = w.heap[g]?) : OwnF w' B v l := by
  obtain ⟨h1, h2⟩ := h
  refine ⟨h1, ?_⟩
  rcases h2 with h | ⟨g, cap, cur, rfl, hg, hh, r⟩
  · exact .inl h
  · exact .inr ⟨g, cap, cur, rfl, hg, (hb g (slab_lt hh) rfl).trans hh, r⟩
theorem OwnN.lt {w : World} {B : Nat} {v : Value} {l : List ByteArray} (h : OwnN w B v l) {g : Nat} (hg : v.ownBlock = some g) : B ≤ g ∧ g < w.heap.size := by
  obtain ⟨_, h2⟩ := h
  rcases h2 with ⟨rfl, _⟩ | ⟨g', cap, cur, rfl, h1, h3, _⟩
  · simp [Value.ownBlock] at hg
  · simp [Value.ownBlock] at hg
    subst hg
    exact ⟨h1, slab_lt h3⟩
theorem own_apart {w : World} {B B' : Nat} {v v' : Value} {l : List TF} {l' : List ByteArray} (h : OwnF w B v l) (h' : OwnN w B' v' l') {g : Nat} (e : v.ownBlock = some g) (e' : v'.ownBlock = some g) : False := by
  obtain ⟨_, h2⟩ := h
  obtain ⟨_, h2'⟩ := h'
  rcases h2 with ⟨rfl, _⟩ | ⟨g1, cap, cur, rfl, _, h3, _⟩
  · simp [Value.ownBlock] at e
  · rcases h2' with ⟨rfl, _⟩ | ⟨g2, cap', cur', rfl, _, h3', _⟩
    · simp [Value.ownBlock] at e'
    · simp [Value.ownBlock] at e e'
      subst e
      subst e'
      rw [h3] at h3'
      simp at h3'
theorem OwnN.cells {w : World} {B : Nat} {v : Value} {l : List ByteArray} (h : OwnN w B v l) : ∃ a cap, v = .slice a l.length cap ∧ ∀ i (hi : i < l.length), ∃ b, a = some ⟨b, 0, none⟩ ∧ w.cell? ⟨b, i, none⟩ = some (.string l[i]) := by
  obtain ⟨_, h2⟩ := h
  rcases h2 with ⟨rfl, h0⟩ | ⟨g, cap, cur, rfl, _, hh, _, _, hs, ht⟩
  · exact ⟨none, 0, by rw [h0], fun i hi => by omega⟩
  · refine ⟨_, cap, rfl, fun i hi => ⟨g, rfl, ?_⟩⟩
    rw [slab_cell hh]
    have hj : (l.map Value.string)[i]? = some (.string l[i]) := by rw [List.getElem?_map, List.getElem?_eq_getElem hi]; rfl
    rw [← ht, List.getElem?_take] at hj
    split at hj
    · rw [← Array.getElem?_toList]; exact hj
    · cases hj
theorem infoN9 : (Tryz.prog.info? 9).map (fun i => (i.zero, i.size, i.bytes)) = some (some (.string ⟨#[]⟩), 1, 16) := by kernel_rfl
set_option maxRecDepth 100000 in
/-- One name, appended. -/
theorem push_N (v : Value) (l : List ByteArray) (x : ByteArray) (w : World) (B : Nat) (h : OwnN w B v l) (hl : l.length < 2097152) (hB : B ≤ w.heap.size) :
    ∃ v' w', (Builtin.append_ #[84, 84] 84 #[v, .slice (some ⟨w.heap.size, 0, none⟩) 1 1]).run Tryz.prog (w.alloc (.cells #[.string x] 9)) = .ok v' w' ∧ OwnN w' B v' (l ++ [x]) ∧ Grw w w' v v' := by
  have b2 : Below w.heap.size w (w.alloc (.cells #[.string x] 9)) := (Below.refl _ _).alloc (Nat.le_refl _) _
  have o2 : OwnN (w.alloc (.cells #[.string x] 9)) B v l := h.keep fun g hg _ => b2.block g hg
  have hh : (w.alloc (.cells #[.string x] 9)).heap[w.heap.size]? = some (.cells #[.string x] 9 (0, 0)) := heap_new' _ _ _ rfl
  obtain ⟨i0, hi, hz0, hz1, hz2⟩ := info_parts infoN9
  obtain ⟨v', w', h1, h2, h3, _, h4⟩ := run_append_own_at (P := Tryz.prog) (w := w.alloc (.cells #[.string x] 9)) B 84 84 9 i0 _ 1 16 Tryz.underlying84 hi hz0 hz1 hz2 rfl (by decide) v l.length (l.map Value.string) o2 ⟨w.heap.size, 0, none⟩ 1 1 [.string x] rfl (fun j u hj => by
    have hj0 : j = 0 := by
      have := (List.getElem?_eq_some_iff.1 hj).1
      simpa using this
    subst hj0
    simp at hj
    subst hj
    rw [add_plain, slab_cell hh]
    rfl) (fun u hu => by simp at hu; subst hu; rfl) (by unfold maxLen; omega) (by omega) (by simp; omega)
  refine ⟨v', w', h1, by show w'.ownsRow B 9 1 v' (l ++ [x]).length ((l ++ [x]).map Value.string); rw [show (l ++ [x]).length = l.length + 1 by simp, show (l ++ [x]).map Value.string = l.map Value.string ++ [.string x] by simp]; exact h2, (Grw.of_below b2 v).trans ⟨⟨h3.os, h3.tape, h3.output, h3.size, fun k hk hn => h3.block k hk fun e => hn e.symm⟩, fun b hb => ?_⟩⟩
  rcases h4 with h4 | h4
  · rw [h4] at hb; exact .inl hb
  · rw [h4] at hb; cases hb; exact .inr (Nat.le_refl _)
end Go.Proofs.YteejkmcljokloaaGreatDoor
