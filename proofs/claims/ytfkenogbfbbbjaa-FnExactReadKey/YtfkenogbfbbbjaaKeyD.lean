/- What spec's l01Key answers of a right row. -/
import Derived.Test.YtfkenogbfbbbjaaL01
import Derived.Test.YtfkenogbfbbbjaaKeyC
namespace Go.Proofs.Ytfkenogbfbbbjaa
open Go.RowKit

theorem news_two {w : World} {c d : Value} {t : TypeId} : ∀ j u, [c, d][j]? = some u → (w.alloc (.cells #[c, d] t)).cell? ((⟨w.heap.size, 0, none⟩ : Addr).add j) = some u := by
  intro j u hj
  match j, hj with
  | 0, hj => simp at hj; subst hj; go_simp
  | 1, hj => simp at hj; subst hj; rw [add_plain]; go_simp
theorem two1 (c d : Int) : ∀ u ∈ [Value.int .u8 c, Value.int .u8 d], u.oneCell' = true := fun u hu => by
  simp at hu
  rcases hu with rfl | rfl <;> rfl
/-- What a loop round leaves: the bytes so far. -/
def keyFar (vs : List V3) (k : Nat) : List Value := (vs.take k).flatMap encK
theorem keyFar_succ {vs : List V3} {k : Nat} (h : k < vs.length) : keyFar vs (k + 1) = keyFar vs k ++ encK (nthV vs k) := takeK_flat h
theorem encK_null (n : Int) (t : ByteArray) : encK (0, n, t) = [.int .u8 0] := rfl
theorem encK_bool (n : Int) (t : ByteArray) : encK (1, n, t) = [.int .u8 1, .int .u8 n] := rfl
theorem encK_int (n : Int) (t : ByteArray) : encK (2, n, t) = .int .u8 2 :: encI n := rfl
theorem encK_text (n : Int) (t : ByteArray) : encK (3, n, t) = .int .u8 3 :: escT t := rfl
theorem encK_bytes' (n : Int) (t : ByteArray) : encK (4, n, t) = .int .u8 4 :: escT t := rfl
theorem escT_len (t : ByteArray) : (escT t).length = (escK t t.size).length + 2 := by unfold escT; simp
theorem esc_zero {t : ByteArray} {j : Nat} (h : j < t.size) (hz : ((t[j]'h).toNat : Int) = 0) : escK t (j + 1) = escK t j ++ [.int .u8 0, .int .u8 255] := by
  rw [escK_succ h]
  have h0 : t[j] = 0 := by
    apply UInt8.toNat_inj.1
    simpa using hz
  have h1 : t.data[j]'h = 0 := h0
  unfold esc1
  rw [if_pos h1]
theorem esc_other {t : ByteArray} {j : Nat} (h : j < t.size) (hz : ¬ ((t[j]'h).toNat : Int) = 0) : escK t (j + 1) = escK t j ++ [.int .u8 ((t[j]'h).toNat : Int)] := by
  rw [escK_succ h]
  unfold esc1
  rw [if_neg (fun h1 => hz (by have h2 : t[j] = 0 := h1; rw [h2]; rfl))]
  rfl

set_option maxRecDepth 100000 in
set_option maxHeartbeats 8000000 in
theorem l01Key_any (a : Option Addr) (cap : Nat) (vs : List V3) (w : World) (hrow : RowV w a vs) (hok : okRow vs = true) :
    Calls Try.prog 58 #[.slice a vs.length cap] w fun e w' => ∃ v, e = .returned v ∧ w'.ownsRow w.heap.size 5 1 v (encKey vs).length (encKey vs) ∧ Below w.heap.size w w' := by
  obtain ⟨h8, hall⟩ := okRow_all hok
  have H1 : Hid (RowV w a vs) := hrow
  have HA : Hid (∀ v ∈ vs, okV3 v = true) := hall
  have HE : Hid (encKey vs = keyFar vs vs.length) := by show _ = _; unfold keyFar encKey; rw [List.take_of_length_le (Nat.le_refl _)]
  have HB : Hid (∀ k, (keyFar vs k).length ≤ 2000) := by
    intro k
    unfold keyFar
    have := keyFlat_len (vs.take k) (fun u hu => hall u (List.mem_of_mem_take hu))
    have h2 : (vs.take k).length ≤ 8 := by rw [List.length_take]; omega
    omega
  clear hrow hall hok
  obtain ⟨i0, hi, hz0, hz1, hz2⟩ := info_parts info5
  generalize hN : vs.length = len at *
  have HN : Hid (vs.length = len) := hN
  clear hN
  go_enter Try.func58, Try.ntmps58
  go_wp2
  go_loopw [3, 4] (fun o i wr => ∃ k : Nat, k ≤ len ∧ i = .int .i64 k ∧ ∃ g cap', o = .slice (some ⟨g, 0, none⟩) (keyFar vs k).length cap' ∧ wr.ownsRow w.heap.size 5 1 (.slice (some ⟨g, 0, none⟩) (keyFar vs k).length cap') (keyFar vs k).length (keyFar vs k) ∧ g < wr.heap.size ∧ Below w.heap.size w wr) (fun _ i _ => len - (intOf i).toNat)
  case atStart => exact ⟨0, by omega, rfl, w.heap.size, 0, rfl, own_empty (Nat.le_refl _), by simp, (Below.refl _ _).alloc (Nat.le_refl _) _⟩
  case round =>
    obtain ⟨k, hk, rfl, g, cap', rfl, hown, hg, hbl⟩ := hrel
    by_cases hlt : k < len
    · have hlt' : k < vs.length := by rw [HN.out]; exact hlt
      obtain ⟨b, off, rfl, hlb, ⟨hc0, hc1, hc2⟩, hsz⟩ := (H1.out.below hbl) k hlt'
      have hv := HA.out _ (nth_mem hlt')
      have HS : Hid (keyFar vs (k + 1) = keyFar vs k ++ encK (nthV vs k)) := keyFar_succ hlt'
      have hLb := HB.out k
      have HLn : Hid ((keyFar vs (k + 1)).length = (keyFar vs k).length + (encK (nthV vs k)).length) := by show _ = _; rw [HS.out, List.length_append]
      revert HS HLn
      generalize hxs : keyFar vs k = xs at *
      generalize hL : xs.length = L at *
      have HO : Hid (wr.ownsRow w.heap.size 5 1 (.slice (some ⟨g, 0, none⟩) L cap') L xs) := hown
      clear hown hxs hL
      generalize nthV vs k = v at *
      obtain ⟨kd, n, t⟩ := v
      intro HS HLn
      have hok : okV kd n t = true := hv
      have hsz' : t.size ≤ maxLen := hsz
      have hc0 : wr.cell? ⟨b, off + k * 3, none⟩ = some (.int .i64 kd) := hc0
      have hc1 : wr.cell? ⟨b, off + k * 3 + 1, none⟩ = some (.int .i64 n) := hc1
      have hc2 : wr.cell? ⟨b, off + k * 3 + 2, none⟩ = some (.string t) := hc2
      have hws : w.heap.size ≤ wr.heap.size := hbl.size
      clear hv hsz hlt' hsz'
      rcases kind_of hok with ⟨rfl, hn0, hs0⟩ | ⟨rfl, hn⟩ | rfl | ⟨hk2, ht⟩
      · clear hn0 hs0 hok
        have HF1 : Hid (keyFar vs (k + 1) = xs ++ [.int .u8 0]) := by show _ = _; rw [HS.out]; rfl
        have HF2 : Hid ((keyFar vs (k + 1)).length = L + 1) := by show _ = _; rw [HLn.out]; rfl
        clear HS HLn
        have A0 : Below wr.heap.size wr ((wr.alloc (.cells #[.int .i64 0, .int .i64 n, .string t] 24)).alloc (.cells #[.int .u8 0] 5)) := ((Below.refl _ _).alloc (Nat.le_refl _) _).alloc (by simp) _
        have C0 : Below w.heap.size w ((wr.alloc (.cells #[.int .i64 0, .int .i64 n, .string t] 24)).alloc (.cells #[.int .u8 0] 5)) := hbl.trans (A0.mono hbl.size)
        have a1 : ((wr.alloc (.cells #[.int .i64 0, .int .i64 n, .string t] 24)).alloc (.cells #[.int .u8 0] 5)).ownsRow w.heap.size 5 1 (.slice (some ⟨g, 0, none⟩) L cap') L xs := own_below HO.out A0
        go_wp2_with (at_builtin; go_loud (refine wpList_append_lies _ rfl (.tmp 18) (.tmp 22) 22 rfl w.heap.size 5 i0 (.int .u8 0) 1 1 Try.underlying22 hi hz0 hz1 hz2 rfl (by decide) _ L _ rfl a1 ⟨wr.heap.size + 1, 0, none⟩ 1 1 [.int .u8 0] rfl rfl (news_one (by simp)) (one1 _) (by decide) (by unfold maxLen; omega) (by omega) (by simp; omega) (wr.heap.size + 2) (by simp) ?_))
        intro g1 cap1 w1 e1 hgrow hat hg1
        have b1 := grown_below C0 C0.size a1 hgrow
        have q0 : w1.cell? ⟨wr.heap.size, 0, none⟩ = some (.int .i64 0) := by rw [hgrow.cell_far _ (by simp; omega) (by simp [Value.ownBlock]; omega)]; go_simp
        have q1 : w1.cell? ⟨wr.heap.size, 1, none⟩ = some (.int .i64 n) := by rw [hgrow.cell_far _ (by simp; omega) (by simp [Value.ownBlock]; omega)]; go_simp
        have q2 : w1.cell? ⟨wr.heap.size, 2, none⟩ = some (.string t) := by rw [hgrow.cell_far _ (by simp; omega) (by simp [Value.ownBlock]; omega)]; go_simp
        have hne : g1 ≠ wr.heap.size := by
          rcases hat with h | h
          · simp [Value.ownBlock] at h; omega
          · omega
        have O1 : Hid (w1.ownsRow w.heap.size 5 1 (.slice (some ⟨g1, 0, none⟩) (L + 1) cap1) (L + 1) (xs ++ [.int .u8 0])) := e1
        have hsz1 : wr.heap.size + 2 ≤ w1.heap.size := by have := hgrow.size; simp at this; omega
        clear e1 hgrow hat a1 A0 C0
        go_wp2
        go_roundw
        case rel => exact ⟨k + 1, by omega, by go_num, g1, cap1, by rw [HF2.out], by rw [HF2.out, HF1.out]; exact O1.out, hg1, b1⟩
        case measure => simp [intOf]; omega
      · clear hok
        have HF1 : Hid (keyFar vs (k + 1) = xs ++ [.int .u8 1, .int .u8 n]) := by show _ = _; rw [HS.out]; rfl
        have HF2 : Hid ((keyFar vs (k + 1)).length = L + 1 + 1) := by show _ = _; rw [HLn.out]; rfl
        clear HS HLn
        rcases hn with rfl | rfl
        · have A0 : Below wr.heap.size wr ((wr.alloc (.cells #[.int .i64 1, .int .i64 0, .string t] 24)).alloc (.cells #[.int .u8 1] 5)) := ((Below.refl _ _).alloc (Nat.le_refl _) _).alloc (by simp) _
          have C0 : Below w.heap.size w ((wr.alloc (.cells #[.int .i64 1, .int .i64 0, .string t] 24)).alloc (.cells #[.int .u8 1] 5)) := hbl.trans (A0.mono hbl.size)
          have a1 : ((wr.alloc (.cells #[.int .i64 1, .int .i64 0, .string t] 24)).alloc (.cells #[.int .u8 1] 5)).ownsRow w.heap.size 5 1 (.slice (some ⟨g, 0, none⟩) L cap') L xs := own_below HO.out A0
          go_wp2_with (at_builtin; go_loud (refine wpList_append_lies _ rfl (.tmp 18) (.tmp 22) 22 rfl w.heap.size 5 i0 (.int .u8 0) 1 1 Try.underlying22 hi hz0 hz1 hz2 rfl (by decide) _ L _ rfl a1 ⟨wr.heap.size + 1, 0, none⟩ 1 1 [.int .u8 1] rfl rfl (news_one (by simp)) (one1 _) (by decide) (by unfold maxLen; omega) (by omega) (by simp; omega) (wr.heap.size + 2) (by simp) ?_))
          intro g1 cap1 w1 e1 hgrow hat hg1
          have b1 := grown_below C0 C0.size a1 hgrow
          have q0 : w1.cell? ⟨wr.heap.size, 0, none⟩ = some (.int .i64 1) := by rw [hgrow.cell_far _ (by simp; omega) (by simp [Value.ownBlock]; omega)]; go_simp
          have q1 : w1.cell? ⟨wr.heap.size, 1, none⟩ = some (.int .i64 0) := by rw [hgrow.cell_far _ (by simp; omega) (by simp [Value.ownBlock]; omega)]; go_simp
          have q2 : w1.cell? ⟨wr.heap.size, 2, none⟩ = some (.string t) := by rw [hgrow.cell_far _ (by simp; omega) (by simp [Value.ownBlock]; omega)]; go_simp
          have hne : g1 ≠ wr.heap.size := by
            rcases hat with h | h
            · simp [Value.ownBlock] at h; omega
            · omega
          have O1 : Hid (w1.ownsRow w.heap.size 5 1 (.slice (some ⟨g1, 0, none⟩) (L + 1) cap1) (L + 1) (xs ++ [.int .u8 1])) := e1
          have hsz1 : wr.heap.size + 2 ≤ w1.heap.size := by have := hgrow.size; simp at this; omega
          clear e1 hgrow hat a1 A0 C0
          have A1 : Below w1.heap.size w1 (w1.alloc (.cells #[.int .u8 0] 5)) := (Below.refl _ _).alloc (Nat.le_refl _) _
          have C1 : Below w.heap.size w (w1.alloc (.cells #[.int .u8 0] 5)) := b1.trans (A1.mono b1.size)
          have a2 : (w1.alloc (.cells #[.int .u8 0] 5)).ownsRow w.heap.size 5 1 (.slice (some ⟨g1, 0, none⟩) (L + 1) cap1) (L + 1) (xs ++ [.int .u8 1]) := own_below O1.out A1
          go_wp2_with (at_builtin; go_loud (refine wpList_append_lies _ rfl (.tmp 28) (.tmp 32) 22 rfl w.heap.size 5 i0 (.int .u8 0) 1 1 Try.underlying22 hi hz0 hz1 hz2 rfl (by decide) _ (L + 1) _ rfl a2 ⟨w1.heap.size, 0, none⟩ 1 1 [.int .u8 0] rfl rfl (news_one (by simp)) (one1 _) (by decide) (by unfold maxLen; omega) (by omega) (by simp; omega) (w1.heap.size + 1) (by simp) ?_))
          intro g2 cap2 w2 e2 hgrow hat hg2
          have b2 := grown_below C1 C1.size a2 hgrow
          have O2 : Hid (w2.ownsRow w.heap.size 5 1 (.slice (some ⟨g2, 0, none⟩) (L + 1 + 1) cap2) (L + 1 + 1) (xs ++ [.int .u8 1, .int .u8 0])) := by show World.ownsRow _ _ _ _ _ _ _; simpa using e2
          clear e2 hgrow hat a2 A1 C1 q0 q1 q2
          go_wp2
          go_roundw
          case rel => exact ⟨k + 1, by omega, by go_num, g2, cap2, by rw [HF2.out], by rw [HF2.out, HF1.out]; exact O2.out, hg2, b2⟩
          case measure => simp [intOf]; omega
        · have A0 : Below wr.heap.size wr ((wr.alloc (.cells #[.int .i64 1, .int .i64 1, .string t] 24)).alloc (.cells #[.int .u8 1] 5)) := ((Below.refl _ _).alloc (Nat.le_refl _) _).alloc (by simp) _
          have C0 : Below w.heap.size w ((wr.alloc (.cells #[.int .i64 1, .int .i64 1, .string t] 24)).alloc (.cells #[.int .u8 1] 5)) := hbl.trans (A0.mono hbl.size)
          have a1 : ((wr.alloc (.cells #[.int .i64 1, .int .i64 1, .string t] 24)).alloc (.cells #[.int .u8 1] 5)).ownsRow w.heap.size 5 1 (.slice (some ⟨g, 0, none⟩) L cap') L xs := own_below HO.out A0
          go_wp2_with (at_builtin; go_loud (refine wpList_append_lies _ rfl (.tmp 18) (.tmp 22) 22 rfl w.heap.size 5 i0 (.int .u8 0) 1 1 Try.underlying22 hi hz0 hz1 hz2 rfl (by decide) _ L _ rfl a1 ⟨wr.heap.size + 1, 0, none⟩ 1 1 [.int .u8 1] rfl rfl (news_one (by simp)) (one1 _) (by decide) (by unfold maxLen; omega) (by omega) (by simp; omega) (wr.heap.size + 2) (by simp) ?_))
          intro g1 cap1 w1 e1 hgrow hat hg1
          have b1 := grown_below C0 C0.size a1 hgrow
          have q0 : w1.cell? ⟨wr.heap.size, 0, none⟩ = some (.int .i64 1) := by rw [hgrow.cell_far _ (by simp; omega) (by simp [Value.ownBlock]; omega)]; go_simp
          have q1 : w1.cell? ⟨wr.heap.size, 1, none⟩ = some (.int .i64 1) := by rw [hgrow.cell_far _ (by simp; omega) (by simp [Value.ownBlock]; omega)]; go_simp
          have q2 : w1.cell? ⟨wr.heap.size, 2, none⟩ = some (.string t) := by rw [hgrow.cell_far _ (by simp; omega) (by simp [Value.ownBlock]; omega)]; go_simp
          have hne : g1 ≠ wr.heap.size := by
            rcases hat with h | h
            · simp [Value.ownBlock] at h; omega
            · omega
          have O1 : Hid (w1.ownsRow w.heap.size 5 1 (.slice (some ⟨g1, 0, none⟩) (L + 1) cap1) (L + 1) (xs ++ [.int .u8 1])) := e1
          have hsz1 : wr.heap.size + 2 ≤ w1.heap.size := by have := hgrow.size; simp at this; omega
          clear e1 hgrow hat a1 A0 C0
          have A1 : Below w1.heap.size w1 (w1.alloc (.cells #[.int .u8 1] 5)) := (Below.refl _ _).alloc (Nat.le_refl _) _
          have C1 : Below w.heap.size w (w1.alloc (.cells #[.int .u8 1] 5)) := b1.trans (A1.mono b1.size)
          have a2 : (w1.alloc (.cells #[.int .u8 1] 5)).ownsRow w.heap.size 5 1 (.slice (some ⟨g1, 0, none⟩) (L + 1) cap1) (L + 1) (xs ++ [.int .u8 1]) := own_below O1.out A1
          go_wp2_with (at_builtin; go_loud (refine wpList_append_lies _ rfl (.tmp 28) (.tmp 32) 22 rfl w.heap.size 5 i0 (.int .u8 0) 1 1 Try.underlying22 hi hz0 hz1 hz2 rfl (by decide) _ (L + 1) _ rfl a2 ⟨w1.heap.size, 0, none⟩ 1 1 [.int .u8 1] rfl rfl (news_one (by simp)) (one1 _) (by decide) (by unfold maxLen; omega) (by omega) (by simp; omega) (w1.heap.size + 1) (by simp) ?_))
          intro g2 cap2 w2 e2 hgrow hat hg2
          have b2 := grown_below C1 C1.size a2 hgrow
          have O2 : Hid (w2.ownsRow w.heap.size 5 1 (.slice (some ⟨g2, 0, none⟩) (L + 1 + 1) cap2) (L + 1 + 1) (xs ++ [.int .u8 1, .int .u8 1])) := by show World.ownsRow _ _ _ _ _ _ _; simpa using e2
          clear e2 hgrow hat a2 A1 C1 q0 q1 q2
          go_wp2
          go_roundw
          case rel => exact ⟨k + 1, by omega, by go_num, g2, cap2, by rw [HF2.out], by rw [HF2.out, HF1.out]; exact O2.out, hg2, b2⟩
          case measure => simp [intOf]; omega
      · clear hok
        have HF1 : Hid (keyFar vs (k + 1) = xs ++ Value.int .u8 2 :: encI n) := by show _ = _; rw [HS.out]; rfl
        have HF2 : Hid ((keyFar vs (k + 1)).length = L + 1 + 8) := by show _ = _; rw [HLn.out]; rw [encK_int, List.length_cons, encI_len]
        clear HS HLn
        have A0 : Below wr.heap.size wr ((wr.alloc (.cells #[.int .i64 2, .int .i64 n, .string t] 24)).alloc (.cells #[.int .u8 2] 5)) := ((Below.refl _ _).alloc (Nat.le_refl _) _).alloc (by simp) _
        have C0 : Below w.heap.size w ((wr.alloc (.cells #[.int .i64 2, .int .i64 n, .string t] 24)).alloc (.cells #[.int .u8 2] 5)) := hbl.trans (A0.mono hbl.size)
        have a1 : ((wr.alloc (.cells #[.int .i64 2, .int .i64 n, .string t] 24)).alloc (.cells #[.int .u8 2] 5)).ownsRow w.heap.size 5 1 (.slice (some ⟨g, 0, none⟩) L cap') L xs := own_below HO.out A0
        go_wp2_with (at_builtin; go_loud (refine wpList_append_lies _ rfl (.tmp 18) (.tmp 22) 22 rfl w.heap.size 5 i0 (.int .u8 0) 1 1 Try.underlying22 hi hz0 hz1 hz2 rfl (by decide) _ L _ rfl a1 ⟨wr.heap.size + 1, 0, none⟩ 1 1 [.int .u8 2] rfl rfl (news_one (by simp)) (one1 _) (by decide) (by unfold maxLen; omega) (by omega) (by simp; omega) (wr.heap.size + 2) (by simp) ?_))
        intro g1 cap1 w1 e1 hgrow hat hg1
        have b1 := grown_below C0 C0.size a1 hgrow
        have q0 : w1.cell? ⟨wr.heap.size, 0, none⟩ = some (.int .i64 2) := by rw [hgrow.cell_far _ (by simp; omega) (by simp [Value.ownBlock]; omega)]; go_simp
        have q1 : w1.cell? ⟨wr.heap.size, 1, none⟩ = some (.int .i64 n) := by rw [hgrow.cell_far _ (by simp; omega) (by simp [Value.ownBlock]; omega)]; go_simp
        have q2 : w1.cell? ⟨wr.heap.size, 2, none⟩ = some (.string t) := by rw [hgrow.cell_far _ (by simp; omega) (by simp [Value.ownBlock]; omega)]; go_simp
        have hne : g1 ≠ wr.heap.size := by
          rcases hat with h | h
          · simp [Value.ownBlock] at h; omega
          · omega
        have O1 : Hid (w1.ownsRow w.heap.size 5 1 (.slice (some ⟨g1, 0, none⟩) (L + 1) cap1) (L + 1) (xs ++ [.int .u8 2])) := e1
        have hsz1 : wr.heap.size + 2 ≤ w1.heap.size := by have := hgrow.size; simp at this; omega
        clear e1 hgrow hat a1 A0 C0
        have hws1 : w.heap.size ≤ w1.heap.size := b1.size
        go_wp2_with fail
        refine (l01Eight_any n w1).mono ?_
        rintro e w2 ⟨v8, rfl, o8, hb2⟩
        obtain ⟨g8, c8, rfl, hn8⟩ := own_cells o8 (by decide)
        have C2 := b1.trans (hb2.mono b1.size)
        have a2 : w2.ownsRow w.heap.size 5 1 (.slice (some ⟨g1, 0, none⟩) (L + 1) cap1) (L + 1) (xs ++ [.int .u8 2]) := own_below O1.out hb2
        have hws2 : w.heap.size ≤ w2.heap.size := C2.size
        have HN8 : Hid (∀ j x, (encI n)[j]? = some x → w2.cell? ((⟨g8, 0, none⟩ : Addr).add j) = some x) := hn8
        clear o8 hb2 hn8 q0 q1 q2
        go_wp2_with (at_builtin; go_loud (refine wpList_append_lies _ rfl (.tmp 36) (.tmp 39) 22 rfl w.heap.size 5 i0 (.int .u8 0) 1 1 Try.underlying22 hi hz0 hz1 hz2 rfl (by decide) _ (L + 1) _ rfl a2 ⟨g8, 0, none⟩ 8 c8 (encI n) rfl (encI_len n) HN8.out (encI_one n) (by decide) (by unfold maxLen; omega) (by omega) (by omega) w2.heap.size rfl ?_))
        intro g2 cap2 w3 e2 hgrow hat hg2
        have b2 := grown_below C2 C2.size a2 hgrow
        have O2 : Hid (w3.ownsRow w.heap.size 5 1 (.slice (some ⟨g2, 0, none⟩) (L + 1 + 8) cap2) (L + 1 + 8) (xs ++ Value.int .u8 2 :: encI n)) := by show World.ownsRow _ _ _ _ _ _ _; simpa using e2
        clear e2 hgrow hat a2 C2 HN8
        go_wp2
        go_roundw
        case rel => exact ⟨k + 1, by omega, by go_num, g2, cap2, by rw [HF2.out], by rw [HF2.out, HF1.out]; exact O2.out, hg2, b2⟩
        case measure => simp [intOf]; omega
      · clear hok
        rcases hk2 with rfl | rfl
        · have HF1 : Hid (keyFar vs (k + 1) = xs ++ Value.int .u8 3 :: escT t) := by show _ = _; rw [HS.out]; rfl
          have HF2 : Hid ((keyFar vs (k + 1)).length = L + 1 + (escK t t.size).length + 2) := by show _ = _; rw [HLn.out]; rw [encK_text, List.length_cons, escT_len]; omega
          clear HS HLn
          have A0 : Below wr.heap.size wr ((wr.alloc (.cells #[.int .i64 3, .int .i64 n, .string t] 24)).alloc (.cells #[.int .u8 3] 5)) := ((Below.refl _ _).alloc (Nat.le_refl _) _).alloc (by simp) _
          have C0 : Below w.heap.size w ((wr.alloc (.cells #[.int .i64 3, .int .i64 n, .string t] 24)).alloc (.cells #[.int .u8 3] 5)) := hbl.trans (A0.mono hbl.size)
          have a1 : ((wr.alloc (.cells #[.int .i64 3, .int .i64 n, .string t] 24)).alloc (.cells #[.int .u8 3] 5)).ownsRow w.heap.size 5 1 (.slice (some ⟨g, 0, none⟩) L cap') L xs := own_below HO.out A0
          go_wp2_with (at_builtin; go_loud (refine wpList_append_lies _ rfl (.tmp 18) (.tmp 22) 22 rfl w.heap.size 5 i0 (.int .u8 0) 1 1 Try.underlying22 hi hz0 hz1 hz2 rfl (by decide) _ L _ rfl a1 ⟨wr.heap.size + 1, 0, none⟩ 1 1 [.int .u8 3] rfl rfl (news_one (by simp)) (one1 _) (by decide) (by unfold maxLen; omega) (by omega) (by simp; omega) (wr.heap.size + 2) (by simp) ?_))
          intro g1 cap1 w1 e1 hgrow hat hg1
          have b1 := grown_below C0 C0.size a1 hgrow
          have q0 : w1.cell? ⟨wr.heap.size, 0, none⟩ = some (.int .i64 3) := by rw [hgrow.cell_far _ (by simp; omega) (by simp [Value.ownBlock]; omega)]; go_simp
          have q1 : w1.cell? ⟨wr.heap.size, 1, none⟩ = some (.int .i64 n) := by rw [hgrow.cell_far _ (by simp; omega) (by simp [Value.ownBlock]; omega)]; go_simp
          have q2 : w1.cell? ⟨wr.heap.size, 2, none⟩ = some (.string t) := by rw [hgrow.cell_far _ (by simp; omega) (by simp [Value.ownBlock]; omega)]; go_simp
          have hne : g1 ≠ wr.heap.size := by
            rcases hat with h | h
            · simp [Value.ownBlock] at h; omega
            · omega
          have O1 : Hid (w1.ownsRow w.heap.size 5 1 (.slice (some ⟨g1, 0, none⟩) (L + 1) cap1) (L + 1) (xs ++ [.int .u8 3])) := e1
          have hsz1 : wr.heap.size + 2 ≤ w1.heap.size := by have := hgrow.size; simp at this; omega
          clear e1 hgrow hat a1 A0 C0
          have hws1 : w.heap.size ≤ w1.heap.size := b1.size
          have hlt1 : wr.heap.size < w1.heap.size := by omega
          clear q1
          generalize hbx : wr.heap.size = bx at *
          clear hbx
          go_wp2
          go_loopw [3, 6] (fun o i wr2 => ∃ j : Nat, j ≤ t.size ∧ i = .int .i64 j ∧ ∃ g5 cap5 M, M = L + 1 + (escK t j).length ∧ o = .slice (some ⟨g5, 0, none⟩) M cap5 ∧ Hid (wr2.ownsRow w.heap.size 5 1 (.slice (some ⟨g5, 0, none⟩) M cap5) M (xs ++ Value.int .u8 3 :: escK t j)) ∧ g5 ≠ bx ∧ g5 < wr2.heap.size ∧ wr2.cell? ⟨bx, 2, none⟩ = some (.string t) ∧ bx < wr2.heap.size ∧ Below w.heap.size w wr2) (fun _ i _ => t.size - (intOf i).toNat)
          case atStart => exact ⟨0, by omega, rfl, g1, cap1, L + 1, rfl, rfl, O1.out, hne, hg1, q2, hlt1, b1⟩
          case round =>
            clear q0 q2 hlt1 hws1
            obtain ⟨j, hj, rfl, g5, cap5, M, hM, rfl, O5, hn5, hg5, q5, hl5, b5⟩ := hrel
            have hEL := escK_len t j
            have hs5 : w.heap.size ≤ wr.heap.size := b5.size
            have hMb : M ≤ 4000 := by omega
            have HMM : Hid (M = L + 1 + (escK t j).length) := hM
            clear hM hEL
            by_cases hjt : j < t.size
            · have hjI : (j : Int) < (t.size : Int) := by omega
              by_cases hz : (t[j].toNat : Int) = 0
              · have HZ : Hid (escK t (j + 1) = escK t j ++ [.int .u8 0, .int .u8 255]) := esc_zero hjt hz
                have HZL : Hid ((escK t (j + 1)).length = (escK t j).length + 2) := by show _ = _; rw [HZ.out]; simp
                have A6 : Below wr.heap.size wr (wr.alloc (.cells #[.int .u8 0] 5)) := (Below.refl _ _).alloc (Nat.le_refl _) _
                have C6 : Below w.heap.size w (wr.alloc (.cells #[.int .u8 0] 5)) := b5.trans (A6.mono b5.size)
                have a6 : (wr.alloc (.cells #[.int .u8 0] 5)).ownsRow w.heap.size 5 1 (.slice (some ⟨g5, 0, none⟩) (M) cap5) (M) (xs ++ Value.int .u8 3 :: escK t j) := own_below O5.out A6
                have s6 : w.heap.size ≤ wr.heap.size := b5.size
                go_wp2_with (at_builtin; go_loud (refine wpList_append_lies _ rfl (.tmp 51) (.tmp 56) 22 rfl w.heap.size 5 i0 (.int .u8 0) 1 1 Try.underlying22 hi hz0 hz1 hz2 rfl (by decide) _ (M) _ rfl a6 ⟨wr.heap.size, 0, none⟩ 1 1 [.int .u8 0] rfl rfl (news_one (by simp)) (one1 _) (by decide) (by unfold maxLen; omega) (by omega) (by simp; omega) (wr.heap.size + 1) (by simp) ?_))
                intro g6 cap6 x6 e6 hgrow6 hat6 hg6
                have b6 := grown_below C6 C6.size a6 hgrow6
                have r6 : x6.cell? ⟨bx, 2, none⟩ = some (.string t) := by rw [hgrow6.cell_far _ (by simp; omega) (by simp [Value.ownBlock]; omega)]; go_simp
                have n6 : g6 ≠ bx := by
                  rcases hat6 with h | h
                  · simp [Value.ownBlock] at h; omega
                  · omega
                have z6 : bx < x6.heap.size := by have := hgrow6.size; simp at this; omega
                have O6 : Hid (x6.ownsRow w.heap.size 5 1 (.slice (some ⟨g6, 0, none⟩) (M + 1) cap6) (M + 1) (xs ++ Value.int .u8 3 :: (escK t j ++ [.int .u8 0]))) := by show World.ownsRow _ _ _ _ _ _ _; simpa using e6
                clear e6 hgrow6 hat6 a6 A6 C6
                clear q5
                have A7 : Below x6.heap.size x6 (x6.alloc (.cells #[.int .u8 255] 5)) := (Below.refl _ _).alloc (Nat.le_refl _) _
                have C7 : Below w.heap.size w (x6.alloc (.cells #[.int .u8 255] 5)) := b6.trans (A7.mono b6.size)
                have a7 : (x6.alloc (.cells #[.int .u8 255] 5)).ownsRow w.heap.size 5 1 (.slice (some ⟨g6, 0, none⟩) (M + 1) cap6) (M + 1) (xs ++ Value.int .u8 3 :: (escK t j ++ [.int .u8 0])) := own_below O6.out A7
                have s7 : w.heap.size ≤ x6.heap.size := b6.size
                go_wp2_with (at_builtin; go_loud (refine wpList_append_lies _ rfl (.tmp 63) (.tmp 64) 22 rfl w.heap.size 5 i0 (.int .u8 0) 1 1 Try.underlying22 hi hz0 hz1 hz2 rfl (by decide) _ (M + 1) _ rfl a7 ⟨x6.heap.size, 0, none⟩ 1 1 [.int .u8 255] rfl rfl (news_one (by simp)) (one1 _) (by decide) (by unfold maxLen; omega) (by omega) (by simp; omega) (x6.heap.size + 1) (by simp) ?_))
                intro g7 cap7 x7 e7 hgrow7 hat7 hg7
                have b7 := grown_below C7 C7.size a7 hgrow7
                have r7 : x7.cell? ⟨bx, 2, none⟩ = some (.string t) := by rw [hgrow7.cell_far _ (by simp; omega) (by simp [Value.ownBlock]; omega)]; go_simp
                have n7 : g7 ≠ bx := by
                  rcases hat7 with h | h
                  · simp [Value.ownBlock] at h; omega
                  · omega
                have z7 : bx < x7.heap.size := by have := hgrow7.size; simp at this; omega
                have O7 : Hid (x7.ownsRow w.heap.size 5 1 (.slice (some ⟨g7, 0, none⟩) (M + 1 + 1) cap7) (M + 1 + 1) (xs ++ Value.int .u8 3 :: (escK t j ++ [.int .u8 0, .int .u8 255]))) := by show World.ownsRow _ _ _ _ _ _ _; simpa using e7
                clear e7 hgrow7 hat7 a7 A7 C7
                clear r6
                go_wp2
                go_roundw
                case rel => exact ⟨j + 1, by omega, by go_num, g7, cap7, M + 1 + 1, by rw [HZL.out, HMM.out]; omega, rfl, by show World.ownsRow _ _ _ _ _ _ _; rw [HZ.out]; exact O7.out, n7, hg7, r7, z7, b7⟩
                case measure => simp [intOf]; omega
              · have HZ : Hid (escK t (j + 1) = escK t j ++ [.int .u8 (t[j].toNat : Int)]) := esc_other hjt hz
                have HZL : Hid ((escK t (j + 1)).length = (escK t j).length + 1) := by show _ = _; rw [HZ.out]; simp
                have A6 : Below wr.heap.size wr (wr.alloc (.cells #[.int .u8 (t[j].toNat : Int)] 5)) := (Below.refl _ _).alloc (Nat.le_refl _) _
                have C6 : Below w.heap.size w (wr.alloc (.cells #[.int .u8 (t[j].toNat : Int)] 5)) := b5.trans (A6.mono b5.size)
                have a6 : (wr.alloc (.cells #[.int .u8 (t[j].toNat : Int)] 5)).ownsRow w.heap.size 5 1 (.slice (some ⟨g5, 0, none⟩) (M) cap5) (M) (xs ++ Value.int .u8 3 :: escK t j) := own_below O5.out A6
                have s6 : w.heap.size ≤ wr.heap.size := b5.size
                go_wp2_with (at_builtin; go_loud (refine wpList_append_lies _ rfl (.tmp 51) (.tmp 56) 22 rfl w.heap.size 5 i0 (.int .u8 0) 1 1 Try.underlying22 hi hz0 hz1 hz2 rfl (by decide) _ (M) _ rfl a6 ⟨wr.heap.size, 0, none⟩ 1 1 [.int .u8 (t[j].toNat : Int)] rfl rfl (news_one (by simp)) (one1 _) (by decide) (by unfold maxLen; omega) (by omega) (by simp; omega) (wr.heap.size + 1) (by simp) ?_))
                intro g6 cap6 x6 e6 hgrow6 hat6 hg6
                have b6 := grown_below C6 C6.size a6 hgrow6
                have r6 : x6.cell? ⟨bx, 2, none⟩ = some (.string t) := by rw [hgrow6.cell_far _ (by simp; omega) (by simp [Value.ownBlock]; omega)]; go_simp
                have n6 : g6 ≠ bx := by
                  rcases hat6 with h | h
                  · simp [Value.ownBlock] at h; omega
                  · omega
                have z6 : bx < x6.heap.size := by have := hgrow6.size; simp at this; omega
                have O6 : Hid (x6.ownsRow w.heap.size 5 1 (.slice (some ⟨g6, 0, none⟩) (M + 1) cap6) (M + 1) (xs ++ Value.int .u8 3 :: (escK t j ++ [.int .u8 (t[j].toNat : Int)]))) := by show World.ownsRow _ _ _ _ _ _ _; simpa using e6
                clear e6 hgrow6 hat6 a6 A6 C6
                clear q5
                go_wp2
                go_roundw
                case rel => exact ⟨j + 1, by omega, by go_num, g6, cap6, M + 1, by rw [HZL.out, HMM.out]; omega, rfl, by show World.ownsRow _ _ _ _ _ _ _; rw [HZ.out]; exact O6.out, n6, hg6, r6, z6, b6⟩
                case measure => simp [intOf]; omega
            · obtain rfl : j = t.size := by omega
              have A8 : Below wr.heap.size wr (wr.alloc (.cells #[.int .u8 0, .int .u8 1] 5)) := (Below.refl _ _).alloc (Nat.le_refl _) _
              have C8 : Below w.heap.size w (wr.alloc (.cells #[.int .u8 0, .int .u8 1] 5)) := b5.trans (A8.mono b5.size)
              have a8 : (wr.alloc (.cells #[.int .u8 0, .int .u8 1] 5)).ownsRow w.heap.size 5 1 (.slice (some ⟨g5, 0, none⟩) M cap5) M (xs ++ Value.int .u8 3 :: escK t t.size) := own_below O5.out A8
              have s8 : w.heap.size ≤ wr.heap.size := b5.size
              go_wp2_with (at_builtin; go_loud (refine wpList_append_lies _ rfl (.tmp 66) (.tmp 67) 22 rfl w.heap.size 5 i0 (.int .u8 0) 1 1 Try.underlying22 hi hz0 hz1 hz2 rfl (by decide) _ M _ rfl a8 ⟨wr.heap.size, 0, none⟩ 2 2 [.int .u8 0, .int .u8 1] rfl rfl news_two (two1 _ _) (by decide) (by unfold maxLen; omega) (by omega) (by simp; omega) (wr.heap.size + 1) (by simp) ?_))
              intro g8 cap8 x8 e8 hgrow8 hat8 hg8
              have b8 := grown_below C8 C8.size a8 hgrow8
              have O8 : Hid (x8.ownsRow w.heap.size 5 1 (.slice (some ⟨g8, 0, none⟩) (M + 2) cap8) (M + 2) (xs ++ Value.int .u8 3 :: escT t)) := by show World.ownsRow _ _ _ _ _ _ _; unfold escT; simpa using e8
              have HM : Hid (L + 1 + (escK t t.size).length + 2 = M + 2) := by have := HMM.out; show _ = _; omega
              clear e8 hgrow8 hat8 a8 A8 C8 q5
              go_wp2
              go_roundw
              case rel => exact ⟨k + 1, by omega, by go_num, g8, cap8, by rw [HF2.out, HM.out], by rw [HF2.out, HM.out, HF1.out]; exact O8.out, hg8, b8⟩
              case measure => simp [intOf]; omega
        · have HF1 : Hid (keyFar vs (k + 1) = xs ++ Value.int .u8 4 :: escT t) := by show _ = _; rw [HS.out]; rfl
          have HF2 : Hid ((keyFar vs (k + 1)).length = L + 1 + (escK t t.size).length + 2) := by show _ = _; rw [HLn.out]; rw [encK_bytes', List.length_cons, escT_len]; omega
          clear HS HLn
          have A0 : Below wr.heap.size wr ((wr.alloc (.cells #[.int .i64 4, .int .i64 n, .string t] 24)).alloc (.cells #[.int .u8 4] 5)) := ((Below.refl _ _).alloc (Nat.le_refl _) _).alloc (by simp) _
          have C0 : Below w.heap.size w ((wr.alloc (.cells #[.int .i64 4, .int .i64 n, .string t] 24)).alloc (.cells #[.int .u8 4] 5)) := hbl.trans (A0.mono hbl.size)
          have a1 : ((wr.alloc (.cells #[.int .i64 4, .int .i64 n, .string t] 24)).alloc (.cells #[.int .u8 4] 5)).ownsRow w.heap.size 5 1 (.slice (some ⟨g, 0, none⟩) L cap') L xs := own_below HO.out A0
          go_wp2_with (at_builtin; go_loud (refine wpList_append_lies _ rfl (.tmp 18) (.tmp 22) 22 rfl w.heap.size 5 i0 (.int .u8 0) 1 1 Try.underlying22 hi hz0 hz1 hz2 rfl (by decide) _ L _ rfl a1 ⟨wr.heap.size + 1, 0, none⟩ 1 1 [.int .u8 4] rfl rfl (news_one (by simp)) (one1 _) (by decide) (by unfold maxLen; omega) (by omega) (by simp; omega) (wr.heap.size + 2) (by simp) ?_))
          intro g1 cap1 w1 e1 hgrow hat hg1
          have b1 := grown_below C0 C0.size a1 hgrow
          have q0 : w1.cell? ⟨wr.heap.size, 0, none⟩ = some (.int .i64 4) := by rw [hgrow.cell_far _ (by simp; omega) (by simp [Value.ownBlock]; omega)]; go_simp
          have q1 : w1.cell? ⟨wr.heap.size, 1, none⟩ = some (.int .i64 n) := by rw [hgrow.cell_far _ (by simp; omega) (by simp [Value.ownBlock]; omega)]; go_simp
          have q2 : w1.cell? ⟨wr.heap.size, 2, none⟩ = some (.string t) := by rw [hgrow.cell_far _ (by simp; omega) (by simp [Value.ownBlock]; omega)]; go_simp
          have hne : g1 ≠ wr.heap.size := by
            rcases hat with h | h
            · simp [Value.ownBlock] at h; omega
            · omega
          have O1 : Hid (w1.ownsRow w.heap.size 5 1 (.slice (some ⟨g1, 0, none⟩) (L + 1) cap1) (L + 1) (xs ++ [.int .u8 4])) := e1
          have hsz1 : wr.heap.size + 2 ≤ w1.heap.size := by have := hgrow.size; simp at this; omega
          clear e1 hgrow hat a1 A0 C0
          have hws1 : w.heap.size ≤ w1.heap.size := b1.size
          have hlt1 : wr.heap.size < w1.heap.size := by omega
          clear q1
          generalize hbx : wr.heap.size = bx at *
          clear hbx
          go_wp2
          go_loopw [3, 6] (fun o i wr2 => ∃ j : Nat, j ≤ t.size ∧ i = .int .i64 j ∧ ∃ g5 cap5 M, M = L + 1 + (escK t j).length ∧ o = .slice (some ⟨g5, 0, none⟩) M cap5 ∧ Hid (wr2.ownsRow w.heap.size 5 1 (.slice (some ⟨g5, 0, none⟩) M cap5) M (xs ++ Value.int .u8 4 :: escK t j)) ∧ g5 ≠ bx ∧ g5 < wr2.heap.size ∧ wr2.cell? ⟨bx, 2, none⟩ = some (.string t) ∧ bx < wr2.heap.size ∧ Below w.heap.size w wr2) (fun _ i _ => t.size - (intOf i).toNat)
          case atStart => exact ⟨0, by omega, rfl, g1, cap1, L + 1, rfl, rfl, O1.out, hne, hg1, q2, hlt1, b1⟩
          case round =>
            clear q0 q2 hlt1 hws1
            obtain ⟨j, hj, rfl, g5, cap5, M, hM, rfl, O5, hn5, hg5, q5, hl5, b5⟩ := hrel
            have hEL := escK_len t j
            have hs5 : w.heap.size ≤ wr.heap.size := b5.size
            have hMb : M ≤ 4000 := by omega
            have HMM : Hid (M = L + 1 + (escK t j).length) := hM
            clear hM hEL
            by_cases hjt : j < t.size
            · have hjI : (j : Int) < (t.size : Int) := by omega
              by_cases hz : (t[j].toNat : Int) = 0
              · have HZ : Hid (escK t (j + 1) = escK t j ++ [.int .u8 0, .int .u8 255]) := esc_zero hjt hz
                have HZL : Hid ((escK t (j + 1)).length = (escK t j).length + 2) := by show _ = _; rw [HZ.out]; simp
                have A6 : Below wr.heap.size wr (wr.alloc (.cells #[.int .u8 0] 5)) := (Below.refl _ _).alloc (Nat.le_refl _) _
                have C6 : Below w.heap.size w (wr.alloc (.cells #[.int .u8 0] 5)) := b5.trans (A6.mono b5.size)
                have a6 : (wr.alloc (.cells #[.int .u8 0] 5)).ownsRow w.heap.size 5 1 (.slice (some ⟨g5, 0, none⟩) (M) cap5) (M) (xs ++ Value.int .u8 4 :: escK t j) := own_below O5.out A6
                have s6 : w.heap.size ≤ wr.heap.size := b5.size
                go_wp2_with (at_builtin; go_loud (refine wpList_append_lies _ rfl (.tmp 51) (.tmp 56) 22 rfl w.heap.size 5 i0 (.int .u8 0) 1 1 Try.underlying22 hi hz0 hz1 hz2 rfl (by decide) _ (M) _ rfl a6 ⟨wr.heap.size, 0, none⟩ 1 1 [.int .u8 0] rfl rfl (news_one (by simp)) (one1 _) (by decide) (by unfold maxLen; omega) (by omega) (by simp; omega) (wr.heap.size + 1) (by simp) ?_))
                intro g6 cap6 x6 e6 hgrow6 hat6 hg6
                have b6 := grown_below C6 C6.size a6 hgrow6
                have r6 : x6.cell? ⟨bx, 2, none⟩ = some (.string t) := by rw [hgrow6.cell_far _ (by simp; omega) (by simp [Value.ownBlock]; omega)]; go_simp
                have n6 : g6 ≠ bx := by
                  rcases hat6 with h | h
                  · simp [Value.ownBlock] at h; omega
                  · omega
                have z6 : bx < x6.heap.size := by have := hgrow6.size; simp at this; omega
                have O6 : Hid (x6.ownsRow w.heap.size 5 1 (.slice (some ⟨g6, 0, none⟩) (M + 1) cap6) (M + 1) (xs ++ Value.int .u8 4 :: (escK t j ++ [.int .u8 0]))) := by show World.ownsRow _ _ _ _ _ _ _; simpa using e6
                clear e6 hgrow6 hat6 a6 A6 C6
                clear q5
                have A7 : Below x6.heap.size x6 (x6.alloc (.cells #[.int .u8 255] 5)) := (Below.refl _ _).alloc (Nat.le_refl _) _
                have C7 : Below w.heap.size w (x6.alloc (.cells #[.int .u8 255] 5)) := b6.trans (A7.mono b6.size)
                have a7 : (x6.alloc (.cells #[.int .u8 255] 5)).ownsRow w.heap.size 5 1 (.slice (some ⟨g6, 0, none⟩) (M + 1) cap6) (M + 1) (xs ++ Value.int .u8 4 :: (escK t j ++ [.int .u8 0])) := own_below O6.out A7
                have s7 : w.heap.size ≤ x6.heap.size := b6.size
                go_wp2_with (at_builtin; go_loud (refine wpList_append_lies _ rfl (.tmp 63) (.tmp 64) 22 rfl w.heap.size 5 i0 (.int .u8 0) 1 1 Try.underlying22 hi hz0 hz1 hz2 rfl (by decide) _ (M + 1) _ rfl a7 ⟨x6.heap.size, 0, none⟩ 1 1 [.int .u8 255] rfl rfl (news_one (by simp)) (one1 _) (by decide) (by unfold maxLen; omega) (by omega) (by simp; omega) (x6.heap.size + 1) (by simp) ?_))
                intro g7 cap7 x7 e7 hgrow7 hat7 hg7
                have b7 := grown_below C7 C7.size a7 hgrow7
                have r7 : x7.cell? ⟨bx, 2, none⟩ = some (.string t) := by rw [hgrow7.cell_far _ (by simp; omega) (by simp [Value.ownBlock]; omega)]; go_simp
                have n7 : g7 ≠ bx := by
                  rcases hat7 with h | h
                  · simp [Value.ownBlock] at h; omega
                  · omega
                have z7 : bx < x7.heap.size := by have := hgrow7.size; simp at this; omega
                have O7 : Hid (x7.ownsRow w.heap.size 5 1 (.slice (some ⟨g7, 0, none⟩) (M + 1 + 1) cap7) (M + 1 + 1) (xs ++ Value.int .u8 4 :: (escK t j ++ [.int .u8 0, .int .u8 255]))) := by show World.ownsRow _ _ _ _ _ _ _; simpa using e7
                clear e7 hgrow7 hat7 a7 A7 C7
                clear r6
                go_wp2
                go_roundw
                case rel => exact ⟨j + 1, by omega, by go_num, g7, cap7, M + 1 + 1, by rw [HZL.out, HMM.out]; omega, rfl, by show World.ownsRow _ _ _ _ _ _ _; rw [HZ.out]; exact O7.out, n7, hg7, r7, z7, b7⟩
                case measure => simp [intOf]; omega
              · have HZ : Hid (escK t (j + 1) = escK t j ++ [.int .u8 (t[j].toNat : Int)]) := esc_other hjt hz
                have HZL : Hid ((escK t (j + 1)).length = (escK t j).length + 1) := by show _ = _; rw [HZ.out]; simp
                have A6 : Below wr.heap.size wr (wr.alloc (.cells #[.int .u8 (t[j].toNat : Int)] 5)) := (Below.refl _ _).alloc (Nat.le_refl _) _
                have C6 : Below w.heap.size w (wr.alloc (.cells #[.int .u8 (t[j].toNat : Int)] 5)) := b5.trans (A6.mono b5.size)
                have a6 : (wr.alloc (.cells #[.int .u8 (t[j].toNat : Int)] 5)).ownsRow w.heap.size 5 1 (.slice (some ⟨g5, 0, none⟩) (M) cap5) (M) (xs ++ Value.int .u8 4 :: escK t j) := own_below O5.out A6
                have s6 : w.heap.size ≤ wr.heap.size := b5.size
                go_wp2_with (at_builtin; go_loud (refine wpList_append_lies _ rfl (.tmp 51) (.tmp 56) 22 rfl w.heap.size 5 i0 (.int .u8 0) 1 1 Try.underlying22 hi hz0 hz1 hz2 rfl (by decide) _ (M) _ rfl a6 ⟨wr.heap.size, 0, none⟩ 1 1 [.int .u8 (t[j].toNat : Int)] rfl rfl (news_one (by simp)) (one1 _) (by decide) (by unfold maxLen; omega) (by omega) (by simp; omega) (wr.heap.size + 1) (by simp) ?_))
                intro g6 cap6 x6 e6 hgrow6 hat6 hg6
                have b6 := grown_below C6 C6.size a6 hgrow6
                have r6 : x6.cell? ⟨bx, 2, none⟩ = some (.string t) := by rw [hgrow6.cell_far _ (by simp; omega) (by simp [Value.ownBlock]; omega)]; go_simp
                have n6 : g6 ≠ bx := by
                  rcases hat6 with h | h
                  · simp [Value.ownBlock] at h; omega
                  · omega
                have z6 : bx < x6.heap.size := by have := hgrow6.size; simp at this; omega
                have O6 : Hid (x6.ownsRow w.heap.size 5 1 (.slice (some ⟨g6, 0, none⟩) (M + 1) cap6) (M + 1) (xs ++ Value.int .u8 4 :: (escK t j ++ [.int .u8 (t[j].toNat : Int)]))) := by show World.ownsRow _ _ _ _ _ _ _; simpa using e6
                clear e6 hgrow6 hat6 a6 A6 C6
                clear q5
                go_wp2
                go_roundw
                case rel => exact ⟨j + 1, by omega, by go_num, g6, cap6, M + 1, by rw [HZL.out, HMM.out]; omega, rfl, by show World.ownsRow _ _ _ _ _ _ _; rw [HZ.out]; exact O6.out, n6, hg6, r6, z6, b6⟩
                case measure => simp [intOf]; omega
            · obtain rfl : j = t.size := by omega
              have A8 : Below wr.heap.size wr (wr.alloc (.cells #[.int .u8 0, .int .u8 1] 5)) := (Below.refl _ _).alloc (Nat.le_refl _) _
              have C8 : Below w.heap.size w (wr.alloc (.cells #[.int .u8 0, .int .u8 1] 5)) := b5.trans (A8.mono b5.size)
              have a8 : (wr.alloc (.cells #[.int .u8 0, .int .u8 1] 5)).ownsRow w.heap.size 5 1 (.slice (some ⟨g5, 0, none⟩) M cap5) M (xs ++ Value.int .u8 4 :: escK t t.size) := own_below O5.out A8
              have s8 : w.heap.size ≤ wr.heap.size := b5.size
              go_wp2_with (at_builtin; go_loud (refine wpList_append_lies _ rfl (.tmp 66) (.tmp 67) 22 rfl w.heap.size 5 i0 (.int .u8 0) 1 1 Try.underlying22 hi hz0 hz1 hz2 rfl (by decide) _ M _ rfl a8 ⟨wr.heap.size, 0, none⟩ 2 2 [.int .u8 0, .int .u8 1] rfl rfl news_two (two1 _ _) (by decide) (by unfold maxLen; omega) (by omega) (by simp; omega) (wr.heap.size + 1) (by simp) ?_))
              intro g8 cap8 x8 e8 hgrow8 hat8 hg8
              have b8 := grown_below C8 C8.size a8 hgrow8
              have O8 : Hid (x8.ownsRow w.heap.size 5 1 (.slice (some ⟨g8, 0, none⟩) (M + 2) cap8) (M + 2) (xs ++ Value.int .u8 4 :: escT t)) := by show World.ownsRow _ _ _ _ _ _ _; unfold escT; simpa using e8
              have HM : Hid (L + 1 + (escK t t.size).length + 2 = M + 2) := by have := HMM.out; show _ = _; omega
              clear e8 hgrow8 hat8 a8 A8 C8 q5
              go_wp2
              go_roundw
              case rel => exact ⟨k + 1, by omega, by go_num, g8, cap8, by rw [HF2.out, HM.out], by rw [HF2.out, HM.out, HF1.out]; exact O8.out, hg8, b8⟩
              case measure => simp [intOf]; omega
    · obtain rfl : k = len := by omega
      go_wp2
      go_ret
      exact ⟨_, rfl, by rw [HE.out]; exact hown, hbl⟩
end Go.Proofs.Ytfkenogbfbbbjaa
