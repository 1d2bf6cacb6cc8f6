/- Quoted texts as the specification reads them. -/
import Derived.Test.YtipddjgoohnalaaRvD
namespace Go.Proofs.Ytipddjgoohnalaa
open Go.RowKit

/-- A quoted text from byte k on, up to a quote that stands alone: the text, and the place behind that quote. -/
def quo (f : Nat → Int) (n k : Nat) (acc : List UInt8) : Option (List UInt8 × Nat) :=
  if k < n then
    (if f k = 39 then (if k + 1 < n ∧ f (k + 1) = 39 then quo f n (k + 2) (acc ++ [39]) else some (acc, k + 1))
    else quo f n (k + 1) (acc ++ [byt (f k)]))
  else none
termination_by n - k
theorem quo_end {f : Nat → Int} {n k : Nat} (acc : List UInt8) (h : ¬ k < n) : quo f n k acc = none := by rw [quo, if_neg h]
theorem quo_two {f : Nat → Int} {n k : Nat} (acc : List UInt8) (h : k < n) (h1 : f k = 39) (h2 : k + 1 < n ∧ f (k + 1) = 39) : quo f n k acc = quo f n (k + 2) (acc ++ [39]) := by rw [quo, if_pos h, if_pos h1, if_pos h2]
theorem quo_stop {f : Nat → Int} {n k : Nat} (acc : List UInt8) (h : k < n) (h1 : f k = 39) (h2 : ¬ (k + 1 < n ∧ f (k + 1) = 39)) : quo f n k acc = some (acc, k + 1) := by rw [quo, if_pos h, if_pos h1, if_neg h2]
theorem quo_byte {f : Nat → Int} {n k : Nat} (acc : List UInt8) (h : k < n) (h1 : ¬ f k = 39) : quo f n k acc = quo f n (k + 1) (acc ++ [byt (f k)]) := by rw [quo, if_pos h, if_neg h1]
def quoR (f : Nat → Int) (n k : Nat) : Option (List UInt8 × Nat) := if k < n ∧ f k = 39 then quo f n (k + 1) [] else none
/-- A text and the place behind it. -/
abbrev QR (o : Option (List UInt8 × Nat)) : Value := .tuple #[.string (strOf ((o.map (·.1)).getD [])), .int .i64 ((o.map (fun p => (p.2 : Int))).getD (-1))]

theorem quo_len (f : Nat → Int) (n : Nat) : ∀ (d k : Nat) (acc : List UInt8) (l : List UInt8) (e : Nat), n - k ≤ d → quo f n k acc = some (l, e) → l.length ≤ acc.length + (n - k) ∧ k < e ∧ e ≤ n ∧ f (e - 1) = 39 := by
  intro d
  induction d with
  | zero => intro k acc l e hd h; rw [quo_end acc (by omega)] at h; cases h
  | succ d ih =>
    intro k acc l e hd h
    by_cases h1 : k < n
    · by_cases h2 : f k = 39
      · by_cases h3 : k + 1 < n ∧ f (k + 1) = 39
        · rw [quo_two acc h1 h2 h3] at h
          have := ih (k + 2) _ l e (by omega) h
          rw [List.length_append] at this
          simp only [List.length_cons, List.length_nil] at this
          exact ⟨by omega, by omega, this.2.2.1, this.2.2.2⟩
        · rw [quo_stop acc h1 h2 h3] at h
          cases h
          exact ⟨by omega, by omega, by omega, h2⟩
      · rw [quo_byte acc h1 h2] at h
        have := ih (k + 1) _ l e (by omega) h
        rw [List.length_append] at this
        simp only [List.length_cons, List.length_nil] at this
        exact ⟨by omega, by omega, this.2.2.1, this.2.2.2⟩
    · rw [quo_end acc h1] at h; cases h

/-- Both readings of a quoted text, where its last byte is a quote. -/
theorem quo_unq (f : Nat → Int) (n a m : Nat) (hn : a + m + 1 = n) (hl : f (n - 1) = 39) : ∀ (d k : Nat) (acc : List UInt8), m - k ≤ d → k ≤ m →
    (∀ l, unq (fun i => f (a + i)) m k acc = some l → quo f n (a + k) acc = some (l, n)) ∧ (unq (fun i => f (a + i)) m k acc = none → ∀ l, quo f n (a + k) acc ≠ some (l, n)) := by
  intro d
  induction d with
  | zero =>
    intro k acc hd hk
    obtain rfl : k = m := by omega
    have e1 : unq (fun i => f (a + i)) k k acc = some acc := unq_end acc (by omega)
    have e2 : quo f n (a + k) acc = some (acc, n) := by
      have e3 : a + k = n - 1 := by omega
      rw [quo_stop acc (by omega) (by rw [e3]; exact hl) (by omega)]
      have e4 : a + k + 1 = n := by omega
      rw [e4]
    rw [e1, e2]
    exact ⟨fun l h => by cases h; rfl, fun h => by cases h⟩
  | succ d ih =>
    intro k acc hd hk
    by_cases hkm : k = m
    · exact ih k acc (by omega) hk
    · have h1 : k < m := by omega
      have h1' : a + k < n := by omega
      by_cases h2 : f (a + k) = 39
      · by_cases h3 : k + 1 < m ∧ f (a + (k + 1)) = 39
        · have h3' : a + k + 1 < n ∧ f (a + k + 1) = 39 := ⟨by omega, h3.2⟩
          rw [unq_two (f := fun i => f (a + i)) acc h1 h2 h3, quo_two acc h1' h2 h3']
          exact ih (k + 2) _ (by omega) (by omega)
        · rw [unq_bad (f := fun i => f (a + i)) acc h1 h2 h3]
          refine ⟨fun l h => (by cases h), fun _ l hq => ?_⟩
          by_cases h4 : k + 1 < m
          · have h5 : ¬ (a + k + 1 < n ∧ f (a + k + 1) = 39) := fun h => h3 ⟨h4, h.2⟩
            rw [quo_stop acc h1' h2 h5] at hq
            cases hq
            omega
          · have e3 : a + k + 1 = n - 1 := by omega
            rw [quo_two acc h1' h2 ⟨by omega, by rw [e3]; exact hl⟩, quo_end _ (by omega)] at hq
            cases hq
      · rw [unq_byte (f := fun i => f (a + i)) acc h1 h2, quo_byte acc h1' h2]
        exact ih (k + 1) _ (by omega) (by omega)

set_option maxRecDepth 100000 in
set_option maxHeartbeats 4000000 in
theorem l01Quoted_any (s : ByteArray) (a : Nat) (w : World) (hs : s.size ≤ 65536) (ha : a ≤ 1) :
    Calls Try.prog 98 #[.string s, .int .i64 a] w fun e w' => e = .returned (QR (quoR (byteAt s) s.size a)) ∧ Below w.heap.size w w' := by
  by_cases h0 : a < s.size
  · have hb := byteAt_eq s a h0
    obtain ⟨c, hcv⟩ : ∃ c : Int, ((s[a]'h0).toNat : Int) = c := ⟨_, rfl⟩
    rw [hcv] at hb
    have h0I : ¬ (s.size : Int) ≤ (a : Int) := by omega
    have h0J : (a : Int) < (s.size : Int) := by omega
    by_cases hc : c = 39
    · have H : Hid (quoR (byteAt s) s.size a = quo (byteAt s) s.size (a + 1) []) := if_pos ⟨h0, by rw [hb]; exact hc⟩
      subst hc
      clear hb
      obtain ⟨i0, hi, hz0, hz1, hz2⟩ := info_parts info5
      have B0 : Below w.heap.size w (w.alloc (.cells #[] 5)) := (Below.refl _ _).alloc (Nat.le_refl _) _
      have O0 : (w.alloc (.cells #[] 5)).ownsRow w.heap.size 5 1 (.slice (some ⟨w.heap.size, 0, none⟩) 0 0) 0 [] := own_empty5 (Nat.le_refl _)
      go_enter Try.func98, Try.ntmps98
      go_wp2
      go_loopw [6, 7] (fun v i wr => ∃ (k : Nat) (l : List UInt8), k ≤ s.size ∧ l.length ≤ k ∧ i = .int .i64 k ∧ wr.ownsRow w.heap.size 5 1 v l.length (Lib.byteCells l) ∧ Hid (quo (byteAt s) s.size (a + 1) [] = quo (byteAt s) s.size k l) ∧ Below w.heap.size w wr) (fun _ i _ => s.size - (intOf i).toNat)
      case atStart => exact ⟨a + 1, [], by omega, Nat.zero_le _, by go_num, O0, rfl, B0⟩
      case round =>
        clear O0 B0
        obtain ⟨k, l, hk, hl, rfl, hO, HG, hbl⟩ := hrel
        have HO : Hid (wr.ownsRow w.heap.size 5 1 u6 l.length (Lib.byteCells l)) := hO
        clear hO
        have hS1 : w.heap.size ≤ wr.heap.size := hbl.size
        by_cases hlt : k < s.size
        · have hltI : (k : Int) < (s.size : Int) := by omega
          have hb := byteAt_eq s k hlt
          obtain ⟨v0, v1⟩ := byteAt_bd s k
          obtain ⟨v, hv⟩ : ∃ v : Int, ((s[k]'hlt).toNat : Int) = v := ⟨_, rfl⟩
          rw [hv] at hb
          rw [hb] at v0 v1
          have HV : Hid (byteAt s k = v) := hb
          clear hb
          by_cases h39 : v = 39
          · by_cases hlt2 : k + 1 < s.size
            · have hlt2I : (k : Int) + 1 < (s.size : Int) := by omega
              have hb2 := byteAt_eq s (k + 1) hlt2
              obtain ⟨u, hu⟩ : ∃ u : Int, ((s[k + 1]'hlt2).toNat : Int) = u := ⟨_, rfl⟩
              rw [hu] at hb2
              by_cases hu39 : u = 39
              · have HG2 : Hid (quo (byteAt s) s.size (a + 1) [] = quo (byteAt s) s.size (k + 2) (l ++ [39])) := by show _ = _; rw [HG.out, quo_two l hlt (by rw [HV.out]; exact h39) ⟨hlt2, by rw [hb2]; exact hu39⟩]
                subst h39 hu39
                clear hb2 HG HV
                go_wp2_with (at_builtin; refine wpList_append_own _ rfl _ _ 22 rfl w.heap.size 5 i0 (.int .u8 0) 1 1 Try.underlying22 hi hz0 hz1 hz2 rfl (by decide) _ _ _ rfl (HO.out.alloc _) ⟨wr.heap.size, 0, none⟩ 1 1 [.int .u8 39] rfl rfl (cell_one_new _ _ _) (one1 _) ?m1 ?m2 ?m3 ?_)
                case m1 => unfold maxLen; omega
                case m2 => omega
                case m3 => first | exact hS1 | exact Nat.le_trans hS1 ((Below.refl _ _).alloc (Nat.le_refl _) _).size | omega | (simp; omega)
                intro v' w3 ho3 g3 _
                have HO3 : Hid (w3.ownsRow w.heap.size 5 1 v' (l ++ [39]).length (Lib.byteCells (l ++ [39]))) := by
                  show World.ownsRow _ _ _ _ _ _ _
                  rw [cells_snoc, List.length_append]
                  exact ho3
                have hB3 := grown_belowN (hbl.alloc hbl.size _) (hbl.alloc hbl.size _).size (HO.out.alloc _) g3
                clear ho3 g3
                go_wp2
                go_roundw
                case rel => exact ⟨k + 2, l ++ [39], by omega, by rw [List.length_append]; show _ + 1 ≤ _; omega, by go_num, HO3.out, HG2, hB3⟩
                case measure => simp [intOf]; omega
              · have HN : Hid (quoR (byteAt s) s.size a = some (l, k + 1)) := by show _ = _; rw [H.out, HG.out, quo_stop l hlt (by rw [HV.out]; exact h39) (fun h => hu39 (by rw [← hb2]; exact h.2))]
                have hu1 : (u == 39) = false := beq_eq_false_iff_ne.2 hu39
                subst h39
                obtain ⟨a3, c3, e3, hr3⟩ := own_readL HO.out
                have hcv2 := conv_text wr a3 l.length c3 _ hr3
                rw [txt_list] at hcv2
                rw [e3] at *
                obtain ⟨ln, hln⟩ : ∃ ln, l.length = ln := ⟨_, rfl⟩
                rw [hln] at hcv2 ⊢
                clear hr3 hb2 HG HV
                go_wp2
                go_ret2
                rw [HN.out]
                exact ⟨by go_num, hbl⟩
            · have HN : Hid (quoR (byteAt s) s.size a = some (l, k + 1)) := by show _ = _; rw [H.out, HG.out, quo_stop l hlt (by rw [HV.out]; exact h39) (fun h => hlt2 h.1)]
              have hlt2I : ¬ (k : Int) + 1 < (s.size : Int) := by omega
              subst h39
              obtain ⟨a3, c3, e3, hr3⟩ := own_readL HO.out
              have hcv2 := conv_text wr a3 l.length c3 _ hr3
              rw [txt_list] at hcv2
              rw [e3] at *
              obtain ⟨ln, hln⟩ : ∃ ln, l.length = ln := ⟨_, rfl⟩
              rw [hln] at hcv2 ⊢
              clear hr3 HG HV
              go_wp2
              go_ret2
              rw [HN.out]
              exact ⟨by go_num, hbl⟩
          · have HG2 : Hid (quo (byteAt s) s.size (a + 1) [] = quo (byteAt s) s.size (k + 1) (l ++ [byt v])) := by show _ = _; rw [HG.out, quo_byte l hlt (by rw [HV.out]; exact h39), HV.out]
            have hv1 : (v == 39) = false := beq_eq_false_iff_ne.2 h39
            clear HG HV
            go_wp2_with (at_builtin; refine wpList_append_own _ rfl _ _ 22 rfl w.heap.size 5 i0 (.int .u8 0) 1 1 Try.underlying22 hi hz0 hz1 hz2 rfl (by decide) _ _ _ rfl (HO.out.alloc _) ⟨wr.heap.size, 0, none⟩ 1 1 [.int .u8 v] rfl rfl (cell_one_new _ _ _) (one1 _) ?m1 ?m2 ?m3 ?_)
            case m1 => unfold maxLen; omega
            case m2 => omega
            case m3 => first | exact hS1 | exact Nat.le_trans hS1 ((Below.refl _ _).alloc (Nat.le_refl _) _).size | omega | (simp; omega)
            intro v' w3 ho3 g3 _
            have HO3 : Hid (w3.ownsRow w.heap.size 5 1 v' (l ++ [byt v]).length (Lib.byteCells (l ++ [byt v]))) := by
              show World.ownsRow _ _ _ _ _ _ _
              rw [cells_snoc, List.length_append, byt_nat v0 v1]
              exact ho3
            have hB3 := grown_belowN (hbl.alloc hbl.size _) (hbl.alloc hbl.size _).size (HO.out.alloc _) g3
            clear ho3 g3
            go_wp2
            go_roundw
            case rel => exact ⟨k + 1, l ++ [byt v], by omega, by rw [List.length_append]; show _ + 1 ≤ _; omega, by go_num, HO3.out, HG2, hB3⟩
            case measure => simp [intOf]; omega
        · have HN : Hid (quoR (byteAt s) s.size a = none) := by show _ = _; rw [H.out, HG.out, quo_end l hlt]
          go_wp2
          go_ret2
          rw [HN.out]
          exact ⟨rfl, hbl⟩
    · have H : Hid (quoR (byteAt s) s.size a = none) := if_neg (fun h => hc (by rw [← hb]; exact h.2))
      have hc1 : (c == 39) = false := beq_eq_false_iff_ne.2 hc
      clear hb
      go_enter Try.func98, Try.ntmps98
      go_wp2
      go_ret2
      rw [H.out]
      exact ⟨rfl, Below.refl _ _⟩
  · have H : Hid (quoR (byteAt s) s.size a = none) := if_neg (fun h => h0 h.1)
    have h0I : (s.size : Int) ≤ (a : Int) := by omega
    go_enter Try.func98, Try.ntmps98
    go_wp2
    go_ret2
    rw [H.out]
    exact ⟨rfl, Below.refl _ _⟩
end Go.Proofs.Ytipddjgoohnalaa
