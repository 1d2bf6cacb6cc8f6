/- Quoted texts as impl reads them. -/
import Derived.Test.YtipddjgoohnalaaRvC
namespace Go.Proofs.Ytipddjgoohnalaa
open Go.RowKit

def strOf (l : List UInt8) : ByteArray := ⟨l.toArray⟩
/-- A text and whether there is one. -/
abbrev TxR (o : Option ByteArray) : Value := .tuple #[.string (o.getD ⟨#[]⟩), .bool o.isSome]
/-- What stands between two quotes. -/
def btw (s : ByteArray) : Option ByteArray := if 2 ≤ s.size ∧ byteAt s 0 = 39 ∧ byteAt s (s.size - 1) = 39 then some (s.extract 1 (s.size - 1)) else none
/-- A text in which each quote stands twice, from byte k on. -/
def unq (f : Nat → Int) (m k : Nat) (acc : List UInt8) : Option (List UInt8) :=
  if k < m then
    (if f k = 39 then (if k + 1 < m ∧ f (k + 1) = 39 then unq f m (k + 2) (acc ++ [39]) else none)
    else unq f m (k + 1) (acc ++ [byt (f k)]))
  else some acc
termination_by m - k
theorem unq_end {f : Nat → Int} {m k : Nat} (acc : List UInt8) (h : ¬ k < m) : unq f m k acc = some acc := by rw [unq, if_neg h]
theorem unq_two {f : Nat → Int} {m k : Nat} (acc : List UInt8) (h : k < m) (h1 : f k = 39) (h2 : k + 1 < m ∧ f (k + 1) = 39) : unq f m k acc = unq f m (k + 2) (acc ++ [39]) := by rw [unq, if_pos h, if_pos h1, if_pos h2]
theorem unq_bad {f : Nat → Int} {m k : Nat} (acc : List UInt8) (h : k < m) (h1 : f k = 39) (h2 : ¬ (k + 1 < m ∧ f (k + 1) = 39)) : unq f m k acc = none := by rw [unq, if_pos h, if_pos h1, if_neg h2]
theorem unq_byte {f : Nat → Int} {m k : Nat} (acc : List UInt8) (h : k < m) (h1 : ¬ f k = 39) : unq f m k acc = unq f m (k + 1) (acc ++ [byt (f k)]) := by rw [unq, if_pos h, if_neg h1]

set_option maxRecDepth 100000 in
set_option maxHeartbeats 4000000 in
theorem between_any (s : ByteArray) (w : World) (hs : s.size ≤ 65536) :
    Calls Try.prog 112 #[.string s] w fun e w' => e = .returned (TxR (btw s)) ∧ w' = w := by
  by_cases h2 : (s.size : Int) < 2
  · have H : Hid (btw s = none) := if_neg (fun h => by omega)
    go_enter Try.func112, Try.ntmps112
    go_wp2
    go_ret2
    rw [H.out]
    exact ⟨rfl, rfl⟩
  have hpos : 0 < s.size := by omega
  have hposI : (0 : Int) < (s.size : Int) := by omega
  obtain ⟨j, hj⟩ : ∃ j, s.size - 1 = j := ⟨_, rfl⟩
  have hjl : j < s.size := by omega
  have hjI : (j : Int) < (s.size : Int) := by omega
  have hsub : (s.size : Int) - 1 = (j : Int) := by omega
  have hb := byteAt_eq s 0 hpos
  have hbj := byteAt_eq s j hjl
  obtain ⟨c, hcv⟩ : ∃ c : Int, ((s[0]'hpos).toNat : Int) = c := ⟨_, rfl⟩
  obtain ⟨d, hdv⟩ : ∃ d : Int, ((s[j]'hjl).toNat : Int) = d := ⟨_, rfl⟩
  rw [hcv] at hb
  rw [hdv] at hbj
  have H1 : Hid (¬ (c = 39 ∧ d = 39) → btw s = none) := fun h => if_neg (fun hh => h ⟨by rw [← hb]; exact hh.2.1, by rw [← hbj, ← hj]; exact hh.2.2⟩)
  have H2 : Hid (c = 39 ∧ d = 39 → btw s = some (s.extract 1 j)) := fun h => by unfold btw; rw [if_pos ⟨by omega, by rw [hb]; exact h.1, by rw [hj, hbj]; exact h.2⟩, hj]
  clear hb hbj hj
  by_cases hc : c = 39
  · by_cases hd : d = 39
    · have H : Hid (btw s = some (s.extract 1 j)) := H2.out ⟨hc, hd⟩
      have h1j : (1 : Int) ≤ (j : Int) := by omega
      have hjs : (j : Int) ≤ (s.size : Int) := by omega
      subst hc hd
      clear H1 H2
      go_enter Try.func112, Try.ntmps112
      go_wp2
      go_ret2
      rw [H.out]
      exact ⟨rfl, rfl⟩
    · have H : Hid (btw s = none) := H1.out (fun h => hd h.2)
      have hd1 : (d == 39) = false := beq_eq_false_iff_ne.2 hd
      subst hc
      clear H1 H2
      go_enter Try.func112, Try.ntmps112
      go_wp2
      go_ret2
      rw [H.out]
      exact ⟨rfl, rfl⟩
  · have H : Hid (btw s = none) := H1.out (fun h => hc h.1)
    have hc1 : (c == 39) = false := beq_eq_false_iff_ne.2 hc
    clear H1 H2
    go_enter Try.func112, Try.ntmps112
    go_wp2
    go_ret2
    rw [H.out]
    exact ⟨rfl, rfl⟩

theorem btw_size {s t : ByteArray} (h : btw s = some t) : t.size ≤ s.size := by
  unfold btw at h
  split at h
  · cases h
    rw [ByteArray.size_extract]
    omega
  · cases h
/-- What impl.unquote makes of a text. -/
def unqV (s : ByteArray) : Option ByteArray := (btw s).bind fun t => (unq (byteAt t) t.size 0 []).map strOf

set_option maxRecDepth 100000 in
set_option maxHeartbeats 4000000 in
theorem unquote_any (s : ByteArray) (w : World) (hs : s.size ≤ 65536) :
    Calls Try.prog 101 #[.string s] w fun e w' => e = .returned (TxR (unqV s)) ∧ Below w.heap.size w w' := by
  have hbt := between_any s w hs
  obtain ⟨o, ho⟩ : ∃ o, btw s = o := ⟨_, rfl⟩
  rw [ho] at hbt
  cases o with
  | none =>
    have H : Hid (unqV s = none) := by show _ = _; unfold unqV; rw [ho]; rfl
    clear ho
    go_enter Try.func101, Try.ntmps101
    go_wp2_with fail
    refine hbt.mono ?_
    rintro e w' ⟨rfl, hq⟩
    obtain rfl := hq.symm
    clear hbt
    go_wp2
    go_ret2
    rw [H.out]
    exact ⟨rfl, Below.refl _ _⟩
  | some t =>
    have hts : t.size ≤ 65536 := Nat.le_trans (btw_size ho) hs
    have H : Hid (unqV s = (unq (byteAt t) t.size 0 []).map strOf) := by show _ = _; unfold unqV; rw [ho]; rfl
    clear ho
    have hF : Hid (Bld w.heap.size w.heap.size (Lib.byteCells []) (w.alloc (.cells #[.pointer none, .slice none 0 0] 67))) := Lib.fresh_isBuilder 67 5 w
    have hB0 : Below w.heap.size w (w.alloc (.cells #[.pointer none, .slice none 0 0] 67)) := (Below.refl _ _).alloc (Nat.le_refl _) _
    go_enter Try.func101, Try.ntmps101
    go_wp2_with fail
    refine hbt.mono ?_
    rintro e w' ⟨rfl, hq⟩
    obtain rfl := hq.symm
    clear hbt
    go_wp2
    go_loopw [7] (fun i wr => ∃ (k : Nat) (l : List UInt8), k ≤ t.size ∧ l.length ≤ k ∧ i = .int .i64 k ∧ Hid (Bld w.heap.size w.heap.size (Lib.byteCells l) wr) ∧ Hid (unq (byteAt t) t.size 0 [] = unq (byteAt t) t.size k l) ∧ Below w.heap.size w wr) (fun i _ => t.size - (intOf i).toNat)
    case atStart => exact ⟨0, [], by omega, Nat.le_refl _, rfl, hF.out, rfl, hB0⟩
    case round =>
      clear hF hB0
      obtain ⟨k, l, hk, hl, rfl, HK, HG, hbl⟩ := hrel
      have hsz : w.heap.size ≤ wr.heap.size := hbl.size
      by_cases hlt : k < t.size
      · have hltI : (k : Int) < (t.size : Int) := by omega
        have hb := byteAt_eq t k hlt
        obtain ⟨v0, v1⟩ := byteAt_bd t k
        obtain ⟨v, hv⟩ : ∃ v : Int, ((t[k]'hlt).toNat : Int) = v := ⟨_, rfl⟩
        rw [hv] at hb
        rw [hb] at v0 v1
        have HV : Hid (byteAt t k = v) := hb
        have HLB : Hid ((Lib.byteCells l).length ≤ 100000) := by show _ ≤ _; rw [Lib.byteCells_length]; omega
        clear hb
        by_cases h39 : v = 39
        · by_cases hlt2 : k + 1 < t.size
          · have hlt2I : (k : Int) + 1 < (t.size : Int) := by omega
            have hne2 : ((k : Int) + 1 == (t.size : Int)) = false := beq_eq_false_iff_ne.2 (by omega)
            have hb2 := byteAt_eq t (k + 1) hlt2
            obtain ⟨u, hu⟩ : ∃ u : Int, ((t[k + 1]'hlt2).toNat : Int) = u := ⟨_, rfl⟩
            rw [hu] at hb2
            by_cases hu39 : u = 39
            · have HG2 : Hid (unq (byteAt t) t.size 0 [] = unq (byteAt t) t.size (k + 2) (l ++ [39])) := by show _ = _; rw [HG.out, unq_two l hlt (by rw [HV.out]; exact h39) ⟨hlt2, by rw [hb2]; exact hu39⟩]
              subst h39 hu39
              clear hb2 HG HV
              go_wp2_with fail
              refine (writeByte_any w.heap.size w.heap.size _ 39 wr HK.out HLB.out hsz).mono ?_
              rintro e w2 ⟨rfl, g2, d2⟩
              have Hn : Hid (Bld w.heap.size w.heap.size (Lib.byteCells (l ++ [39])) w2) := by
                have e1 : Lib.byteCells (l ++ [39]) = Lib.byteCells l ++ [.int .u8 39] := by
                  show List.map _ _ = _
                  rw [List.map_append]
                  rfl
                show Bld _ _ _ _
                rw [e1]
                exact g2
              have hB2 := hbl.trans d2
              clear g2 d2 hbl HK
              go_wp2
              go_roundw
              case rel => exact ⟨k + 2, l ++ [39], by omega, by rw [List.length_append]; show _ + 1 ≤ _; omega, by go_num, Hn.out, HG2.out, hB2⟩
              case measure => simp [intOf]; omega
            · have HN : Hid (unqV s = none) := by show _ = _; rw [H.out, HG.out, unq_bad l hlt (by rw [HV.out]; exact h39) (fun h => hu39 (by rw [← hb2]; exact h.2))]; rfl
              have hu1 : (u == 39) = false := beq_eq_false_iff_ne.2 hu39
              subst h39
              clear hb2 HG HV HK
              go_wp2
              go_ret2
              rw [HN.out]
              exact ⟨rfl, hbl⟩
          · have HN : Hid (unqV s = none) := by show _ = _; rw [H.out, HG.out, unq_bad l hlt (by rw [HV.out]; exact h39) (fun h => hlt2 h.1)]; rfl
            have he2 : (k : Int) + 1 = (t.size : Int) := by omega
            subst h39
            clear HG HV HK
            go_wp2
            go_ret2
            rw [HN.out]
            exact ⟨rfl, hbl⟩
        · have HG2 : Hid (unq (byteAt t) t.size 0 [] = unq (byteAt t) t.size (k + 1) (l ++ [byt v])) := by show _ = _; rw [HG.out, unq_byte l hlt (by rw [HV.out]; exact h39), HV.out]
          have hv1 : (v == 39) = false := beq_eq_false_iff_ne.2 h39
          clear HG HV
          go_wp2_with fail
          refine (writeByte_any w.heap.size w.heap.size _ v wr HK.out HLB.out hsz).mono ?_
          rintro e w2 ⟨rfl, g2, d2⟩
          have Hn : Hid (Bld w.heap.size w.heap.size (Lib.byteCells (l ++ [byt v])) w2) := by
            have e1 : Lib.byteCells (l ++ [byt v]) = Lib.byteCells l ++ [.int .u8 v] := by
              show List.map _ _ = _
              rw [List.map_append]
              show _ ++ [Value.int .u8 ((byt v).toNat : Int)] = _
              rw [byt_nat v0 v1]
              rfl
            show Bld _ _ _ _
            rw [e1]
            exact g2
          have hB2 := hbl.trans d2
          clear g2 d2 hbl HK
          go_wp2
          go_roundw
          case rel => exact ⟨k + 1, l ++ [byt v], by omega, by rw [List.length_append]; show _ + 1 ≤ _; omega, by go_num, Hn.out, HG2.out, hB2⟩
          case measure => simp [intOf]; omega
      · have HN : Hid (unqV s = some (strOf l)) := by show _ = _; rw [H.out, HG.out, unq_end l hlt]; rfl
        go_wp2_with fail
        refine (Try.Builder_String_any w.heap.size w.heap.size l wr HK.out hsz).mono ?_
        rintro e w2 ⟨rfl, d2⟩
        have hB2 := hbl.trans d2
        clear d2 hbl HK HG
        go_wp2
        go_ret2
        rw [HN.out]
        exact ⟨rfl, hB2⟩
end Go.Proofs.Ytipddjgoohnalaa
