/- How impl reads a key's text. -/
import Derived.Test.YtfkenogbfbbbjaaRdC
import Derived.Test.YtfkenogbfbbbjaaKeyC
namespace Go.Proofs.Ytfkenogbfbbbjaa
open Go.RowKit

def byt (x : Int) : UInt8 := UInt8.ofNat x.toNat
theorem byt_nat {x : Int} (h0 : 0 ≤ x) (h1 : x ≤ 255) : ((byt x).toNat : Int) = x := by
  unfold byt
  rw [UInt8.toNat_ofNat']
  omega
/-- A key's text from byte i on: the text, and where it ends (0: it doesn't). -/
def keyGo (f : Nat → Int) (n i : Nat) (acc : List UInt8) : List UInt8 × Nat :=
  if i < n then
    (if f i = 0 then
      (if i + 1 < n ∧ f (i + 1) = 1 then (acc, i + 2)
      else if i + 1 < n ∧ f (i + 1) = 255 then keyGo f n (i + 2) (acc ++ [0])
      else ([], 0))
    else keyGo f n (i + 1) (acc ++ [byt (f i)]))
  else ([], 0)
termination_by n - i
theorem keyGo_end {f : Nat → Int} {n i : Nat} (acc : List UInt8) (h : ¬ i < n) : keyGo f n i acc = ([], 0) := by rw [keyGo, if_neg h]
theorem keyGo_byte {f : Nat → Int} {n i : Nat} (acc : List UInt8) (h : i < n) (h0 : ¬ f i = 0) : keyGo f n i acc = keyGo f n (i + 1) (acc ++ [byt (f i)]) := by rw [keyGo, if_pos h, if_neg h0]
theorem keyGo_stop {f : Nat → Int} {n i : Nat} (acc : List UInt8) (h : i < n) (h0 : f i = 0) (h1 : i + 1 < n) (h2 : f (i + 1) = 1) : keyGo f n i acc = (acc, i + 2) := by rw [keyGo, if_pos h, if_pos h0, if_pos ⟨h1, h2⟩]
theorem keyGo_zero {f : Nat → Int} {n i : Nat} (acc : List UInt8) (h : i < n) (h0 : f i = 0) (h1 : i + 1 < n) (h2 : f (i + 1) = 255) : keyGo f n i acc = keyGo f n (i + 2) (acc ++ [0]) := by
  rw [keyGo, if_pos h, if_pos h0, if_neg (by rw [h2]; simp), if_pos ⟨h1, h2⟩]
theorem keyGo_bad {f : Nat → Int} {n i : Nat} (acc : List UInt8) (h : i < n) (h0 : f i = 0) (h1 : ¬ (i + 1 < n ∧ f (i + 1) = 1)) (h2 : ¬ (i + 1 < n ∧ f (i + 1) = 255)) : keyGo f n i acc = ([], 0) := by
  rw [keyGo, if_pos h, if_pos h0, if_neg h1, if_neg h2]
theorem keyGo_le (f : Nat → Int) (n : Nat) : ∀ (d i : Nat) (acc : List UInt8), n - i ≤ d → (keyGo f n i acc).2 ≤ n
  | d, i, acc, hd => by
    by_cases h : i < n
    · by_cases h0 : f i = 0
      · by_cases h1 : i + 1 < n ∧ f (i + 1) = 1
        · rw [keyGo_stop acc h h0 h1.1 h1.2]; show i + 2 ≤ n; omega
        · by_cases h2 : i + 1 < n ∧ f (i + 1) = 255
          · rw [keyGo_zero acc h h0 h2.1 h2.2]
            cases d with
            | zero => omega
            | succ d => exact keyGo_le f n d (i + 2) _ (by omega)
          · rw [keyGo_bad acc h h0 h1 h2]; exact Nat.zero_le _
      · rw [keyGo_byte acc h h0]
        cases d with
        | zero => omega
        | succ d => exact keyGo_le f n d (i + 1) _ (by omega)
    · rw [keyGo_end acc h]; exact Nat.zero_le _
def keyTx (f : Nat → Int) (n : Nat) : ByteArray × Int := (⟨(keyGo f n 0 []).1.toArray⟩, ((keyGo f n 0 []).2 : Int))
theorem keyTx_ok : TOk keyTx := fun f n _ => by
  have := keyGo_le f n n 0 [] (by omega)
  unfold keyTx
  simp only
  omega

set_option maxRecDepth 100000 in
set_option maxHeartbeats 4000000 in
theorem readKeyText_any (a : Option Addr) (c n : Nat) (f : Nat → Int) (w : World) (h : ReadB w a n f) (hf : Bys f n) (hn : n ≤ 65536) :
    Calls Try.prog 60 #[.slice a n c] w fun e w' => e = .returned (.tuple #[.string (keyTx f n).1, .int .i64 (keyTx f n).2]) ∧ Below w.heap.size w w' := by
  have H : Hid (ReadB w a n f) := h
  have HF : Hid (Bys f n) := hf
  clear h hf
  have hF : Hid (Bld w.heap.size w.heap.size (Lib.byteCells []) (w.alloc (.cells #[.pointer none, .slice none 0 0] 67))) := Lib.fresh_isBuilder 67 5 w
  have hB0 : Below w.heap.size w (w.alloc (.cells #[.pointer none, .slice none 0 0] 67)) := (Below.refl _ _).alloc (Nat.le_refl _) _
  go_enter Try.func60, Try.ntmps60
  go_wp2
  go_loopw [5, 24, 39] (fun i _ _ wr => ∃ (k : Nat) (l : List UInt8), k ≤ n ∧ l.length ≤ k ∧ i = .int .i64 k ∧ Hid (Bld w.heap.size w.heap.size (Lib.byteCells l) wr) ∧ Hid (keyGo f n 0 [] = keyGo f n k l) ∧ Below w.heap.size w wr) (fun i _ _ _ => n - (intOf i).toNat)
  case atStart => exact ⟨0, [], by omega, Nat.le_refl _, rfl, hF.out, rfl, hB0⟩
  case round =>
    clear hF hB0
    obtain ⟨k, l, hk, hl, rfl, HK, HG, hbl⟩ := hrel
    by_cases hlt : k < n
    · obtain ⟨b, off, rfl, hlb, hc⟩ := (H.out.below hbl) k hlt
      obtain ⟨v0, v1⟩ := HF.out k hlt
      obtain ⟨v, hv⟩ : ∃ v, f k = v := ⟨_, rfl⟩
      have HV : Hid (f k = v) := hv
      rw [hv] at hc v0 v1
      clear hv
      have hltI : (k : Int) < (n : Int) := by omega
      have hsz : w.heap.size ≤ wr.heap.size := hbl.size
      have HLB : Hid ((Lib.byteCells l).length ≤ 100000) := by show _ ≤ _; rw [Lib.byteCells_length]; omega
      by_cases hz : v = 0
      · subst hz
        by_cases hlt2 : k + 1 < n
        · obtain ⟨b', off', eb, hlb', hc'⟩ := (H.out.below hbl) (k + 1) hlt2
          cases eb
          obtain ⟨u0, u1⟩ := HF.out (k + 1) hlt2
          obtain ⟨u, hu⟩ : ∃ u, f (k + 1) = u := ⟨_, rfl⟩
          have HU : Hid (f (k + 1) = u) := hu
          rw [hu] at hc' u0 u1
          clear hu
          have hlt2I : ((k : Int) + 1) < (n : Int) := by omega
          by_cases q1 : u = 1
          · subst q1
            have E : Hid (keyTx f n = (⟨l.toArray⟩, (k : Int) + 2)) := by show _ = _; unfold keyTx; rw [HG.out, keyGo_stop l hlt HV.out hlt2 HU.out]; rfl
            go_wp2_with fail
            refine (Try.Builder_String_any w.heap.size w.heap.size l wr HK.out hsz).mono ?_
            rintro e w2 ⟨rfl, d2⟩
            have hB2 := hbl.trans d2
            clear d2 hc hc' hlb hlb' hbl HK HG
            go_wp2
            go_ret2
            rw [E.out]
            exact ⟨by go_num, hB2⟩
          by_cases q2 : u = 255
          · subst q2
            go_wp2_with fail
            refine (writeByte_any w.heap.size w.heap.size _ 0 wr HK.out HLB.out hsz).mono ?_
            rintro e w2 ⟨rfl, g2, d2⟩
            have H2 : Hid (Bld w.heap.size w.heap.size (Lib.byteCells (l ++ [0])) w2) := by
              have e1 : Lib.byteCells (l ++ [0]) = Lib.byteCells l ++ [.int .u8 0] := by
                show List.map _ _ = _
                rw [List.map_append]
                rfl
              show Bld _ _ _ _
              rw [e1]
              exact g2
            have HG2 : Hid (keyGo f n 0 [] = keyGo f n (k + 2) (l ++ [0])) := by show _ = _; rw [HG.out, keyGo_zero l hlt HV.out hlt2 HU.out]
            have hB2 := hbl.trans d2
            clear g2 d2 hc hc' hlb hlb' hbl HK HG
            go_wp2
            go_roundw
            case rel => exact ⟨k + 2, l ++ [0], by omega, by rw [List.length_append]; show _ + 1 ≤ _; omega, by go_num, H2.out, HG2.out, hB2⟩
            case measure => simp [intOf]; omega
          have E : Hid (keyTx f n = (⟨#[]⟩, 0)) := by show _ = _; unfold keyTx; rw [HG.out, keyGo_bad l hlt HV.out (fun h => q1 (HU.out.symm.trans h.2)) (fun h => q2 (HU.out.symm.trans h.2))]; rfl
          go_wp2
          go_ret2
          rw [E.out]
          exact ⟨rfl, hbl⟩
        · have E : Hid (keyTx f n = (⟨#[]⟩, 0)) := by show _ = _; unfold keyTx; rw [HG.out, keyGo_bad l hlt HV.out (fun h => hlt2 h.1) (fun h => hlt2 h.1)]; rfl
          have hlt2I : ¬ ((k : Int) + 1) < (n : Int) := by omega
          go_wp2
          go_ret2
          rw [E.out]
          exact ⟨rfl, hbl⟩
      · go_wp2_with fail
        refine (writeByte_any w.heap.size w.heap.size _ v wr HK.out HLB.out hsz).mono ?_
        rintro e w2 ⟨rfl, g2, d2⟩
        have H2 : Hid (Bld w.heap.size w.heap.size (Lib.byteCells (l ++ [byt v])) w2) := by
          have e1 : Lib.byteCells (l ++ [byt v]) = Lib.byteCells l ++ [.int .u8 v] := by
            show List.map _ _ = _
            rw [List.map_append]
            show _ ++ [Value.int .u8 ((byt v).toNat : Int)] = _
            rw [byt_nat v0 v1]
            rfl
          show Bld _ _ _ _
          rw [e1]
          exact g2
        have HG2 : Hid (keyGo f n 0 [] = keyGo f n (k + 1) (l ++ [byt v])) := by show _ = _; rw [HG.out, keyGo_byte l hlt (by rw [HV.out]; exact hz), HV.out]
        have hB2 := hbl.trans d2
        clear g2 d2 hc hlb hbl HK HG
        go_wp2
        go_roundw
        case rel => exact ⟨k + 1, l ++ [byt v], by omega, by rw [List.length_append]; show _ + 1 ≤ _; omega, by go_num, H2.out, HG2.out, hB2⟩
        case measure => simp [intOf]; omega
    · have E : Hid (keyTx f n = (⟨#[]⟩, 0)) := by show _ = _; unfold keyTx; rw [HG.out, keyGo_end l hlt]; rfl
      go_wp2
      go_ret2
      rw [E.out]
      exact ⟨rfl, hbl⟩
end Go.Proofs.Ytfkenogbfbbbjaa
