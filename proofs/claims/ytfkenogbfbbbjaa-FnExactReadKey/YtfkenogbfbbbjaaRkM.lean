/- A key's cells as both sides read them, their bytes and their lengths: plain mathematics. -/
import Derived.Test.YtfkenogbfbbbjaaRkD
import Derived.Test.YtfkenogbfbbbjaaRdG
import Derived.Test.YtfkenogbfbbbjaaRkE
import Derived.Test.YtfkenogbfbbbjaaRkC
import Derived.Test.YtfkenogbfbbbjaaRdJ
import Derived.Test.YtfkenogbfbbbjaaKeyD
namespace Go.Proofs.Ytfkenogbfbbbjaa
open Go.RowKit

/-- The bytes from i on, below z. -/
def bysV (g : Nat → Int) (i z : Nat) : List Value := (List.range' i (z - i)).map fun j => Value.int .u8 (g j)
theorem bysV_cons {g : Nat → Int} {i z : Nat} (h : i < z) : bysV g i z = .int .u8 (g i) :: bysV g (i + 1) z := by
  unfold bysV
  obtain ⟨d, hd⟩ : ∃ d, z - i = d + 1 := ⟨z - i - 1, by omega⟩
  have e : z - (i + 1) = d := by omega
  rw [hd, e, List.range'_succ, List.map_cons]
theorem bysV_nil (g : Nat → Int) (i : Nat) : bysV g i i = [] := by unfold bysV; rw [Nat.sub_self]; rfl
theorem byt_zero {x : Int} (h0 : 0 ≤ x) (h1 : x ≤ 255) (h : ¬ x = 0) : ¬ byt x = 0 := fun e => by
  have := byt_nat h0 h1
  rw [e] at this
  exact h this.symm

/-- Both sides read a key's text alike, and its bytes are those that were read. -/
theorem kt_alike {f : Nat → Int} {n o : Nat} (hf : Bys f n) (ho : o ≤ n) : ∀ (d i : Nat) (acc : List UInt8), n - (o + i) ≤ d → o + i ≤ n →
    (0 < (keyGo (shB f o) (n - o) i acc).2 ∧ ktGo f n (o + i) acc = ((keyGo (shB f o) (n - o) i acc).1, o + (keyGo (shB f o) (n - o) i acc).2, false) ∧
      (keyGo (shB f o) (n - o) i acc).1.flatMap esc1 ++ [.int .u8 0, .int .u8 1] = acc.flatMap esc1 ++ bysV (shB f o) i (keyGo (shB f o) (n - o) i acc).2 ∧ i < (keyGo (shB f o) (n - o) i acc).2) ∨
    ((keyGo (shB f o) (n - o) i acc).2 = 0 ∧ (ktGo f n (o + i) acc).2.2 = true ∧ (ktGo f n (o + i) acc).2.1 ≤ n)
  | d, i, acc, hd, hi => by
    by_cases h : o + i < n
    · obtain ⟨v0, v1⟩ := hf (o + i) h
      have h' : i < n - o := by omega
      by_cases h0 : f (o + i) = 0
      · have h0' : shB f o i = 0 := h0
        by_cases h1 : o + i + 1 < n
        · have h1' : i + 1 < n - o := by omega
          have e1 : shB f o (i + 1) = f (o + i + 1) := rfl
          by_cases h2 : f (o + i + 1) = 1
          · left
            rw [keyGo_stop acc h' h0' h1' (e1.trans h2), ktGo_stop acc h h0 h1 h2]
            refine ⟨by simp only; omega, rfl, ?_, by simp only; omega⟩
            simp only
            rw [bysV_cons (by omega), bysV_cons (by omega), bysV_nil, h0', e1, h2]
          · by_cases h3 : f (o + i + 1) = 255
            · rw [keyGo_zero acc h' h0' h1' (e1.trans h3), ktGo_zero acc h h0 h1 h3]
              cases d with
              | zero => omega
              | succ d =>
                have ih := kt_alike hf ho d (i + 2) (acc ++ [0]) (by omega) (by omega)
                rcases ih with ⟨p1, p2, p3, p4⟩ | ⟨p1, p2, p3⟩
                · left
                  refine ⟨p1, p2, ?_, by omega⟩
                  rw [p3, bysV_cons (i := i) (by omega), bysV_cons (i := i + 1) (by omega), h0', e1, h3, List.flatMap_append]
                  simp [esc1]
                · exact .inr ⟨p1, p2, p3⟩
            · right
              rw [keyGo_bad acc h' h0' (fun x => h2 (e1.symm.trans x.2)) (fun x => h3 (e1.symm.trans x.2)), ktGo_bad acc h h0 h1 h2 h3]
              exact ⟨rfl, rfl, by simp only; omega⟩
        · right
          rw [keyGo_bad acc h' h0' (fun x => by omega) (fun x => by omega), ktGo_cut acc h h0 h1]
          exact ⟨rfl, rfl, by simp only; omega⟩
      · have h0' : ¬ shB f o i = 0 := h0
        have e0 : shB f o i = f (o + i) := rfl
        rw [keyGo_byte acc h' h0', ktGo_byte acc h h0, e0]
        cases d with
        | zero => omega
        | succ d =>
          have ih := kt_alike hf ho d (i + 1) (acc ++ [byt (f (o + i))]) (by omega) (by omega)
          rcases ih with ⟨p1, p2, p3, p4⟩ | ⟨p1, p2, p3⟩
          · left
            refine ⟨p1, p2, ?_, by omega⟩
            rw [p3, bysV_cons (i := i) (by omega), List.flatMap_append, e0]
            have hb : esc1 (byt (f (o + i))) = [.int .u8 (f (o + i))] := by unfold esc1; rw [if_neg (byt_zero v0 v1 h0), byt_nat v0 v1]
            simp [hb]
          · exact .inr ⟨p1, p2, p3⟩
    · right
      rw [keyGo_end acc (by omega), ktGo_end acc h]
      exact ⟨rfl, rfl, by simp only; omega⟩

/-- What the two readings of a cell have to do with one another, and with its bytes. -/
def KAlike (f : Nat → Int) (n o : Nat) (p : V3 × Nat × Bool) (q : V3 × Int) : Prop :=
  (∃ z : Nat, 0 < z ∧ q.2 = z ∧ p = (q.1, o + z, false) ∧ okV3 q.1 = true ∧ encK q.1 = bysV (shB f o) 0 z ∧ o + z ≤ n) ∨ (q.2 = 0 ∧ (p.2.2 = true ∨ okV3 p.1 = false) ∧ p.2.1 ≤ n)
theorem sh_one (f : Nat → Int) (o : Nat) : (fun i => shB f o (1 + i)) = shB f (o + 1) := by
  funext i
  show f (o + (1 + i)) = f (o + 1 + i)
  congr 1
  omega
theorem bysV_sh (f : Nat → Int) (o z : Nat) : ∀ i, bysV (shB f (o + 1)) i z = bysV (shB f o) (i + 1) (z + 1) := fun i => by
  unfold bysV
  have e : z + 1 - (i + 1) = z - i := by omega
  rw [e]
  have h : List.range' (i + 1) (z - i) = (List.range' i (z - i)).map (· + 1) := by rw [List.range'_eq_map_range, List.range'_eq_map_range, List.map_map]; apply List.map_congr_left; intro a _; show i + 1 + a = i + a + 1; omega
  rw [h, List.map_map]
  apply List.map_congr_left
  intro a _
  show Value.int .u8 (f (o + 1 + a)) = Value.int .u8 (f (o + (a + 1)))
  have : o + 1 + a = o + (a + 1) := by omega
  rw [this]
theorem encI_back {g : Nat → Int} (h : Bys g 8) : encI (int8 g) = bysV g 0 8 := by
  obtain ⟨s0, s1⟩ := sumB_bd h 8 (Nat.le_refl _)
  have hp : (256 : Int) ^ 8 = 18446744073709551616 := by decide
  rw [hp] at s1
  have hu : uX (int8 g) = sumB g 8 := by
    unfold int8
    rw [uX_eq _ (by omega) (by omega)]
    omega
  have e : sumB g 8 = ((((((g 0 * 256 + g 1) * 256 + g 2) * 256 + g 3) * 256 + g 4) * 256 + g 5) * 256 + g 6) * 256 + g 7 := by
    simp [sumB]
  have h0 := h 0 (by omega)
  have h1 := h 1 (by omega)
  have h2 := h 2 (by omega)
  have h3 := h 3 (by omega)
  have h4 := h 4 (by omega)
  have h5 := h 5 (by omega)
  have h6 := h 6 (by omega)
  have h7 := h 7 (by omega)
  have hr : bysV g 0 8 = [.int .u8 (g 0), .int .u8 (g 1), .int .u8 (g 2), .int .u8 (g 3), .int .u8 (g 4), .int .u8 (g 5), .int .u8 (g 6), .int .u8 (g 7)] := rfl
  unfold encI
  rw [hu, hr, e]
  generalize g 0 = a0 at *
  generalize g 1 = a1 at *
  generalize g 2 = a2 at *
  generalize g 3 = a3 at *
  generalize g 4 = a4 at *
  generalize g 5 = a5 at *
  generalize g 6 = a6 at *
  generalize g 7 = a7 at *
  clear s0 s1 hu hr e hp h
  have d0 : (((((((a0 * 256 + a1) * 256 + a2) * 256 + a3) * 256 + a4) * 256 + a5) * 256 + a6) * 256 + a7) / 72057594037927936 % 256 = a0 := by omega
  have d1 : (((((((a0 * 256 + a1) * 256 + a2) * 256 + a3) * 256 + a4) * 256 + a5) * 256 + a6) * 256 + a7) / 281474976710656 % 256 = a1 := by omega
  have d2 : (((((((a0 * 256 + a1) * 256 + a2) * 256 + a3) * 256 + a4) * 256 + a5) * 256 + a6) * 256 + a7) / 1099511627776 % 256 = a2 := by omega
  have d3 : (((((((a0 * 256 + a1) * 256 + a2) * 256 + a3) * 256 + a4) * 256 + a5) * 256 + a6) * 256 + a7) / 4294967296 % 256 = a3 := by omega
  have d4 : (((((((a0 * 256 + a1) * 256 + a2) * 256 + a3) * 256 + a4) * 256 + a5) * 256 + a6) * 256 + a7) / 16777216 % 256 = a4 := by omega
  have d5 : (((((((a0 * 256 + a1) * 256 + a2) * 256 + a3) * 256 + a4) * 256 + a5) * 256 + a6) * 256 + a7) / 65536 % 256 = a5 := by omega
  have d6 : (((((((a0 * 256 + a1) * 256 + a2) * 256 + a3) * 256 + a4) * 256 + a5) * 256 + a6) * 256 + a7) / 256 % 256 = a6 := by omega
  have d7 : (((((((a0 * 256 + a1) * 256 + a2) * 256 + a3) * 256 + a4) * 256 + a5) * 256 + a6) * 256 + a7) % 256 = a7 := by omega
  rw [d0, d1, d2, d3, d4, d5, d6, d7]
theorem esc_list (l : List UInt8) : escT ⟨l.toArray⟩ = l.flatMap esc1 ++ [.int .u8 0, .int .u8 1] := by
  unfold escT escK
  have : (l.take (⟨l.toArray⟩ : ByteArray).size) = l := List.take_of_length_le (Nat.le_of_eq (by show l.length = l.toArray.size; simp))
  show (l.take (⟨l.toArray⟩ : ByteArray).size).flatMap esc1 ++ _ = _
  rw [this]

theorem kCell_alike {f : Nat → Int} {n o : Nat} (hf : Bys f n) (h : o < n) : KAlike f n o (kCell f n o) (cellRd keyTx (shB f o) (n - o)) := by
  obtain ⟨v0, v1⟩ := hf o h
  have e0 : shB f o 0 = f o := by simp [shB]
  have e1 : shB f o 1 = f (o + 1) := rfl
  by_cases k0 : f o = 0
  · left
    have hs : kCell f n o = ((0, 0, ⟨#[]⟩), o + 1, false) := by unfold kCell; rw [if_neg (by omega), if_neg (by omega), if_neg (by omega), k0]
    have hc : cellRd keyTx (shB f o) (n - o) = ((0, 0, ⟨#[]⟩), 1) := by unfold cellRd; rw [e0, if_pos k0]
    rw [hs, hc]
    refine ⟨1, by omega, rfl, rfl, ?_, ?_, by omega⟩
    · show okV 0 0 ⟨#[]⟩ = true
      unfold okV
      rw [if_pos rfl, ok_empty]
      rfl
    · rw [bysV_cons (by omega), bysV_nil, e0, k0]
      rfl
  by_cases k1 : f o = 1
  · by_cases h2 : o + 1 < n
    · obtain ⟨w0, w1⟩ := hf (o + 1) h2
      have hs : kCell f n o = ((1, f (o + 1), ⟨#[]⟩), o + 1 + 1, false) := by unfold kCell; rw [if_pos k1, oneR_go f h2]
      by_cases h3 : f (o + 1) ≤ 1
      · left
        have hc : cellRd keyTx (shB f o) (n - o) = ((1, f (o + 1), ⟨#[]⟩), 2) := by unfold cellRd; rw [e0, e1, if_neg k0, if_pos k1, if_pos ⟨by omega, h3⟩]
        rw [hs, hc]
        refine ⟨2, by omega, rfl, rfl, ?_, ?_, by omega⟩
        · show okV 1 (f (o + 1)) ⟨#[]⟩ = true
          unfold okV inB
          rw [if_neg (by omega), if_pos rfl, ok_empty, Bool.and_true]
          exact decide_eq_true ⟨w0, h3⟩
        · rw [bysV_cons (by omega), bysV_cons (by omega), bysV_nil, e0, k1, e1]
          rfl
      · right
        have hc : cellRd keyTx (shB f o) (n - o) = ((0, 0, ⟨#[]⟩), 0) := by unfold cellRd; rw [e0, e1, if_neg k0, if_pos k1, if_neg (fun x => h3 x.2)]
        rw [hs, hc]
        refine ⟨rfl, .inr ?_, by simp only; omega⟩
        show okV 1 (f (o + 1)) ⟨#[]⟩ = false
        unfold okV inB
        rw [if_neg (by omega), if_pos rfl, ok_empty, Bool.and_true]
        exact decide_eq_false (fun x => h3 x.2)
    · right
      have hs : kCell f n o = ((1, 0, ⟨#[]⟩), o + 1, true) := by unfold kCell; rw [if_pos k1, oneR_end f (show n ≤ o + 1 by omega)]
      have hc : cellRd keyTx (shB f o) (n - o) = ((0, 0, ⟨#[]⟩), 0) := by unfold cellRd; rw [e0, if_neg k0, if_pos k1, if_neg (fun x => by omega)]
      rw [hs, hc]
      exact ⟨rfl, .inl rfl, by simp only; omega⟩
  by_cases k2 : f o = 2
  · have hs : kCell f n o = ((2, int8 (takeF f n 8 (o + 1, false)), ⟨#[]⟩), takeS n 8 (o + 1, false)) := by unfold kCell; rw [if_neg k1, if_pos k2]
    by_cases h2 : 8 < n - o
    · left
      have ht : takeS n 8 (o + 1, false) = (o + 1 + 8, false) := by unfold takeS; rw [if_neg (by simp; omega)]
      have hF : takeF f n 8 (o + 1, false) = shB f (o + 1) := by unfold takeF; rw [if_neg (by simp; omega)]
      have hc : cellRd keyTx (shB f o) (n - o) = ((2, int8 (shB f (o + 1)), ⟨#[]⟩), 9) := by unfold cellRd; rw [e0, if_neg k0, if_neg k1, if_pos k2, if_pos h2, sh_one]
      rw [hs, hc, ht, hF]
      refine ⟨9, by omega, rfl, rfl, ?_, ?_, by omega⟩
      · show okV 2 _ ⟨#[]⟩ = true
        unfold okV
        rw [if_neg (by omega), if_neg (by omega), if_pos rfl, ok_empty]
      · have hb : Bys (shB f (o + 1)) 8 := fun i hi => hf (o + 1 + i) (by omega)
        show Value.int .u8 2 :: encI (int8 (shB f (o + 1))) = _
        rw [encI_back hb, bysV_sh, bysV_cons (g := shB f o) (i := 0) (z := 9) (by omega), e0, k2]
    · right
      have ht : takeS n 8 (o + 1, false) = (o + 1, true) := by unfold takeS; rw [if_pos (.inr (by simp only; omega))]
      have hc : cellRd keyTx (shB f o) (n - o) = ((0, 0, ⟨#[]⟩), 0) := by unfold cellRd; rw [e0, if_neg k0, if_neg k1, if_pos k2, if_neg h2]
      rw [hs, hc, ht]
      exact ⟨rfl, .inl rfl, by simp only; omega⟩
  by_cases k3 : f o = 3 ∨ f o = 4
  · have hs : kCell f n o = ((f o, 0, ⟨(ktGo f n (o + 1) []).1.toArray⟩), (ktGo f n (o + 1) []).2) := by unfold kCell; rw [if_neg k1, if_neg k2, if_pos k3]
    have hc0 : cellRd keyTx (shB f o) (n - o) = if 0 < (keyTx (shB f (o + 1)) (n - o - 1)).2 ∧ (keyTx (shB f (o + 1)) (n - o - 1)).1.size ≤ 60 then ((f o, 0, (keyTx (shB f (o + 1)) (n - o - 1)).1), 1 + (keyTx (shB f (o + 1)) (n - o - 1)).2) else ((0, 0, ⟨#[]⟩), 0) := by
      unfold cellRd; rw [e0, if_neg k0, if_neg k1, if_neg k2, if_pos k3, sh_one]
    have en : n - o - 1 = n - (o + 1) := by omega
    have hle := keyGo_le (shB f (o + 1)) (n - (o + 1)) (n - (o + 1)) 0 [] (by omega)
    rw [en] at hc0
    have hA := kt_alike hf (show o + 1 ≤ n by omega) (n - (o + 1)) 0 [] (by omega) (by omega)
    rw [Nat.add_zero] at hA
    have hkt : keyTx (shB f (o + 1)) (n - (o + 1)) = (⟨(keyGo (shB f (o + 1)) (n - (o + 1)) 0 []).1.toArray⟩, ((keyGo (shB f (o + 1)) (n - (o + 1)) 0 []).2 : Int)) := rfl
    rw [hkt] at hc0
    clear hkt
    generalize keyGo (shB f (o + 1)) (n - (o + 1)) 0 [] = G at *
    obtain ⟨L, z⟩ := G
    simp only at hA hc0 hle
    rcases hA with ⟨p1, p2, p3, _⟩ | ⟨p1, p2, p3⟩
    · rw [p2] at hs
      have hsz : (⟨L.toArray⟩ : ByteArray).size = L.length := by show L.toArray.size = _; simp
      have hok : okV (f o) 0 ⟨L.toArray⟩ = decide ((L.length : Int) ≤ 60) := by
        unfold okV
        rw [if_neg k0, if_neg k1, if_neg k2, if_pos k3, hsz]
        rfl
      by_cases h4 : L.length ≤ 60
      · left
        rw [if_pos ⟨by omega, by rw [hsz]; exact h4⟩] at hc0
        rw [hs, hc0]
        refine ⟨1 + z, by omega, by simp, by simp only [Prod.mk.injEq, and_true, true_and]; omega, ?_, ?_, by omega⟩
        · show okV (f o) 0 _ = true
          rw [hok]
          exact decide_eq_true (by omega)
        · have hE : encK (f o, 0, ⟨L.toArray⟩) = .int .u8 (f o) :: escT ⟨L.toArray⟩ := by unfold encK; simp only; rw [if_neg k1, if_neg k2, if_pos k3]
          rw [hE, esc_list, p3, bysV_cons (g := shB f o) (i := 0) (z := 1 + z) (by omega), e0]
          have := bysV_sh f o z 0
          rw [this, Nat.add_comm z 1]
          rfl
      · right
        rw [if_neg (fun x => by have := x.2; rw [hsz] at this; exact h4 this)] at hc0
        rw [hs, hc0]
        refine ⟨rfl, .inr ?_, by simp only; omega⟩
        show okV (f o) 0 _ = false
        rw [hok]
        exact decide_eq_false (by omega)
    · right
      rw [if_neg (fun x => by have := x.1; omega)] at hc0
      rw [hs, hc0]
      exact ⟨rfl, .inl p2, p3⟩
  · right
    have hs : kCell f n o = ((f o, 0, ⟨#[]⟩), o + 1, false) := by unfold kCell; rw [if_neg k1, if_neg k2, if_neg k3]
    have hc : cellRd keyTx (shB f o) (n - o) = ((0, 0, ⟨#[]⟩), 0) := by unfold cellRd; rw [e0, if_neg k0, if_neg k1, if_neg k2, if_neg k3]
    rw [hs, hc]
    refine ⟨rfl, .inr ?_, by simp only; omega⟩
    show okV (f o) 0 _ = false
    unfold okV
    rw [if_neg k0, if_neg k1, if_neg k2, if_neg k3]

theorem bysV_add (g : Nat → Int) (o : Nat) : ∀ z, bysV g 0 o ++ bysV (shB g o) 0 z = bysV g 0 (o + z) := fun z => by
  unfold bysV
  rw [Nat.sub_zero, Nat.sub_zero, Nat.sub_zero, ← List.range'_append_1, List.map_append]
  congr 1
  have h : List.range' (0 + o) z = (List.range' 0 z).map (o + ·) := by
    rw [List.range'_eq_map_range, List.range'_eq_map_range, List.map_map]
    apply List.map_congr_left
    intro a _
    show 0 + o + a = o + (0 + a)
    omega
  rw [h, List.map_map]
  rfl
/-- How far the specification has read a key. -/
def KeyInv (f : Nat → Int) (n : Nat) (s : Nat × Bool) (vs : List V3) : Prop :=
  s.1 ≤ n ∧ ((s.2 = false ∧ vs.length ≤ 8 ∧ (∀ v ∈ vs, okV3 v = true) ∧ encKey vs = bysV f 0 s.1 ∧ cellsRd keyTx 8 f n = (cellsRd keyTx (8 - vs.length) (shB f s.1) (n - s.1)).map (vs ++ ·)) ∨
    (cellsRd keyTx 8 f n = none ∧ (s.2 = true ∨ vs.all okV3 = false ∨ 8 < vs.length)))
theorem KeyInv.start (f : Nat → Int) (n : Nat) : KeyInv f n (0, false) [] := by
  refine ⟨Nat.zero_le _, .inl ⟨rfl, by simp, fun v hv => by simp at hv, ?_, ?_⟩⟩
  · rw [bysV_nil]; rfl
  · have : shB f 0 = f := by funext i; simp [shB]
    rw [this]
    simp
theorem KeyInv.step {f : Nat → Int} {n o : Nat} {vs : List V3} (hf : Bys f n) (ho : o < n) (hl : vs.length ≤ 8) (h : KeyInv f n (o, false) vs) : KeyInv f n (kCell f n o).2 (vs ++ [(kCell f n o).1]) := by
  have hA := kCell_alike hf ho
  have hle : (kCell f n o).2.1 ≤ n := by
    rcases hA with ⟨z, _, _, e, _, _, h6⟩ | ⟨_, _, h3⟩
    · rw [e]; exact h6
    · exact h3
  refine ⟨hle, ?_⟩
  rcases h.2 with ⟨_, h1, h2, h3, h4⟩ | ⟨h1, h2⟩
  · by_cases h8 : vs.length = 8
    · right
      refine ⟨?_, .inr (.inr ?_)⟩
      · rw [h4, h8, Nat.sub_self, cellsRd_full (by simp only; omega)]; rfl
      · rw [List.length_append]; show 8 < _ + 1; omega
    · obtain ⟨j, hj⟩ : ∃ j, 8 - vs.length = j + 1 := ⟨8 - vs.length - 1, by omega⟩
      rcases hA with ⟨z, z0, hq, e, hok, henc, hz⟩ | ⟨hq, hbad, _⟩
      · left
        rw [e]
        refine ⟨rfl, ?_, ?_, ?_, ?_⟩
        · rw [List.length_append]; show _ + 1 ≤ 8; omega
        · intro v hv
          rcases List.mem_append.1 hv with hv | hv
          · exact h2 v hv
          · simp at hv; subst hv; exact hok
        · show (vs ++ [_]).flatMap encK = _
          rw [List.flatMap_append]
          show encKey vs ++ ([_].flatMap encK) = _
          rw [h3]
          simp only [List.flatMap_cons, List.flatMap_nil, List.append_nil]
          rw [henc]
          exact bysV_add f o z
        · rw [h4]
          simp only
          rw [hj, cellsRd_next j (by omega) (by rw [hq]; omega), hq]
          have e1 : ((z : Int)).toNat = z := by simp
          have e2 : 8 - (vs ++ [(cellRd keyTx (shB f o) (n - o)).1]).length = j := by rw [List.length_append]; show 8 - (_ + 1) = j; omega
          rw [e1, e2, shB_shB]
          have e3 : n - o - z = n - (o + z) := by omega
          rw [e3]
          cases cellsRd keyTx j (shB f (o + z)) (n - (o + z)) with
          | none => rfl
          | some l => simp
      · right
        refine ⟨?_, ?_⟩
        · rw [h4]
          simp only
          rw [cellsRd_bad _ (by omega) hq]
          rfl
        · rcases hbad with hb | hb
          · exact .inl hb
          · refine .inr (.inl ?_)
            rw [List.all_append]
            simp [hb]
  · right
    refine ⟨h1, ?_⟩
    rcases h2 with h2 | h2 | h2
    · cases h2
    · refine .inr (.inl ?_)
      rw [List.all_append, h2]
      rfl
    · omega
/-- What is answered in the end. -/
theorem KeyInv.done {f : Nat → Int} {n : Nat} {s : Nat × Bool} {vs : List V3} (hn : n ≤ 65536) (h : KeyInv f n s vs) (hk : s.2 = true ∨ n ≤ s.1 ∨ 8 < vs.length) :
    (s.2 = true → keyR f n = (3, [])) ∧ (s.2 = false → okRow vs = false → keyR f n = (3, [])) ∧ (s.2 = false → okRow vs = true → keyR f n = (0, vs) ∧ encKey vs = bysV f 0 n) := by
  have hnone : cellsRd keyTx 8 f n = none → keyR f n = (3, []) := fun h => by unfold keyR; rw [if_neg (by omega), h]
  obtain ⟨h0, h⟩ := h
  refine ⟨fun hb => ?_, fun hb hr => ?_, fun hb hr => ?_⟩
  · rcases h with ⟨h1, _⟩ | ⟨h1, _⟩
    · rw [hb] at h1; cases h1
    · exact hnone h1
  · rcases h with ⟨_, h1, h2, _⟩ | ⟨h1, _⟩
    · have : okRow vs = true := by
        unfold okRow
        rw [decide_eq_true h1, Bool.true_and]
        exact List.all_eq_true.2 h2
      rw [hr] at this
      cases this
    · exact hnone h1
  · unfold okRow at hr
    rw [Bool.and_eq_true] at hr
    have h8 : vs.length ≤ 8 := of_decide_eq_true hr.1
    rcases h with ⟨_, _, _, h3, h4⟩ | ⟨_, h2⟩
    · have hs : s.1 = n := by
        rcases hk with hk | hk | hk
        · rw [hb] at hk; cases hk
        · omega
        · omega
      rw [hs, Nat.sub_self, cellsRd_zero] at h4
      rw [hs] at h3
      refine ⟨?_, h3⟩
      unfold keyR
      rw [if_neg (by omega), h4]
      simp
    · rcases h2 with h2 | h2 | h2
      · rw [hb] at h2; cases h2
      · rw [hr.2] at h2; cases h2
      · omega

theorem ktGo_len (f : Nat → Int) (n : Nat) : ∀ (d o : Nat) (acc : List UInt8), n - o ≤ d → (ktGo f n o acc).1.length ≤ acc.length + (n - o) + 1 := by
  intro d
  induction d with
  | zero => intro o acc h; rw [ktGo_end acc (by omega)]; simp
  | succ d ih =>
    intro o acc h
    by_cases h1 : o < n
    · by_cases h0 : f o = 0
      · by_cases h2 : o + 1 < n
        · by_cases h3 : f (o + 1) = 1
          · rw [ktGo_stop acc h1 h0 h2 h3]; simp only; omega
          · by_cases h4 : f (o + 1) = 255
            · rw [ktGo_zero acc h1 h0 h2 h4]
              have := ih (o + 2) (acc ++ [0]) (by omega)
              rw [List.length_append] at this
              simp only [List.length_cons, List.length_nil] at this
              omega
            · rw [ktGo_bad acc h1 h0 h2 h3 h4]; simp
        · rw [ktGo_cut acc h1 h0 h2]; simp
      · rw [ktGo_byte acc h1 h0]
        have := ih (o + 1) (acc ++ [byt (f o)]) (by omega)
        rw [List.length_append] at this
        simp only [List.length_cons, List.length_nil] at this
        omega
    · rw [ktGo_end acc h1]; simp
theorem kCell_size (f : Nat → Int) (n o : Nat) (hn : n ≤ 65536) : (kCell f n o).1.2.2.size ≤ 70000 := by
  unfold kCell
  split
  · exact Nat.zero_le _
  split
  · exact Nat.zero_le _
  split
  · show (ktGo f n (o + 1) []).1.toArray.size ≤ 70000
    have := ktGo_len f n (n - (o + 1)) (o + 1) [] (Nat.le_refl _)
    simp only [List.length_nil] at this
    simp only [List.size_toArray]
    omega
  · exact Nat.zero_le _
theorem own_rowB {w : World} {B : Nat} {v : Value} {vs : List V3} (h : w.ownsRow B 24 3 v vs.length (cells3 vs)) (hs : ∀ u ∈ vs, u.2.2.size ≤ 70000) : ∃ a c, v = .slice a vs.length c ∧ RowV w a vs := by
  rcases h.2 with ⟨rfl, h0⟩ | ⟨g, cap, cur, rfl, _, hh, _, _, hcs, htk⟩
  · exact ⟨none, 0, by rw [h0], fun i hi => by omega⟩
  · refine ⟨_, _, rfl, fun i hi => ?_⟩
    have hlt : g < w.heap.size := by
      rcases Nat.lt_or_ge g w.heap.size with h' | h'
      · exact h'
      · rw [Array.getElem?_eq_none h'] at hh; cases hh
    have hg := cells3_get vs i hi
    have hc : ∀ j, j < vs.length * 3 → w.cell? ⟨g, 0 + j, none⟩ = (cells3 vs)[j]? := fun j hj => by
      rw [rowCell hh, ← htk, List.getElem?_take_of_lt hj, Nat.zero_add]
      simp
    refine ⟨g, 0, rfl, hlt, ⟨(hc _ (by omega)).trans hg.1, (hc _ (by omega)).trans hg.2.1, (hc _ (by omega)).trans hg.2.2⟩, ?_⟩
    have hm : nthV vs i ∈ vs := by
      unfold nthV
      rw [List.getD_eq_getElem?_getD, List.getElem?_eq_getElem hi]
      exact List.getElem_mem hi
    have := hs _ hm
    unfold maxLen
    omega
theorem own_readF {w : World} {B n : Nat} {v : Value} {f : Nat → Int} (h : w.ownsRow B 5 1 v n (bysV f 0 n)) : ∃ a cap, v = .slice a n cap ∧ ReadB w a n f := by
  rcases h.2 with ⟨rfl, hn⟩ | ⟨g, cap, cur, rfl, hB, hh, hc, hm, hs, ht⟩
  · exact ⟨none, 0, by rw [hn], fun i hi => by omega⟩
  · refine ⟨_, cap, rfl, fun i hi => ⟨g, 0, rfl, own_lt h g rfl, ?_⟩⟩
    have := congrArg (fun q => q[i]?) ht
    simp only [Nat.mul_one] at this
    rw [List.getElem?_take_of_lt hi] at this
    show World.cell? w ⟨g, 0 + i, none⟩ = _
    rw [Nat.zero_add]
    have e1 : w.cell? ⟨g, i, none⟩ = cur[i]? := by simp [World.cell?, hh]
    rw [e1, ← Array.getElem?_toList, this]
    unfold bysV
    rw [List.getElem?_map, List.getElem?_range' (by omega)]
    simp
theorem bysV_len (f : Nat → Int) (n : Nat) : (bysV f 0 n).length = n := by unfold bysV; simp
theorem size_snocB {vs : List V3} {x : V3} (h : ∀ v ∈ vs, v.2.2.size ≤ 70000) (ht : x.2.2.size ≤ 70000) : ∀ v ∈ vs ++ [x], v.2.2.size ≤ 70000 := fun v hv => by
  rcases List.mem_append.1 hv with hv | hv
  · exact h v hv
  · simp at hv; subst hv; exact ht
/-- The reader's flag is down, and nothing of before is changed. -/
abbrev StK (w : World) (rb : Nat) (w' : World) : Prop := w'.cell? ⟨rb, 2, none⟩ = some (.bool false) ∧ rb < w'.heap.size ∧ Below w.heap.size w w'
theorem StK.keep {w w1 w2 : World} {rb : Nat} (h : StK w rb w1) (hb : Below w1.heap.size w1 w2) : StK w rb w2 :=
  ⟨(hb.cell (p := ⟨rb, 2, none⟩) h.2.1).trans h.1, Nat.lt_of_lt_of_le h.2.1 hb.size, below_step h.2.2 (Nat.le_refl _) hb⟩
end Go.Proofs.Ytfkenogbfbbbjaa
