/- A row is read back from its key bytes: plain mathematics. -/
import Derived.Test.YtfkenogbfbbbjaaFkB
import Derived.Test.YtfkenogbfbbbjaaRkC
namespace Go.Proofs.Ytfkenogbfbbbjaa
open Go.RowKit

/-- The bytes from 0 on are those of the list. -/
def Agr (f : Nat → Int) (l : List Int) : Prop := ∀ i, i < l.length → f i = l.getD i 0
theorem Agr.head {f : Nat → Int} {a : Int} {l : List Int} (h : Agr f (a :: l)) : f 0 = a := h 0 (by simp)
theorem Agr.tail {f : Nat → Int} {a : Int} {l : List Int} (h : Agr f (a :: l)) : Agr (shB f 1) l := fun i hi => by
  have := h (i + 1) (by simp; omega)
  show f (1 + i) = _
  rw [Nat.add_comm 1 i, this]
  rfl
theorem Agr.drop {f : Nat → Int} {A B : List Int} (h : Agr f (A ++ B)) : Agr (shB f A.length) B := fun i hi => by
  have := h (A.length + i) (by rw [List.length_append]; omega)
  show f (A.length + i) = _
  rw [this, List.getD_eq_getElem?_getD, List.getD_eq_getElem?_getD, List.getElem?_append_right (by omega)]
  congr 2
  omega
theorem byt_back (b : UInt8) : byt (b.toNat : Int) = b := by
  unfold byt
  simp
theorem esc_back {f : Nat → Int} {r : List Int} : ∀ (L : List Int) (k : Nat) (acc : List UInt8), (∀ x ∈ L, 0 ≤ x ∧ x ≤ 255) → Agr (shB f k) (escI L ++ r) → keyGo f (k + (escI L ++ r).length) k acc = (acc ++ L.map byt, k + (escI L).length)
  | [], k, acc, _, h => by
    have e0 : f k = 0 := by have := h 0 (by simp [escI]); simpa [shB, escI] using this
    have e1 : f (k + 1) = 1 := by have := h 1 (by simp [escI]); simpa [shB, escI] using this
    rw [keyGo_stop acc (by simp [escI]) e0 (by simp [escI]) e1]
    simp [escI]
  | b :: L, k, acc, hL, h => by
    have hL' : ∀ x ∈ L, 0 ≤ x ∧ x ≤ 255 := fun x hx => hL x (List.mem_cons_of_mem _ hx)
    by_cases hb : b = 0
    · subst hb
      have ee : escI (0 :: L) = 0 :: 255 :: escI L := by show (if (0 : Int) = 0 then _ else _) = _; rw [if_pos rfl]
      rw [ee] at h ⊢
      have e0 : f k = 0 := by have := h.head; simpa [shB] using this
      have e1 : f (k + 1) = 255 := by have := h.tail.head; simpa [shB] using this
      have h2 : Agr (shB f (k + 2)) (escI L ++ r) := by
        have := h.tail.tail
        rw [shB_shB, shB_shB] at this
        exact this
      have el : k + (0 :: 255 :: escI L ++ r).length = k + 2 + (escI L ++ r).length := by simp; omega
      rw [keyGo_zero acc (by simp) e0 (by simp) e1, el, esc_back L (k + 2) _ hL' h2]
      have eb : byt 0 = 0 := rfl
      simp [eb]
      omega
    · have ee : escI (b :: L) = b :: escI L := by show (if b = 0 then _ else _) = _; rw [if_neg hb]
      rw [ee] at h ⊢
      have e0 : f k = b := by have := h.head; simpa [shB] using this
      have h2 : Agr (shB f (k + 1)) (escI L ++ r) := by
        have := h.tail
        rw [shB_shB] at this
        exact this
      have el : k + (b :: escI L ++ r).length = k + 1 + (escI L ++ r).length := by simp; omega
      rw [keyGo_byte acc (by simp) (by rw [e0]; exact hb), el, esc_back L (k + 1) _ hL' h2, e0]
      simp
      omega
theorem escI_len (L : List Int) : 2 ≤ (escI L).length := by
  induction L with
  | nil => simp [escI]
  | cons b L ih => unfold escI; split <;> simp <;> omega
theorem sh_eq (f : Nat → Int) : (fun i => f (1 + i)) = shB f 1 := rfl
theorem cell_back {f : Nat → Int} {v : V3} {r : List Int} (hv : Right v) (h : Agr f (encC v ++ r)) : cellRd keyTx f (encC v ++ r).length = (v, ((encC v).length : Int)) := by
  obtain ⟨k, n, t⟩ := v
  obtain ⟨ov, iv⟩ := hv
  have ov : okV k n t = true := ov
  have iv : In64 n := iv
  have f0 : f 0 = k := by
    have : encC (k, n, t) ++ r = k :: ((if k = 1 then [n] else if k = 2 then intI n else if k = 3 ∨ k = 4 then escI (bytesI t) else []) ++ r) := rfl
    rw [this] at h
    exact h.head
  have te : t.toList = [] → t = ⟨#[]⟩ := fun h => toList_inj (h.trans (by rw [ByteArray.toList_eq]))
  rcases ok_split ov with ⟨rfl, a2, a3⟩ | ⟨rfl, a2, a3, a4⟩ | ⟨rfl, a2⟩ | ⟨a1, a2⟩
  · have ee : encC (0, n, t) = [0] := by simp [encC]
    rw [ee]
    unfold cellRd
    rw [if_pos f0, a2, te a3]
    rfl
  · have ee : encC (1, n, t) = [1, n] := by simp [encC]
    rw [ee] at h ⊢
    have f1 : f 1 = n := by have := h 1 (by simp); simpa using this
    unfold cellRd
    rw [if_neg (by omega), if_pos f0, if_pos ⟨by simp, by omega⟩, f1, te a4]
    rfl
  · have ee : encC (2, n, t) = 2 :: intI n := by simp [encC]
    rw [ee] at h ⊢
    have hi : int8 (fun i => f (1 + i)) = n := by
      have hu := uX_eq n iv.1 iv.2
      have i1 : (-9223372036854775808 : Int) ≤ n := iv.1
      have i2 : n ≤ (9223372036854775807 : Int) := iv.2
      have g : ∀ i, i < 8 → f (1 + i) = (intI n).getD i 0 := fun i hi => by
        have := h (1 + i) (by simp [intI]; omega)
        rw [this, Nat.add_comm 1 i]
        show ((intI n) ++ r).getD i 0 = _
        rw [List.getD_eq_getElem?_getD, List.getD_eq_getElem?_getD, List.getElem?_append_left (by simp [intI]; omega)]
      have g0 := g 0 (by omega)
      have g1 := g 1 (by omega)
      have g2 := g 2 (by omega)
      have g3 := g 3 (by omega)
      have g4 := g 4 (by omega)
      have g5 := g 5 (by omega)
      have g6 := g 6 (by omega)
      have g7 := g 7 (by omega)
      unfold intI at g0 g1 g2 g3 g4 g5 g6 g7
      rw [hu] at g0 g1 g2 g3 g4 g5 g6 g7
      simp only [List.getD_cons_zero, List.getD_cons_succ] at g0 g1 g2 g3 g4 g5 g6 g7
      unfold int8
      have es : sumB (fun i => f (1 + i)) 8 = ((((((f (1 + 0) * 256 + f (1 + 1)) * 256 + f (1 + 2)) * 256 + f (1 + 3)) * 256 + f (1 + 4)) * 256 + f (1 + 5)) * 256 + f (1 + 6)) * 256 + f (1 + 7) := by simp [sumB]
      rw [es, g0, g1, g2, g3, g4, g5, g6, g7]
      clear g g0 g1 g2 g3 g4 g5 g6 g7 es hu h
      have hn : n = n + 9223372036854775808 - 9223372036854775808 := by omega
      generalize n + 9223372036854775808 = u at *
      have u0 : 0 ≤ u := by omega
      have u1 : u < 18446744073709551616 := by omega
      clear i1 i2
      have r0 : u = u / 256 * 256 + u % 256 := by omega
      have r1 : u / 256 = u / 65536 * 256 + u / 256 % 256 := by omega
      have r2 : u / 65536 = u / 16777216 * 256 + u / 65536 % 256 := by omega
      have r3 : u / 16777216 = u / 4294967296 * 256 + u / 16777216 % 256 := by omega
      have r4 : u / 4294967296 = u / 1099511627776 * 256 + u / 4294967296 % 256 := by omega
      have r5 : u / 1099511627776 = u / 281474976710656 * 256 + u / 1099511627776 % 256 := by omega
      have r6 : u / 281474976710656 = u / 72057594037927936 * 256 + u / 281474976710656 % 256 := by omega
      have r7 : u / 72057594037927936 % 256 = u / 72057594037927936 := by omega
      rw [r7, ← r6, ← r5, ← r4, ← r3, ← r2, ← r1, ← r0]
      omega
    unfold cellRd
    rw [if_neg (by omega), if_neg (by omega), if_pos f0, if_pos (by simp [intI]), hi, te a2]
    rfl
  · subst a2
    have ee : encC (k, 0, t) = k :: escI (bytesI t) := by rcases a1 with rfl | rfl <;> simp [encC]
    rw [ee] at h ⊢
    have hk := esc_back (f := shB f 1) (r := r) (bytesI t) 0 [] (bytesI_bd t) (by
      have := h.tail
      rw [shB_shB]
      exact this)
    have el : (k :: escI (bytesI t) ++ r).length - 1 = 0 + (escI (bytesI t) ++ r).length := by simp
    have ht : (⟨((bytesI t).map byt).toArray⟩ : ByteArray) = t := by
      unfold bytesI
      rw [List.map_map]
      have : (byt ∘ fun b : UInt8 => (b.toNat : Int)) = id := by funext b; exact byt_back b
      rw [this, List.map_id]
    have hkt : keyTx (fun i => f (1 + i)) ((k :: escI (bytesI t) ++ r).length - 1) = (t, ((escI (bytesI t)).length : Int)) := by
      unfold keyTx
      rw [sh_eq, el, hk]
      simp only [List.nil_append, Nat.zero_add]
      rw [ht]
    have hsz : t.size ≤ 60 := by
      unfold okV at ov
      rw [if_neg (by omega), if_neg (by omega), if_neg (by omega), if_pos a1, Bool.and_eq_true] at ov
      have := of_decide_eq_true ov.2
      omega
    have h2 := escI_len (bytesI t)
    unfold cellRd
    rw [if_neg (by omega), if_neg (by omega), if_neg (by omega), if_pos (by rw [f0]; exact a1), hkt, if_pos ⟨by simp only; omega, hsz⟩, f0]
    simp
    omega
theorem encC_pos (v : V3) : 0 < (encC v).length := by unfold encC; simp
theorem cells_back : ∀ (vs : List V3) (j : Nat) (f : Nat → Int), vs.length ≤ j → (∀ v ∈ vs, Right v) → Agr f (encR vs) → cellsRd keyTx j f (encR vs).length = some vs
  | [], j, f, _, _, _ => cellsRd_zero _ _ _
  | v :: vs, 0, f, hl, _, _ => by simp at hl
  | v :: vs, j + 1, f, hl, hr, h => by
    have e1 : encR (v :: vs) = encC v ++ encR vs := rfl
    rw [e1] at h ⊢
    have hc := cell_back (hr v (List.mem_cons_self ..)) h
    have hp := encC_pos v
    have hz : (cellRd keyTx f (encC v ++ encR vs).length).2 ≠ 0 := by rw [hc]; simp only; omega
    rw [cellsRd_next j (by rw [List.length_append]; omega) hz, hc]
    have e2 : ((encC v).length : Int).toNat = (encC v).length := by simp
    have e3 : (encC v ++ encR vs).length - (encC v).length = (encR vs).length := by rw [List.length_append]; omega
    simp only
    rw [e2, e3, cells_back vs j _ (by simpa using hl) (fun x hx => hr x (List.mem_cons_of_mem _ hx)) h.drop]
    rfl
theorem byteVal_is (l : List Int) (i : Nat) : byteVal (l.map (Value.int .u8)) i = l.getD i 0 := by
  unfold byteVal
  rw [List.getElem?_map, List.getD_eq_getElem?_getD]
  cases l[i]? <;> rfl
theorem key_back {vs : List V3} (hl : vs.length ≤ 8) (hr : ∀ v ∈ vs, Right v) (hn : (encKey vs).length ≤ 65536) : keyR (byteVal (encKey vs)) (encKey vs).length = (0, vs) := by
  have e : byteVal (encKey vs) = fun i => (encR vs).getD i 0 := by funext i; rw [encKey_is, byteVal_is]
  have el : (encKey vs).length = (encR vs).length := by rw [encKey_is, List.length_map]
  unfold keyR
  rw [if_neg (by omega), el, cells_back vs 8 _ hl hr (fun i _ => by rw [e])]
end Go.Proofs.Ytfkenogbfbbbjaa
