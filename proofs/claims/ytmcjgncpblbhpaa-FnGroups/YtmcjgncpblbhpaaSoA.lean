/- A list of rows in a block, changed in place: ranges exchanged, turned (stage 13). -/
import Derived.Test.YtmcjgncpblbhpaaPrG
namespace Go.Proofs.Ytmcjgncpblbhpaa
open Go.RowKit

def nthN (zs : List Nat) (i : Nat) : Nat := zs.getD i 0
theorem nthN_get {zs : List Nat} {i : Nat} (h : i < zs.length) : nthN zs i = zs[i] := by unfold nthN; simp [h]
theorem nthN_mid (L R : List Nat) (x : Nat) : nthN (L ++ x :: R) L.length = x := by unfold nthN; simp
/-- Rows as one cell each. -/
structure Cel where
  a : Nat → Option Addr
  l : Nat → Nat
  c : Nat → Nat
abbrev Cel.v (k : Cel) (x : Nat) : Value := .slice (k.a x) (k.l x) (k.c x)
/-- Block g has room for N rows, the first of them are those that zs names. -/
def Dat (w : World) (g N : Nat) (k : Cel) (zs : List Nat) : Prop := ∃ cur : Array Value, w.heap[g]? = some (.cells cur 28 (0, 0)) ∧ cur.size = N ∧ zs.length ≤ N ∧ ∀ i, i < zs.length → cur[i]? = some (k.v (nthN zs i))
theorem Dat.at {w w' : World} {g N : Nat} {k : Cel} {zs : List Nat} (h : Dat w g N k zs) (hb : w'.heap[g]? = w.heap[g]?) : Dat w' g N k zs := by
  obtain ⟨cur, hh, r⟩ := h
  exact ⟨cur, hb.trans hh, r⟩
theorem Dat.lt {w : World} {g N : Nat} {k : Cel} {zs : List Nat} (h : Dat w g N k zs) : g < w.heap.size := by
  obtain ⟨cur, hh, _⟩ := h
  exact slab_lt hh
theorem Dat.below {w w' : World} {g N : Nat} {k : Cel} {zs : List Nat} (h : Dat w g N k zs) (hb : Below w.heap.size w w') : Dat w' g N k zs := h.at (hb.block g h.lt)
theorem Dat.cell {w : World} {g N i : Nat} {k : Cel} {zs : List Nat} (h : Dat w g N k zs) (hi : i < zs.length) : w.cell? ⟨g, i, none⟩ = some (k.v (nthN zs i)) := by
  obtain ⟨cur, hh, _, _, hc⟩ := h
  rw [slab_cell hh]; exact hc i hi
theorem Dat.free {w : World} {g N : Nat} {k : Cel} {zs : List Nat} (h : Dat w g N k zs) (o : Nat) : w.frozen? ⟨g, o, none⟩ = false := by
  obtain ⟨cur, hh, _⟩ := h
  exact slab_free hh
theorem Dat.swap {w : World} {g N i j x y : Nat} {k : Cel} {L M R : List Nat} (h : Dat w g N k (L ++ x :: (M ++ y :: R))) (hi : i = L.length) (hj : j = L.length + 1 + M.length) :
    Dat ((w.setCell ⟨g, i, none⟩ (k.v y)).setCell ⟨g, j, none⟩ (k.v x)) g N k (L ++ y :: (M ++ x :: R)) := by
  subst hi hj
  obtain ⟨cur, hh, hs, hl, hc⟩ := h
  have e : (L ++ y :: (M ++ x :: R)).length = (L ++ x :: (M ++ y :: R)).length := by simp
  have hb : L.length + 1 + M.length < N := by simp at hl; omega
  refine ⟨_, slab_set (slab_set hh _) _, by simpa using hs, by rw [e]; exact hl, fun i hi => ?_⟩
  rw [e] at hi
  have h0 := hc i hi
  have key : ∀ (a b : Nat) (q : Nat), nthN (L ++ a :: (M ++ b :: R)) q = if q = L.length then a else if q = L.length + 1 + M.length then b else nthN (L ++ x :: (M ++ y :: R)) q := fun a b q => by
    unfold nthN
    simp only [List.getD_eq_getElem?_getD]
    rcases Nat.lt_trichotomy q L.length with h | h | h
    · rw [if_neg (by omega), if_neg (by omega), List.getElem?_append_left h, List.getElem?_append_left h]
    · subst h; simp
    · rw [if_neg (by omega), List.getElem?_append_right (by omega), List.getElem?_append_right (by omega)]
      obtain ⟨r, hr⟩ : ∃ r, q - L.length = r + 1 := ⟨q - L.length - 1, by omega⟩
      rw [hr, List.getElem?_cons_succ, List.getElem?_cons_succ]
      rcases Nat.lt_trichotomy r M.length with h' | h' | h'
      · rw [if_neg (by omega), List.getElem?_append_left h', List.getElem?_append_left h']
      · rw [if_pos (by omega)]; subst h'; simp
      · rw [if_neg (by omega), List.getElem?_append_right (by omega), List.getElem?_append_right (by omega)]
        obtain ⟨s, hs'⟩ : ∃ s, r - M.length = s + 1 := ⟨r - M.length - 1, by omega⟩
        rw [hs', List.getElem?_cons_succ, List.getElem?_cons_succ]
  rw [key]
  by_cases h2 : i = L.length + 1 + M.length
  · subst h2
    rw [Array.getElem?_setIfInBounds_self_of_lt (by simp; omega), if_neg (by omega), if_pos rfl]
  · rw [Array.getElem?_setIfInBounds_ne (by omega)]
    by_cases h1 : i = L.length
    · subst h1
      rw [Array.getElem?_setIfInBounds_self_of_lt (by omega), if_pos rfl]
    · rw [Array.getElem?_setIfInBounds_ne (by omega), if_neg h1, if_neg h2]
      exact h0
theorem kept_drew {S : Nat → Prop} {w w' : World} (h : Kept S w w') : Kept S w w'.drew := ⟨h.os, h.tape, h.output, h.size, h.block⟩
theorem kept_swap {w w' : World} {g i j : Nat} {u v : Value} (h : Kept (fun x => x = g) w w') : Kept (fun x => x = g) w ((w'.setCell ⟨g, i, none⟩ u).setCell ⟨g, j, none⟩ v) := (h.set _ rfl).set _ rfl
set_option maxRecDepth 100000 in
set_option maxHeartbeats 8000000 in
theorem swapRange_any (g N cap n : Nat) (k : Cel) (P U M V S : List Nat) (f : Value) (w : World) (h : Dat w g N k (P ++ (U ++ (M ++ (V ++ S))))) (hn : (P ++ (U ++ (M ++ (V ++ S)))).length ≤ n) (hN : n ≤ 4096) (hUV : U.length = V.length) :
    Calls Try.prog 118 #[.slice (some ⟨g, 0, none⟩) n cap, .int .i64 (P.length : Nat), .int .i64 ((P.length + U.length + M.length : Nat)), .int .i64 (U.length : Nat), f] w fun e w' => e = .returned (.tuple #[]) ∧ Dat w' g N k (P ++ (V ++ (M ++ (U ++ S)))) ∧ Kept (fun x => x = g) w w' := by
  have HH : Hid (Dat w g N k (P ++ (U ++ (M ++ (V ++ S))))) := h
  have HLn : Hid ((P ++ (U ++ (M ++ (V ++ S)))).length ≤ n) := hn
  have HUV : Hid (U.length = V.length) := hUV
  simp only [List.length_append] at hn
  obtain ⟨t, ht⟩ : ∃ t, U.length = t := ⟨_, rfl⟩
  obtain ⟨p, hp⟩ : ∃ p, P.length = p := ⟨_, rfl⟩
  obtain ⟨q, hq⟩ : ∃ q, P.length + U.length + M.length = q := ⟨_, rfl⟩
  have HP : Hid (U.length = t ∧ P.length = p ∧ p + t + M.length = q) := ⟨ht, hp, by omega⟩
  have hqn : q + t ≤ n := by omega
  have hpq : p + t ≤ q := by omega
  rw [hq, hp, ht]
  clear h hn hUV hq hp ht
  go_enter Try.func118, Try.ntmps118
  go_wp2
  go_loopw [10] (fun i wr => ∃ j : Nat, j ≤ t ∧ i = .int .i64 j ∧ Hid (Dat wr g N k (P ++ V.take j ++ (U.drop j ++ (M ++ (U.take j ++ (V.drop j ++ S))))) ∧ Kept (fun x => x = g) w wr)) (fun i _ => t - (intOf i).toNat)
  case atStart => exact ⟨0, by omega, rfl, by simpa using HH.out, Kept.refl _ _⟩
  case round =>
    obtain ⟨j, hj, rfl, HW⟩ := hrel
    by_cases hlt : j < t
    · have hltI : (j : Int) < (t : Int) := by omega
      have hju : j < U.length := by rw [HP.out.1]; exact hlt
      have hjv : j < V.length := by rw [← HUV.out]; exact hju
      have eU : U.drop j = U[j] :: U.drop (j + 1) := (List.drop_eq_getElem_cons hju)
      have eV : V.drop j = V[j] :: V.drop (j + 1) := (List.drop_eq_getElem_cons hjv)
      have hD := HW.out.1
      rw [eU, eV] at hD
      have hD2 : Dat wr g N k ((P ++ V.take j) ++ U[j] :: ((U.drop (j + 1) ++ (M ++ U.take j)) ++ V[j] :: (V.drop (j + 1) ++ S))) := by simp only [List.append_assoc, List.cons_append] at hD ⊢; exact hD
      have l1 : p + j = (P ++ V.take j).length := by rw [List.length_append, List.length_take]; have := HP.out; omega
      have l2 : q + j = (P ++ V.take j).length + 1 + (U.drop (j + 1) ++ (M ++ U.take j)).length := by simp only [List.length_append, List.length_take, List.length_drop]; have := HP.out; omega
      have hS := hD2.swap l1 l2
      have c1 := hD2.cell (i := p + j) (by rw [l1]; simp)
      have c2 := hD2.cell (i := q + j) (by rw [l2]; simp; omega)
      have n1 : nthN ((P ++ V.take j) ++ U[j] :: ((U.drop (j + 1) ++ (M ++ U.take j)) ++ V[j] :: (V.drop (j + 1) ++ S))) (p + j) = U[j] := by rw [l1]; exact nthN_mid _ _ _
      have n2 : nthN ((P ++ V.take j) ++ U[j] :: ((U.drop (j + 1) ++ (M ++ U.take j)) ++ V[j] :: (V.drop (j + 1) ++ S))) (q + j) = V[j] := by
        have := nthN_mid ((P ++ V.take j) ++ U[j] :: (U.drop (j + 1) ++ (M ++ U.take j))) (V.drop (j + 1) ++ S) V[j]
        have e1 : ((P ++ V.take j) ++ U[j] :: (U.drop (j + 1) ++ (M ++ U.take j))).length = q + j := by rw [l2]; simp; omega
        rw [e1] at this
        simp only [List.append_assoc, List.cons_append] at this ⊢
        exact this
      rw [n1] at c1
      rw [n2] at c2
      have eN : Hid ((P ++ V.take j) ++ V[j] :: ((U.drop (j + 1) ++ (M ++ U.take j)) ++ U[j] :: (V.drop (j + 1) ++ S)) = P ++ V.take (j + 1) ++ (U.drop (j + 1) ++ (M ++ (U.take (j + 1) ++ (V.drop (j + 1) ++ S))))) := by
        show _ = _
        have tU : U.take (j + 1) = U.take j ++ [U[j]] := by rw [List.take_add_one, List.getElem?_eq_getElem hju]; rfl
        have tV : V.take (j + 1) = V.take j ++ [V[j]] := by rw [List.take_add_one, List.getElem?_eq_getElem hjv]; rfl
        rw [tU, tV]
        simp only [List.append_assoc, List.cons_append, List.nil_append]
      have HS : Hid (Dat ((wr.setCell ⟨g, p + j, none⟩ (k.v V[j])).setCell ⟨g, q + j, none⟩ (k.v U[j])) g N k (P ++ V.take (j + 1) ++ (U.drop (j + 1) ++ (M ++ (U.take (j + 1) ++ (V.drop (j + 1) ++ S)))))) := eN.out ▸ hS
      have HK : Hid (Kept (fun x => x = g) w ((wr.setCell ⟨g, p + j, none⟩ (k.v V[j])).setCell ⟨g, q + j, none⟩ (k.v U[j]))) := kept_swap HW.out.2
      have hf := hD2.free
      clear eU eV hD hD2 l1 l2 hS n1 n2 eN HW
      generalize U[j] = u at *
      generalize V[j] = v at *
      have d1 : wr.drew.cell? ⟨g, p + j, none⟩ = some (k.v u) := c1
      have d2 : wr.drew.cell? ⟨g, q + j, none⟩ = some (k.v v) := c2
      have df : ∀ o, wr.drew.frozen? ⟨g, o, none⟩ = false := hf
      go_wp2_with fail
      go_region
      all_goals
        go_wp2
        go_roundw
        case rel => exact ⟨j + 1, by omega, by go_num, HS.out, kept_drew HK.out⟩
        case measure => simp [intOf]; omega
    · obtain rfl : j = t := by omega
      have HE : Hid (Dat wr g N k (P ++ (V ++ (M ++ (U ++ S)))) ∧ Kept (fun x => x = g) w wr) := by
        have h1 := HW.out.1
        rw [← HP.out.1, List.drop_length, List.take_length, HUV.out, List.drop_length, List.take_length] at h1
        simp only [List.append_assoc, List.nil_append] at h1
        exact ⟨h1, HW.out.2⟩
      clear HW
      go_wp2
      go_end0
      exact ⟨rfl, HE.out.1, HE.out.2⟩
set_option maxRecDepth 100000 in
set_option maxHeartbeats 8000000 in
theorem rotate_any (g N cap n : Nat) (k : Cel) (P X Y S : List Nat) (f : Value) (w : World) (h : Dat w g N k (P ++ (X ++ (Y ++ S)))) (hn : (P ++ (X ++ (Y ++ S))).length ≤ n) (hN : n ≤ 4096) (hX : 0 < X.length) (hY : 0 < Y.length) :
    Calls Try.prog 115 #[.slice (some ⟨g, 0, none⟩) n cap, .int .i64 (P.length : Nat), .int .i64 ((P.length + X.length : Nat)), .int .i64 ((P.length + X.length + Y.length : Nat)), f] w fun e w' => e = .returned (.tuple #[]) ∧ Dat w' g N k (P ++ (Y ++ (X ++ S))) ∧ Kept (fun x => x = g) w w' := by
  have HH : Hid (Dat w g N k (P ++ (X ++ (Y ++ S)))) := h
  have SW : Hid (∀ (P U M V S : List Nat) (w : World), Dat w g N k (P ++ (U ++ (M ++ (V ++ S)))) → (P ++ (U ++ (M ++ (V ++ S)))).length ≤ n → U.length = V.length → Calls Try.prog 118 #[.slice (some ⟨g, 0, none⟩) n cap, .int .i64 (P.length : Nat), .int .i64 ((P.length + U.length + M.length : Nat)), .int .i64 (U.length : Nat), f] w fun e w' => e = .returned (.tuple #[]) ∧ Dat w' g N k (P ++ (V ++ (M ++ (U ++ S)))) ∧ Kept (fun x => x = g) w w') := fun P U M V S w h1 h2 h3 => swapRange_any g N cap n k P U M V S f w h1 h2 hN h3
  simp only [List.length_append] at hn
  obtain ⟨x, hx⟩ : ∃ x, X.length = x := ⟨_, rfl⟩
  obtain ⟨y, hy⟩ : ∃ y, Y.length = y := ⟨_, rfl⟩
  obtain ⟨m, hm⟩ : ∃ m, P.length + X.length = m := ⟨_, rfl⟩
  obtain ⟨p, hp⟩ : ∃ p, P.length = p := ⟨_, rfl⟩
  have HP : Hid (P.length + X.length = m ∧ X.length = x ∧ Y.length = y ∧ P.length + (X.length + (Y.length + S.length)) ≤ n) := ⟨hm, hx, hy, hn⟩
  have hb : ∃ b, m + y = b := ⟨_, rfl⟩
  obtain ⟨b, hb⟩ := hb
  have e3 : P.length + X.length + Y.length = b := by omega
  have e4 : (m : Int) - (p : Int) = (x : Int) := by omega
  have e5 : (b : Int) - (m : Int) = (y : Int) := by omega
  have bn : b ≤ n := by omega
  rw [e3, hm, hp]
  clear h e3
  go_enter Try.func115, Try.ntmps115
  go_wp2
  go_loopw [10, 11] (fun i j wr => ∃ (a c : Nat), i = .int .i64 a ∧ j = .int .i64 c ∧ 0 < a ∧ 0 < c ∧ a ≤ m ∧ m + c ≤ n ∧ Hid (∃ L X' Y' R, Dat wr g N k (L ++ (X' ++ (Y' ++ R))) ∧ L ++ (Y' ++ (X' ++ R)) = P ++ (Y ++ (X ++ S)) ∧ X'.length = a ∧ Y'.length = c ∧ L.length + a = m ∧ Kept (fun x => x = g) w wr)) (fun i j _ => (intOf i).toNat + (intOf j).toNat)
  case atStart => exact ⟨x, y, rfl, rfl, by omega, by omega, by omega, by omega, P, X, Y, S, HH.out, rfl, hx, hy, by omega, Kept.refl _ _⟩
  case round =>
    obtain ⟨a, c, rfl, rfl, a0, c0, am, cm, HW⟩ := hrel
    obtain ⟨L, X', Y', R, hD, hE, hXa, hYc, hLm, hK⟩ := HW.out
    have HL : Hid ((L ++ (X' ++ (Y' ++ R))).length ≤ n) := by
      have := congrArg List.length hE
      have hh := HP.out
      simp only [List.length_append] at this ⊢
      show _ ≤ _
      omega
    obtain ⟨l, hl⟩ : ∃ l, L.length = l := ⟨_, rfl⟩
    have el : (m : Int) - (a : Int) = (l : Int) := by omega
    have lm : l + a = m := by omega
    rcases Nat.lt_trichotomy c a with hca | hca | hca
    · have hcaI : (c : Int) < (a : Int) := by omega
      have hne : ((a : Int) != (c : Int)) = true := by simp; omega
      obtain ⟨U, M, rfl, hU⟩ : ∃ U M, X' = U ++ M ∧ U.length = c := ⟨X'.take c, X'.drop c, (List.take_append_drop c X').symm, by rw [List.length_take]; omega⟩
      rw [List.length_append] at hXa
      have S1 := SW.out L U M Y' R wr (by simp only [List.append_assoc] at hD; exact hD) (by have := HL.out; simp only [List.append_assoc] at this; exact this) (by omega)
      rw [hl, hU, show l + c + M.length = m by omega] at S1
      have HN : Hid (∀ w', Dat w' g N k (L ++ (Y' ++ (M ++ (U ++ R)))) → Kept (fun x => x = g) wr w' → ∃ L X'' Y'' R, Dat w' g N k (L ++ (X'' ++ (Y'' ++ R))) ∧ L ++ (Y'' ++ (X'' ++ R)) = P ++ (Y ++ (X ++ S)) ∧ X''.length = a - c ∧ Y''.length = c ∧ L.length + (a - c) = m ∧ Kept (fun x => x = g) w w') := fun w' h1 h2 => ⟨L ++ Y', M, U, R, by simp only [List.append_assoc]; exact h1, by rw [← hE]; simp only [List.append_assoc], by omega, hU, by rw [List.length_append]; omega, hK.trans h2⟩
      have eac : (a : Int) - (c : Int) = ((a - c : Nat) : Int) := by omega
      have ac0 : 0 < a - c := by omega
      have acm : a - c ≤ m := by omega
      have dlt : a - c + c < a + c := by omega
      clear hD hE HW hK HL hXa hYc hl hU
      generalize a - c = d at *
      go_wp2_with fail
      refine S1.mono ?_
      rintro e w1 ⟨rfl, h1, h2⟩
      have HN3 : Hid (∃ L X'' Y'' R, Dat w1 g N k (L ++ (X'' ++ (Y'' ++ R))) ∧ L ++ (Y'' ++ (X'' ++ R)) = P ++ (Y ++ (X ++ S)) ∧ X''.length = d ∧ Y''.length = c ∧ L.length + d = m ∧ Kept (fun x => x = g) w w1) := HN.out w1 h1 h2
      clear HN S1 h1 h2
      go_wp2
      go_roundw
      case rel => exact ⟨d, c, by go_num, rfl, ac0, c0, acm, cm, HN3⟩
      case measure => simp [intOf]; omega
    · subst hca
      have S1 := SW.out L X' [] Y' R wr (by simpa using hD) (by simpa using HL.out) (by omega)
      rw [hl, hXa, show l + c + ([] : List Nat).length = m by simp; omega] at S1
      have HN : Hid (∀ w', Dat w' g N k (L ++ (Y' ++ ([] ++ (X' ++ R)))) → Kept (fun x => x = g) wr w' → Dat w' g N k (P ++ (Y ++ (X ++ S))) ∧ Kept (fun x => x = g) w w') := fun w' h1 h2 => ⟨by rw [← hE]; exact h1, hK.trans h2⟩
      clear hD hE HW hK HL hXa hYc hl
      go_wp2_with fail
      refine S1.mono ?_
      rintro e w1 ⟨rfl, h1, h2⟩
      have HN3 : Hid (Dat w1 g N k (P ++ (Y ++ (X ++ S))) ∧ Kept (fun x => x = g) w w1) := HN.out w1 h1 h2
      clear HN S1 h1 h2
      go_wp2
      go_end0
      exact ⟨rfl, HN3.out.1, HN3.out.2⟩
    · have hcaI : ¬ (c : Int) < (a : Int) := by omega
      have hne : ((a : Int) != (c : Int)) = true := by simp; omega
      obtain ⟨M, V, rfl, hV⟩ : ∃ M V, Y' = M ++ V ∧ V.length = a := ⟨Y'.take (c - a), Y'.drop (c - a), (List.take_append_drop _ Y').symm, by rw [List.length_drop]; omega⟩
      rw [List.length_append] at hYc
      have S1 := SW.out L X' M V R wr (by simp only [List.append_assoc] at hD; exact hD) (by have := HL.out; simp only [List.append_assoc] at this; exact this) (by omega)
      have e2 : L.length + X'.length + M.length = m + c - a := by omega
      rw [e2, hl, hXa] at S1
      have HN : Hid (∀ w', Dat w' g N k (L ++ (V ++ (M ++ (X' ++ R)))) → Kept (fun x => x = g) wr w' → ∃ L X'' Y'' R, Dat w' g N k (L ++ (X'' ++ (Y'' ++ R))) ∧ L ++ (Y'' ++ (X'' ++ R)) = P ++ (Y ++ (X ++ S)) ∧ X''.length = a ∧ Y''.length = c - a ∧ L.length + a = m ∧ Kept (fun x => x = g) w w') := fun w' h1 h2 => ⟨L, V, M, X' ++ R, h1, by rw [← hE]; simp only [List.append_assoc], hV, by omega, by omega, hK.trans h2⟩
      have eca : (c : Int) - (a : Int) = ((c - a : Nat) : Int) := by omega
      have emc : (m : Int) + (c : Int) - (a : Int) = ((m + c - a : Nat) : Int) := by omega
      have ac0 : 0 < c - a := by omega
      have acm : m + (c - a) ≤ n := by omega
      have dlt : a + (c - a) < a + c := by omega
      have mcn : m + c - a ≤ n := by omega
      clear hD hE HW hK HL hXa hYc hl hV e2
      generalize c - a = d at *
      generalize m + c - a = mc at *
      go_wp2_with fail
      refine S1.mono ?_
      rintro e w1 ⟨rfl, h1, h2⟩
      have HN3 : Hid (∃ L X'' Y'' R, Dat w1 g N k (L ++ (X'' ++ (Y'' ++ R))) ∧ L ++ (Y'' ++ (X'' ++ R)) = P ++ (Y ++ (X ++ S)) ∧ X''.length = a ∧ Y''.length = d ∧ L.length + a = m ∧ Kept (fun x => x = g) w w1) := HN.out w1 h1 h2
      clear HN S1 h1 h2
      go_wp2
      go_roundw
      case rel => exact ⟨a, d, rfl, by go_num, a0, ac0, am, acm, HN3⟩
      case measure => simp [intOf]; omega
end Go.Proofs.Ytmcjgncpblbhpaa
