/- Rows sorted by insertion (stage 13). -/
import Derived.Test.YtmcjgncpblbhpaaSoM
import Derived.BigQuiet
namespace Go.Proofs.Ytmcjgncpblbhpaa
open Go.RowKit

theorem wp_region_class {P : Program} {C : World → Prop} {id : Nat} {Q : Exit → Act → World → Prop} {a : Act} {w : World} {l : List Oper} (hm : P.follows .mixedOrders = true) (hB : Region.lexB .any l.toArray = true) (hC : C w.drew)
    (h : wpQuiet P l.toArray C (fun a' => ∀ w', C w' → Q .normal a' w') l a) : (Code.region id l.toArray true).wp P Q a w :=
  wp_region_quiet (C := C) hm hB hC (by simpa using h)
theorem wrap_nat {j : Nat} (h : j ≤ 1048576) : IntKind.i64.wrap (j : Int) = (j : Int) := by
  simp [IntKind.wrap, IntKind.signed, IntKind.bits]; omega
/-- A function value that compares rows as cf says, as long as all blocks but g stay. -/
def CmpW (g : Nat) (k : Cel) (n : Nat) (cf : Nat → Nat → Int) (w : World) (fg : Nat) (cp : Array Value) : Prop :=
  Ent fg ∧ ∀ W, Kept (fun x => x = g) w W → ∀ x y, x < n → y < n → Calls Try.prog fg (#[k.v x, k.v y] ++ cp) W fun e W' => e = .returned (.int .i64 (cf x y)) ∧ Below W.heap.size W W'
theorem CmpW.kept {g : Nat} {k : Cel} {n : Nat} {cf : Nat → Nat → Int} {w w' : World} {fg : Nat} {cp : Array Value} (h : CmpW g k n cf w fg cp) (hK : Kept (fun x => x = g) w w') : CmpW g k n cf w' fg cp := ⟨h.1, fun W hW => h.2 W (hK.trans hW)⟩
abbrev ltF (cf : Nat → Nat → Int) (x y : Nat) : Bool := decide (cf x y < 0)
theorem nil_or_end (L : List Nat) : L = [] ∨ ∃ L' z, L = L' ++ [z] := by
  rcases List.eq_nil_or_concat L with h | ⟨L', z, h⟩
  · exact .inl h
  · exact .inr ⟨L', z, by rw [h, List.concat_eq_append]⟩
theorem Dat.swap2 {w : World} {g N i j x y : Nat} {k : Cel} {L M R : List Nat} (h : Dat w g N k (L ++ x :: (M ++ y :: R))) (hi : i = L.length) (hj : j = L.length + 1 + M.length) :
    Dat ((w.setCell ⟨g, j, none⟩ (k.v x)).setCell ⟨g, i, none⟩ (k.v y)) g N k (L ++ y :: (M ++ x :: R)) := by
  subst hi hj
  obtain ⟨cur, hh, hs, hl, hc⟩ := h
  have e : (L ++ y :: (M ++ x :: R)).length = (L ++ x :: (M ++ y :: R)).length := by simp
  have hb : L.length + 1 + M.length < N := by simp at hl; omega
  refine ⟨_, slab_set (slab_set hh _) _, by simpa using hs, by rw [e]; exact hl, fun i hi => ?_⟩
  rw [e] at hi
  have h0 := hc i hi
  have key : ∀ (a b : Nat) (q : Nat), nthN (L ++ a :: (M ++ b :: R)) q = if q = L.length then a else if q = L.length + 1 + M.length then b else nthN (L ++ x :: (M ++ y :: R)) q := fun a b q => by
    unfold nthN
    simp only [List.getD_eq_getElem?_getD]
    rcases Nat.lt_trichotomy q L.length with h | h | h
    · rw [if_neg (by omega), if_neg (by omega), List.getElem?_append_left h, List.getElem?_append_left h]
    · subst h; simp
    · rw [if_neg (by omega), List.getElem?_append_right (by omega), List.getElem?_append_right (by omega)]
      obtain ⟨r, hr⟩ : ∃ r, q - L.length = r + 1 := ⟨q - L.length - 1, by omega⟩
      rw [hr, List.getElem?_cons_succ, List.getElem?_cons_succ]
      rcases Nat.lt_trichotomy r M.length with h' | h' | h'
      · rw [if_neg (by omega), List.getElem?_append_left h', List.getElem?_append_left h']
      · rw [if_pos (by omega)]; subst h'; simp
      · rw [if_neg (by omega), List.getElem?_append_right (by omega), List.getElem?_append_right (by omega)]
        obtain ⟨s, hs'⟩ : ∃ s, r - M.length = s + 1 := ⟨r - M.length - 1, by omega⟩
        rw [hs', List.getElem?_cons_succ, List.getElem?_cons_succ]
  rw [key]
  by_cases h1 : i = L.length
  · subst h1
    rw [Array.getElem?_setIfInBounds_self_of_lt (by simp; omega), if_pos rfl]
  · rw [Array.getElem?_setIfInBounds_ne (by omega)]
    by_cases h2 : i = L.length + 1 + M.length
    · subst h2
      rw [Array.getElem?_setIfInBounds_self_of_lt (by omega), if_neg (by omega), if_pos rfl]
    · rw [Array.getElem?_setIfInBounds_ne (by omega), if_neg h1, if_neg h2]
      exact h0
/-- Two cells of a block. -/
abbrev StC (W : World) (g i j : Nat) (u v : Value) (w' : World) : Prop := w'.cell? ⟨g, i, none⟩ = some u ∧ w'.cell? ⟨g, j, none⟩ = some v ∧ Below W.heap.size W w'
theorem StC.keep {W : World} {g i j : Nat} {u v : Value} {w1 w2 : World} (h : StC W g i j u v w1) (hg : g < W.heap.size) (hb : Below w1.heap.size w1 w2) : StC W g i j u v w2 :=
  ⟨(hb.cell (p := ⟨g, i, none⟩) (Nat.lt_of_lt_of_le hg h.2.2.size)).trans h.1, (hb.cell (p := ⟨g, j, none⟩) (Nat.lt_of_lt_of_le hg h.2.2.size)).trans h.2.1, below_step h.2.2 (Nat.le_refl _) hb⟩
theorem nth_end (P L G : List Nat) (y z : Nat) : nthN (P ++ (L ++ [z]) ++ y :: G) (P.length + L.length) = z ∧ nthN (P ++ (L ++ [z]) ++ y :: G) (P.length + L.length + 1) = y := by
  constructor
  · have := nthN_mid (P ++ L) (y :: G) z
    rw [List.length_append] at this
    simpa using this
  · have := nthN_mid (P ++ (L ++ [z])) G y
    rw [show (P ++ (L ++ [z])).length = P.length + L.length + 1 by simp; omega] at this
    exact this
set_option maxRecDepth 100000 in
set_option maxHeartbeats 8000000 in
theorem insertion_any (g N cap n nn : Nat) (k : Cel) (cf : Nat → Nat → Int) (ho : LtO (ltF cf)) (P s S : List Nat) (fg : Nat) (cp : Array Value) (w : World) (h : Dat w g N k (P ++ (s ++ S))) (hn : (P ++ (s ++ S)).length ≤ n) (hN : n ≤ 4096) (hs : ∀ x ∈ s, x < nn) (hr : s.Pairwise (· < ·)) (hF : CmpW g k nn cf w fg cp) :
    Calls Try.prog 110 #[.slice (some ⟨g, 0, none⟩) n cap, .int .i64 (P.length : Nat), .int .i64 ((P.length + s.length : Nat)), .func (.func fg) #[] cp] w fun e w' => e = .returned (.tuple #[]) ∧ Kept (fun x => x = g) w w' ∧ ∃ s', s'.Perm s ∧ s'.Pairwise (RO (ltF cf)) ∧ Dat w' g N k (P ++ (s' ++ S)) := by
  have HO : Hid (LtO (ltF cf)) := ho
  have HS : Hid ((∀ x ∈ s, x < nn) ∧ s.Pairwise (· < ·)) := ⟨hs, hr⟩
  have HF : Hid (CmpW g k nn cf w fg cp) := hF
  have hE := hF.1
  unfold Ent at hE
  have D0 : Hid (∃ T, T.Perm (s.take 1) ∧ T.Pairwise (RO (ltF cf)) ∧ Dat w g N k (P ++ (T ++ (s.drop 1 ++ S)))) := ⟨s.take 1, List.Perm.refl _, by
    cases s with
    | nil => exact List.Pairwise.nil
    | cons x xs => simp, by rw [← List.append_assoc (s.take 1), List.take_append_drop]; exact h⟩
  simp only [List.length_append] at hn
  obtain ⟨t, ht⟩ : ∃ t, s.length = t := ⟨_, rfl⟩
  obtain ⟨p, hp⟩ : ∃ p, P.length = p := ⟨_, rfl⟩
  have HP : Hid (P.length = p ∧ s.length = t ∧ P.length + (s.length + S.length) ≤ n) := ⟨hp, ht, hn⟩
  obtain ⟨e0, he0⟩ : ∃ e0, p + t = e0 := ⟨_, rfl⟩
  have hbn : e0 ≤ n := by omega
  have HP0 : Hid (p + t = e0) := he0
  rw [ht, hp, he0]
  clear h hn hs hr hF ho hp ht
  go_enter Try.func110, Try.ntmps110
  go_wp2
  go_loopw [8] (fun i wr => ∃ q i0 : Nat, 1 ≤ q ∧ q ≤ t + 1 ∧ p + q = i0 ∧ i = .int .i64 i0 ∧ Hid ((∃ T, T.Perm (s.take q) ∧ T.Pairwise (RO (ltF cf)) ∧ Dat wr g N k (P ++ (T ++ (s.drop q ++ S)))) ∧ Kept (fun x => x = g) w wr)) (fun i _ => e0 + 1 - (intOf i).toNat)
  case atStart => exact ⟨1, p + 1, by omega, by omega, rfl, by push_cast; rfl, D0.out, Kept.refl _ _⟩
  case round =>
    clear D0
    obtain ⟨q, i0, q1, qt, hi0, rfl, HW⟩ := hrel
    by_cases hlt : q < t
    · have hltI : (i0 : Int) < (e0 : Int) := by omega
      have hqs : q < s.length := by rw [HP.out.2.1]; exact hlt
      obtain ⟨T, hT, pT, hD⟩ := HW.out.1
      have hTl : T.length = q := by rw [hT.length_eq, List.length_take]; omega
      have eS : s.drop q = s[q] :: s.drop (q + 1) := List.drop_eq_getElem_cons hqs
      have HI : Hid (∀ x ∈ T, x < s[q]) := fun x hx => by
        obtain ⟨r, hr, hr2, e⟩ := mem_take_nth (hT.mem_iff.1 hx)
        rw [e, nthN_get hr2]
        exact List.pairwise_iff_getElem.1 HS.out.2 r q hr2 hqs hr
      have HB : Hid (s[q] < nn ∧ ∀ x ∈ T, x < nn) := ⟨HS.out.1 _ (List.getElem_mem hqs), fun x hx => HS.out.1 x (List.mem_of_mem_take (hT.mem_iff.1 hx))⟩
      have HT2 : Hid (∀ L G : List Nat, L ++ G = T → (L ++ s[q] :: G).Perm (s.take (q + 1))) := fun L G e => by
        rw [List.take_add_one, List.getElem?_eq_getElem hqs]
        refine List.Perm.trans (List.perm_middle) ?_
        rw [e]
        exact (List.perm_append_singleton _ _).symm.trans (hT.append_right _)
      have hD0 : Hid (Dat wr g N k (P ++ T ++ s[q] :: ([] ++ (s.drop (q + 1) ++ S))) ∧ Kept (fun x => x = g) w wr) := ⟨by rw [eS] at hD; simp only [List.append_assoc, List.cons_append, List.nil_append] at hD ⊢; exact hD, HW.out.2⟩
      have HPT : Hid (T.Pairwise (RO (ltF cf)) ∧ T.length = q ∧ (s.drop (q + 1)).length + (q + 1) = t) := ⟨pT, hTl, by rw [List.length_drop]; have := HP.out.2.1; omega⟩
      clear HW hD hT pT hTl eS
      generalize s[q] = y at *
      go_wp2
      go_loopw [9] (fun i wr => ∃ (L G : List Nat) (j0 : Nat), L ++ G = T ∧ p + L.length = j0 ∧ i = .int .i64 j0 ∧ Hid ((∀ x ∈ G, ltF cf y x = true) ∧ Dat wr g N k (P ++ L ++ y :: (G ++ (s.drop (q + 1) ++ S))) ∧ Kept (fun x => x = g) w wr)) (fun i _ => (intOf i).toNat)
      case atStart => exact ⟨T, [], i0, by simp, by rw [HPT.out.2.1]; exact hi0, rfl, fun x hx => by simp at hx, hD0.out⟩
      case round =>
        clear hD0
        obtain ⟨L, G, j0, hLG, hj0, rfl, HW⟩ := hrel
        have hLl : L.length + G.length = q := by rw [← List.length_append, hLG]; exact HPT.out.2.1
        have HX : Hid ((∀ x ∈ L, ltF cf y x = false) → (∃ T', T'.Perm (s.take (q + 1)) ∧ T'.Pairwise (RO (ltF cf)) ∧ Dat wr g N k (P ++ (T' ++ (s.drop (q + 1) ++ S))))) := fun hA => ⟨L ++ y :: G, HT2.out L G hLG, put_in HO.out (by rw [hLG]; exact HPT.out.1) (by rw [hLG]; exact HI.out) hA HW.out.1, by have := HW.out.2.1; simp only [List.append_assoc, List.cons_append] at this ⊢; exact this⟩
        rcases nil_or_end L with rfl | ⟨L', z, rfl⟩
        · have HE : Hid ((∃ T', T'.Perm (s.take (q + 1)) ∧ T'.Pairwise (RO (ltF cf)) ∧ Dat wr g N k (P ++ (T' ++ (s.drop (q + 1) ++ S)))) ∧ Kept (fun x => x = g) w wr) := ⟨HX.out (fun x hx => by simp at hx), HW.out.2.2⟩
          have HE' : Hid ((∃ T', T'.Perm (s.take (q + 1)) ∧ T'.Pairwise (RO (ltF cf)) ∧ Dat wr.drew g N k (P ++ (T' ++ (s.drop (q + 1) ++ S)))) ∧ Kept (fun x => x = g) w wr.drew) := ⟨HE.out.1, kept_drew HE.out.2⟩
          clear HX HW HE
          obtain rfl : p = j0 := by simpa using hj0
          have hj : ¬ (p : Int) < (p : Int) := by omega
          go_wp2_with fail
          refine wp_region_class (C := fun W => W.heap = wr.heap ∧ Kept (fun x => x = g) w W) (by kernel_rfl) (by kernel_rfl) ⟨rfl, HE'.out.2⟩ ?_
          repeat (first | go_big_quiet_skip | (go_big_quiet_want; apply Exists.intro; refine ⟨?_, ?_⟩; (focus (intro w' hw'; (go_simp; with_reducible rfl))); (try simp only [Act.put, List.setIfInBounds_toArray, List.set_cons_zero, List.set_cons_succ]); go_big_quiet_on))
          refine wpQuiet_nil ?_
          intro w2 hw2
          have HE2 : Hid ((∃ T', T'.Perm (s.take (q + 1)) ∧ T'.Pairwise (RO (ltF cf)) ∧ Dat w2 g N k (P ++ (T' ++ (s.drop (q + 1) ++ S)))) ∧ Kept (fun x => x = g) w w2) := by
            obtain ⟨T', h1, h2, h3⟩ := HE'.out.1
            exact ⟨⟨T', h1, h2, h3.at (by rw [hw2.1]; rfl)⟩, hw2.2⟩
          clear hw2 HE'
          go_wp2
          go_roundw
          case rel => exact ⟨q + 1, i0 + 1, by omega, by omega, by omega, by go_num, HE2⟩
          case measure => simp [intOf]; omega
        · have hz : z ∈ T := by rw [← hLG]; simp
          obtain ⟨j, hj⟩ : ∃ j, p + L'.length = j := ⟨_, rfl⟩
          have hj1 : j + 1 = j0 := by rw [← hj0, ← hj]; simp; omega
          have HG1 := HW.out.2.1.lt
          have hG : Hid (g < wr.heap.size) := HG1
          have hDD : Dat wr g N k ((P ++ L') ++ z :: ([] ++ y :: (G ++ (s.drop (q + 1) ++ S)))) := by have := HW.out.2.1; simp only [List.append_assoc, List.cons_append, List.nil_append] at this ⊢; exact this
          have lPL : j = (P ++ L').length := by rw [List.length_append, HP.out.1]; exact hj.symm
          have c1 : wr.cell? ⟨g, j, none⟩ = some (k.v z) := by
            have := hDD.cell (i := j) (by rw [lPL]; simp)
            rw [lPL, nthN_mid] at this
            rw [lPL]; exact this
          have c2 : wr.cell? ⟨g, j0, none⟩ = some (k.v y) := by
            have := hDD.cell (i := j0) (by rw [← hj1, lPL]; simp; omega)
            have e2 : nthN ((P ++ L') ++ z :: ([] ++ y :: (G ++ (s.drop (q + 1) ++ S)))) j0 = y := by
              have h3 := nthN_mid ((P ++ L') ++ [z]) (G ++ (s.drop (q + 1) ++ S)) y
              rw [show ((P ++ L') ++ [z]).length = j0 by rw [← hj1, lPL]; simp; omega] at h3
              simpa using h3
            rw [e2] at this
            exact this
          have hC : Hid (StC wr g j0 j (k.v y) (k.v z) wr.drew) := ⟨c2, c1, (Below.refl _ _).drew⟩
          have HC : Hid (∀ W, StC wr g j0 j (k.v y) (k.v z) W → Calls Try.prog fg (#[k.v y, k.v z] ++ cp) W fun e w' => e = .returned (.int .i64 (cf y z)) ∧ Below W.heap.size W w') := fun W hW => HF.out.2 W (HW.out.2.2.trans (Kept.of_below hW.2.2)) y z HB.out.1 (HB.out.2 z hz)
          have hjn : j0 < n := by have := HP.out; omega
          have hgt : (p : Int) < (j0 : Int) := by omega
          have hjI : (j0 : Int) - 1 = (j : Int) := by omega
          have hwj : IntKind.i64.wrap (j : Int) = (j : Int) := wrap_nat (by omega)
          have hwj0 : IntKind.i64.wrap (j0 : Int) = (j0 : Int) := wrap_nat (by omega)
          have HJ : Hid (p + L'.length = j ∧ j + 1 = j0 ∧ j = (P ++ L').length ∧ (L' ++ [z]) ++ G = T) := ⟨hj, hj1, lPL, hLG⟩
          have hjl : j < n := by omega
          by_cases hlt2 : cf y z < 0
          · have HS2 : Hid (∀ W, StC wr g j0 j (k.v y) (k.v z) W → Dat W g N k ((P ++ L') ++ z :: ([] ++ y :: (G ++ (s.drop (q + 1) ++ S)))) ∧ Kept (fun x => x = g) w W) := fun W hW => ⟨hDD.below hW.2.2, HW.out.2.2.trans (Kept.of_below hW.2.2)⟩
            have HG2 : Hid (∀ x ∈ z :: G, ltF cf y x = true) := fun x hx => by
              rcases List.mem_cons.1 hx with rfl | h
              · exact decide_eq_true hlt2
              · exact HW.out.1 x h
            clear HX HW hDD c1 c2 hj hj1 lPL hLG hj0 hLl hi0 he0 hz
            generalize cf y z = cc at *
            go_wp2_with fail
            refine wp_region_class (C := StC wr g j0 j (k.v y) (k.v z)) (by kernel_rfl) (by kernel_rfl) hC.out ?_
            repeat (first | go_big_quiet_skip | (go_big_quiet_want; apply Exists.intro; refine ⟨?_, ?_⟩; (focus (intro w' hw'; first | (obtain ⟨m0, m1, m2⟩ := hw'; go_simp; with_reducible rfl) | (go_simp; refine (HC.out w' hw').mono ?_; rintro e w'' ⟨rfl, hb⟩; exact ⟨rfl, hw'.keep hG.out hb⟩))); (try simp only [Act.put, List.setIfInBounds_toArray, List.set_cons_zero, List.set_cons_succ]); go_big_quiet_on))
            refine wpQuiet_nil ?_
            intro w2 hw2
            obtain ⟨hD2, hK2⟩ := HS2.out w2 hw2
            obtain ⟨c2, c1, _⟩ := hw2
            have hf := hD2.free
            have HS3 : Hid (Dat ((w2.setCell ⟨g, j0, none⟩ (k.v z)).setCell ⟨g, j, none⟩ (k.v y)) g N k ((P ++ L') ++ y :: ([] ++ z :: (G ++ (s.drop (q + 1) ++ S)))) ∧ Kept (fun x => x = g) w ((w2.setCell ⟨g, j0, none⟩ (k.v z)).setCell ⟨g, j, none⟩ (k.v y))) := ⟨hD2.swap2 HJ.out.2.2.1 (by have h1 := HJ.out.2.1; have h2 := HJ.out.2.2.1; rw [← h2]; simp; omega), kept_swap hK2⟩
            have d1 : w2.drew.cell? ⟨g, j, none⟩ = some (k.v z) := c1
            have d2 : w2.drew.cell? ⟨g, j0, none⟩ = some (k.v y) := c2
            have df : ∀ o, w2.drew.frozen? ⟨g, o, none⟩ = false := hf
            have hne : ¬ j = j0 := by have := HJ.out; omega
            have hne' : ¬ j0 = j := by omega
            clear HS2 hD2 hK2 hC HC
            go_wp2_with fail
            go_region
            all_goals
              go_wp2
              go_roundw
              case rel => exact ⟨L', z :: G, j, by have := HJ.out.2.2.2; simpa using this, HJ.out.1, by go_num, HG2.out, by have := HS3.out.1; simp only [List.nil_append, List.cons_append] at this ⊢; exact this, kept_drew HS3.out.2⟩
              case measure => simp [intOf]; omega
          · have HA : Hid (∀ x ∈ L' ++ [z], ltF cf y x = false) := fun x hx => by
              have pT : ((L' ++ [z]) ++ G).Pairwise (RO (ltF cf)) := by rw [hLG]; exact HPT.out.1
              have pL := (List.pairwise_append.1 pT).1
              have hzy : ltF cf y z = false := decide_eq_false hlt2
              rcases List.mem_append.1 hx with h | h
              · exact HO.out.trans x z y ((List.pairwise_append.1 pL).2.2 x h z (by simp)).1 hzy
              · simp at h; subst h; exact hzy
            have HE : Hid (∀ W, StC wr g j0 j (k.v y) (k.v z) W → (∃ T', T'.Perm (s.take (q + 1)) ∧ T'.Pairwise (RO (ltF cf)) ∧ Dat W g N k (P ++ (T' ++ (s.drop (q + 1) ++ S)))) ∧ Kept (fun x => x = g) w W) := fun W hW => by
              obtain ⟨T', h1, h2, h3⟩ := HX.out HA.out
              exact ⟨⟨T', h1, h2, h3.below hW.2.2⟩, HW.out.2.2.trans (Kept.of_below hW.2.2)⟩
            clear HX HW hDD c1 c2 hj hj1 lPL hLG hj0 hLl he0 hz HA
            have HI0 : Hid (p + q = i0 ∧ p + t = e0) := ⟨hi0, HP0.out⟩
            clear hi0
            generalize cf y z = cc at *
            go_wp2_with fail
            refine wp_region_class (C := StC wr g j0 j (k.v y) (k.v z)) (by kernel_rfl) (by kernel_rfl) hC.out ?_
            repeat (first | go_big_quiet_skip | (go_big_quiet_want; apply Exists.intro; refine ⟨?_, ?_⟩; (focus (intro w' hw'; first | (obtain ⟨m0, m1, m2⟩ := hw'; go_simp; with_reducible rfl) | (go_simp; refine (HC.out w' hw').mono ?_; rintro e w'' ⟨rfl, hb⟩; exact ⟨rfl, hw'.keep hG.out hb⟩))); (try simp only [Act.put, List.setIfInBounds_toArray, List.set_cons_zero, List.set_cons_succ]); go_big_quiet_on))
            refine wpQuiet_nil ?_
            intro w2 hw2
            have HE2 : Hid ((∃ T', T'.Perm (s.take (q + 1)) ∧ T'.Pairwise (RO (ltF cf)) ∧ Dat w2 g N k (P ++ (T' ++ (s.drop (q + 1) ++ S)))) ∧ Kept (fun x => x = g) w w2) := HE.out w2 hw2
            clear HE hw2 hC HC
            go_wp2
            go_roundw
            case rel => exact ⟨q + 1, i0 + 1, by omega, by omega, by have := HI0.out; omega, by go_num, HE2⟩
            case measure => simp [intOf]; omega
    · have hltI : ¬ (i0 : Int) < (e0 : Int) := by omega
      have HE : Hid (∃ s', s'.Perm s ∧ s'.Pairwise (RO (ltF cf)) ∧ Dat wr g N k (P ++ (s' ++ S))) := by
        obtain ⟨T, hT, pT, hD⟩ := HW.out.1
        have hq : s.length ≤ q := by have := HP.out.2.1; omega
        rw [List.take_of_length_le hq] at hT
        rw [List.drop_of_length_le hq] at hD
        exact ⟨T, hT, pT, by simpa using hD⟩
      have HK := HW.out.2
      have HK' : Hid (Kept (fun x => x = g) w wr) := HK
      clear HW HK
      go_wp2
      go_end0
      exact ⟨rfl, HK'.out, HE.out⟩
end Go.Proofs.Ytmcjgncpblbhpaa
