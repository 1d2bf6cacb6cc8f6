/- Rows by their keys (stage 13). -/
import Derived.Test.YtmcjgncpblbhpaaKsB
import Derived.Test.YtmcjgncpblbhpaaKsC
namespace Go.Proofs.Ytmcjgncpblbhpaa
open Go.RowKit

/-- A list of rows of the call's own, named by zs; it may be nil. -/
abbrev OwnE (w : World) (B : Nat) (v : Value) (k : Cel) (zs : List Nat) : Prop := w.ownsRow B 28 1 v zs.length (zs.map k.v)
theorem OwnE.nil (w : World) (B : Nat) (k : Cel) : OwnE w B (.slice none 0 0) k [] := ⟨rfl, .inl ⟨rfl, rfl⟩⟩
theorem OwnE.below {w w' : World} {B : Nat} {v : Value} {k : Cel} {zs : List Nat} (h : OwnE w B v k zs) (hb : Below w.heap.size w w') : OwnE w' B v k zs := by
  obtain ⟨h1, h2⟩ := h
  refine ⟨h1, ?_⟩
  rcases h2 with h | ⟨g, cap, cur, e, hg, hh, r⟩
  · exact .inl h
  · exact .inr ⟨g, cap, cur, e, hg, (hb.block g (slab_lt hh)).trans hh, r⟩
theorem OwnE.dat {w : World} {B : Nat} {v : Value} {k : Cel} {zs : List Nat} (h : OwnE w B v k zs) (h0 : 0 < zs.length) : ∃ g c, v = .slice (some ⟨g, 0, none⟩) zs.length c ∧ B ≤ g ∧ Dat w g c k zs := by
  obtain ⟨q1, q2⟩ := h
  rcases q2 with ⟨e, e0⟩ | ⟨g, c, cur, e, hg, hh, hcap, _, hs, ht⟩
  · omega
  · refine ⟨g, c, e, hg, cur, hh, by simpa using hs, hcap, fun i hi => ?_⟩
    have h9 : (zs.map k.v)[i]? = some (k.v (nthN zs i)) := by rw [List.getElem?_map, List.getElem?_eq_getElem hi, nthN_get hi]; rfl
    rw [← ht, List.getElem?_take] at h9
    split at h9
    · rw [← Array.getElem?_toList]; exact h9
    · cases h9
set_option maxRecDepth 100000 in
theorem app_E {w : World} {B b c x : Nat} {v : Value} {k : Cel} {zs : List Nat} (h : OwnE w B v k zs) (hB : B ≤ w.heap.size) (hl : zs.length < 4096) (hc : w.cell? ⟨b, 0, none⟩ = some (k.v x)) :
    ∃ v' w', (Builtin.append_ #[23, 23] 23 #[v, .slice (some ⟨b, 0, none⟩) 1 c]).run Try.prog w = .ok v' w' ∧ OwnE w' B v' k (zs ++ [x]) ∧ ∀ w0, Below B w0 w → Below B w0 w' := by
  obtain ⟨i0, hi1, hz0, hz1, hz2⟩ := info_parts infoR
  obtain ⟨v', w', h1, h2, h3, _⟩ := run_append_own (P := Try.prog) w B 23 23 28 i0 _ 1 24 Try.underlying23 hi1 hz0 hz1 hz2 rfl (by decide) v zs.length (zs.map k.v) h ⟨b, 0, none⟩ 1 c [k.v x] rfl (fun j u hj => by
    match j, hj with
    | 0, hj => simp at hj; subst hj; rw [add_plain]; exact hc) (by intro u hu; simp at hu; subst hu; rfl) (by unfold maxLen; omega) (by omega) hB
  refine ⟨v', w', h1, by rw [OwnE, List.length_append, List.map_append]; exact h2, fun w0 hb => hb.grown h3 hB fun j e => ?_⟩
  obtain ⟨_, q2⟩ := h
  rcases q2 with ⟨rfl, _⟩ | ⟨g, cap, cur, rfl, hg', _⟩
  · simp [Value.ownBlock] at e
  · simp [Value.ownBlock] at e
    omega
abbrev Ce2.keys (k : Ce2) : Cel := ⟨k.a, k.l, k.c⟩
abbrev Ce2.rows (k : Ce2) : Cel := ⟨k.a', k.l', k.c'⟩
theorem ent105 : Ent 105 := enters_of Try.func105 (by kernel_rfl) rfl
set_option maxRecDepth 100000 in
theorem keysOrder_any (ad : Option Addr) (nd cd : Nat) (w : World) : Calls Try.prog 79 #[.slice ad nd cd] w fun e w' => e = .returned (.func (.func 105) #[] #[.pointer (some ⟨w.heap.size, 0, none⟩)]) ∧ w' = w.alloc (.cells #[.slice ad nd cd] 32) := by
  go_enter Try.func79, Try.ntmps79
  go_wp2
  go_ret
  exact ⟨rfl, rfl⟩
theorem below_kept {w w1 W : World} {g : Nat} (hb : Below w.heap.size w w1) (hK : Kept (fun x => x = g) w1 W) (hg : w.heap.size ≤ g) : Below w.heap.size w W := hb.trans (hK.below hb.size (fun x hx => by subst hx; exact hg))
theorem take_nextN {zs : List Nat} {i : Nat} (h : i < zs.length) : zs.take (i + 1) = zs.take i ++ [nthN zs i] := by
  rw [List.take_add_one, List.getElem?_eq_getElem h, nthN_get h]
  rfl
set_option maxRecDepth 100000 in
set_option maxHeartbeats 8000000 in
theorem rowsByKeys_any (b0 cap n M : Nat) (k : Ce2) (ks : Rs) (ds : List Bool) (ad : Option Addr) (cd : Nat) (w : World) (hN : n ≤ 4096) (h0 : 0 < n) (hn : ks.length = n) (hD : Da2 w b0 M k (List.range n)) (hk : CelR w k.keys ks) (hl : ∀ i, i < n → (nthR ks i).length = ds.length) (hdl : ds.length ≤ 4096) (hd : BoA w ad ds) :
    Calls Try.prog 48 #[.slice (some ⟨b0, 0, none⟩) n cap, .slice ad ds.length cd] w fun e w' => ∃ g c zs, e = .returned (.slice (some ⟨g, 0, none⟩) n c) ∧ w.heap.size ≤ g ∧ zs.Perm (List.range n) ∧ zs.Pairwise (RO (ltF fun x y => cmpK ds (nthR ks x) (nthR ks y))) ∧ Dat w' g c k.rows zs ∧ Below w.heap.size w w' := by
  have C1 := keysOrder_any ad ds.length cd w
  have hbw : Below w.heap.size w (w.alloc (.cells #[.slice ad ds.length cd] 32)) := (Below.refl _ _).alloc (Nat.le_refl _) _
  have HP : BoP (w.alloc (.cells #[.slice ad ds.length cd] 32)) w.heap.size ds := ⟨by simp, ad, cd, by simp, hd.below hbw⟩
  have hk1 := hk.below hbw
  have C2 := sortedBy2 b0 cap n M k (fun x y => cmpK ds (nthR ks x) (nthR ks y)) (keys_lto ds ks) 105 #[.pointer (some ⟨w.heap.size, 0, none⟩)] (w.alloc (.cells #[.slice ad ds.length cd] 32)) hN (hD.below hbw) (fun g w1 hg hb => ⟨ent105, fun W hK x y hx hy => by
    have hB := below_kept hb hK hg
    obtain ⟨e1, p1, o1, f1, r1⟩ := (hk1.below hB) x (by omega)
    obtain ⟨e2, p2, o2, f2, r2⟩ := (hk1.below hB) y (by omega)
    have := keysOrder1_any (some ⟨p1, o1, none⟩) (some ⟨p2, o2, none⟩) (k.c x) (k.c y) (k.a' x) (k.a' y) (k.l' x) (k.l' y) (k.c' x) (k.c' y) ds (nthR ks x) (nthR ks y) w.heap.size W r1 r2 (hl x hx) (hl y hy) hdl (HP.below hB)
    rw [← e1, ← e2, ← f1, ← f2] at this
    exact this⟩)
  clear hD hk hl hd HP hk1 hn
  generalize hW : w.alloc (.cells #[.slice ad ds.length cd] 32) = w1 at *
  go_enter Try.func48, Try.ntmps48
  go_wp2_with fail
  refine C1.mono ?_
  rintro e wx ⟨rfl, hq⟩
  obtain rfl := hq.symm
  clear C1
  go_wp2_with fail
  refine C2.mono ?_
  rintro e w3 ⟨g, c, zs, rfl, hg, z1, z2, z3, b3⟩
  have hzl : zs.length = n := by rw [z1.length_eq, List.length_range]
  have B3 : Below w.heap.size w w3 := hbw.trans (b3.mono hbw.size)
  have HZ : Hid (zs.Perm (List.range n) ∧ zs.Pairwise (RO (ltF fun x y => cmpK ds (nthR ks x) (nthR ks y))) ∧ Da2 w3 g c k zs ∧ w1.heap.size ≤ g ∧ zs.length = n ∧ Below w.heap.size w w3) := ⟨z1, z2, z3, hg, hzl, B3⟩
  clear C2 z1 z2 z3 b3 hzl B3
  go_wp2
  go_loopw [5, 13] (fun v i wr => ∃ q : Nat, q ≤ n ∧ i = .int .i64 q ∧ Hid (OwnE wr w3.heap.size v k.rows (zs.take q)) ∧ Below w3.heap.size w3 wr) (fun _ i _ => n - (intOf i).toNat)
  case atStart => exact ⟨0, by omega, rfl, OwnE.nil _ _ _, Below.refl _ _⟩
  case round =>
    obtain ⟨q, hq, rfl, HO, hbl⟩ := hrel
    by_cases hqn : q < n
    · have hqI : (q : Int) < (n : Int) := by omega
      have hqz : q < zs.length := by rw [HZ.out.2.2.2.2.1]; exact hqn
      obtain ⟨c0, c1⟩ := (HZ.out.2.2.1.below hbl).cell hqz
      have hbA : Below wr.heap.size wr ((wr.alloc (.cells #[k.p (nthN zs q), k.q (nthN zs q)] 70)).alloc (.cells #[k.q (nthN zs q)] 28)) := ((Below.refl _ _).alloc (Nat.le_refl _) _).alloc (by simp) _
      have B3A := below_step hbl (Nat.le_refl _) hbA
      obtain ⟨v', w', hr, hO2, hB2⟩ := app_E (b := wr.heap.size + 1) (c := 1) (x := nthN zs q) (OwnE.below HO.out hbA) B3A.size (by rw [List.length_take]; omega) (by simp)
      have hr' : Sem.run Try.prog (Builtin.append_ #[23, 23] 23 #[u5, .slice (some ⟨wr.heap.size + 1, 0, none⟩) 1 1]) ((wr.alloc (.cells #[k.p (nthN zs q), k.q (nthN zs q)] 70)).alloc (.cells #[k.q (nthN zs q)] 28)) = .ok v' w' := hr
      have HO2 : Hid (OwnE w' w3.heap.size v' k.rows (zs.take (q + 1)) ∧ Below w3.heap.size w3 w') := ⟨by rw [take_nextN hqz]; exact hO2, hB2 w3 B3A⟩
      clear hr hO2 hB2 hbA B3A HO hqz
      generalize nthN zs q = x at *
      go_wp2_with (at_builtin; refine Lib.wpList_append_run _ rfl _ _ _ _ rfl _ _ rfl rfl _ _ hr' ?_)
      go_roundw
      case rel => exact ⟨q + 1, by omega, by go_num, HO2.out.1, HO2.out.2⟩
      case measure => simp [intOf]; omega
    · obtain rfl : q = n := by omega
      have hE : OwnE wr w3.heap.size u5 k.rows zs := by
        have := HO.out
        rw [List.take_of_length_le (by rw [HZ.out.2.2.2.2.1]; omega)] at this
        exact this
      obtain ⟨g2, c2, rfl, hg2, hD2⟩ := hE.dat (by rw [HZ.out.2.2.2.2.1]; exact h0)
      have HE : Hid (w.heap.size ≤ g2 ∧ Dat wr g2 c2 k.rows zs ∧ Below w.heap.size w wr) := ⟨by have := HZ.out.2.2.2.2.2.size; omega, hD2, below_step HZ.out.2.2.2.2.2 (Nat.le_refl _) hbl⟩
      rw [HZ.out.2.2.2.2.1]
      clear hE hD2 HO hg2
      go_wp2
      go_ret
      exact ⟨g2, c2, zs, rfl, HE.out.1, HZ.out.1, HZ.out.2.1, HE.out.2.1, HE.out.2.2⟩
set_option maxRecDepth 100000 in
theorem rowsByKeys_nil (ad : Option Addr) (nd cd : Nat) (w : World) :
    Calls Try.prog 48 #[.slice none 0 0, .slice ad nd cd] w fun e w' => e = .returned (.slice none 0 0) ∧ Below w.heap.size w w' := by
  have C1 := keysOrder_any ad nd cd w
  have hbw : Below w.heap.size w (w.alloc (.cells #[.slice ad nd cd] 32)) := (Below.refl _ _).alloc (Nat.le_refl _) _
  generalize w.alloc (.cells #[.slice ad nd cd] 32) = w1 at *
  go_enter Try.func48, Try.ntmps48
  go_wp2_with fail
  refine C1.mono ?_
  rintro e wx ⟨rfl, hq⟩
  obtain rfl := hq.symm
  clear C1
  go_wp2_with fail
  refine (sortedByK_nil _ _).mono ?_
  rintro e wy ⟨rfl, hq⟩
  obtain rfl := hq.symm
  go_wp2
  go_loop [5, 13] (fun v i => v = .slice none 0 0 ∧ i = .int .i64 0) (fun _ _ => 0)
  case atStart => exact ⟨rfl, rfl⟩
  case round =>
    obtain ⟨rfl, rfl⟩ := hrel
    go_wp2
    go_ret
    exact ⟨rfl, hbw⟩
end Go.Proofs.Ytmcjgncpblbhpaa
