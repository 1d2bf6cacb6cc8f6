/- impl's places and copies (stage 5). -/
import Derived.Test.YthflalpapdaidaaCpE
namespace Go.Proofs.Ythflalpapdaidaa
open Go.RowKit

/-- Numbers by place. -/
def PlB (w : World) (g n : Nat) (p : Nat → Nat) : Prop := ∃ cur : Array Value, w.heap[g]? = some (.cells cur 3 (0, 0)) ∧ cur.size = n ∧ ∀ j, j < n → cur[j]? = some (.int .i64 (p j))
theorem PlB.below {w w' : World} {g n : Nat} {p : Nat → Nat} (h : PlB w g n p) (hb : Below w.heap.size w w') : PlB w' g n p := by
  obtain ⟨cur, hh, r⟩ := h
  exact ⟨cur, (hb.block g (slab_lt hh)).trans hh, r⟩
theorem PlB.lt {w : World} {g n : Nat} {p : Nat → Nat} (h : PlB w g n p) : g < w.heap.size := by
  obtain ⟨cur, hh, r⟩ := h
  exact slab_lt hh
theorem PlB.cell {w : World} {g n j : Nat} {p : Nat → Nat} (h : PlB w g n p) (hj : j < n) : w.cell? ⟨g, j, none⟩ = some (.int .i64 (p j)) := by
  obtain ⟨cur, hh, hs, r⟩ := h
  rw [slab_cell hh]; exact r j hj
theorem PlB.set {w : World} {g n k v : Nat} {p : Nat → Nat} (h : PlB w g n p) (hk : k < n) : PlB (w.setCell ⟨g, k, none⟩ (.int .i64 (v : Int))) g n (fun j => if j = k then v else p j) := by
  obtain ⟨cur, hh, hs, r⟩ := h
  refine ⟨_, slab_set hh _, by simpa using hs, fun j hj => ?_⟩
  by_cases e : j = k
  · subst e
    rw [Array.getElem?_setIfInBounds_self_of_lt (by omega)]; simp
  · rw [Array.getElem?_setIfInBounds_ne (by omega)]
    simp only [if_neg e]
    exact r j hj
theorem SlabI.over {w : World} {g n k : Nat} {ss : List Int} (h : SlabI w g n ss k) (v : Value) : SlabI (w.setCell ⟨g, k, none⟩ v) g n ss k := by
  obtain ⟨cur, hh, hs, hc⟩ := h
  refine ⟨_, slab_set hh _, by simpa using hs, fun i hi => ?_⟩
  rw [Array.getElem?_setIfInBounds_ne (by omega)]
  exact hc i hi
theorem SlabI.own {w : World} {g lo : Nat} {ss : List Int} (h : SlabI w g ss.length ss ss.length) (hlo : lo ≤ g) : OwnL 3 w lo w.heap.size (.slice (some ⟨g, 0, none⟩) ss.length ss.length) (vI ss) := by
  obtain ⟨cur, hh, hs, hc⟩ := h
  refine .inr ⟨g, ss.length, cur, by rw [List.length_map], by rw [List.length_map]; exact Nat.le_refl _, hlo, slab_lt hh, hh, hs, fun i hi => ?_⟩
  rw [List.length_map] at hi
  rw [hc i hi, List.getElem?_map, List.getElem?_eq_getElem hi, nthI_get hi]
  rfl
def pm (p : Nat → Nat) (k : Int) : Int := if k < 0 then k else (p k.toNat : Int)
set_option maxRecDepth 100000 in
set_option maxHeartbeats 4000000 in
theorem placesOf_any (a : Option Addr) (c : Nat) (l : List Int) (gp n : Nat) (p : Nat → Nat) (w : World) (hrow : RowI w a l) (hp : PlB w gp n p) (hr : ∀ j, j < l.length → nthI l j < (n : Int)) (hlen : l.length ≤ 1048576) :
    Calls Try.prog 105 #[.slice a l.length c, .slice (some ⟨gp, 0, none⟩) n n] w fun e w' => ∃ h, e = .returned (.slice (some ⟨h, 0, none⟩) l.length l.length) ∧ OwnL 3 w' w.heap.size w'.heap.size (.slice (some ⟨h, 0, none⟩) l.length l.length) (vI (l.map (pm p))) ∧ Below w.heap.size w w' := by
  have HR : Hid (RowI w a l ∧ PlB w gp n p) := ⟨hrow, hp⟩
  have HG : Hid (∀ j, j < l.length → nthI l j < (n : Int)) := hr
  have HQ : Hid (∀ k, k < l.length → nthI (l.map (pm p)) k = pm p (nthI l k)) := fun k hk => nthI_map hk
  have HLM : Hid ((l.map (pm p)).length = l.length) := by show _ = _; rw [List.length_map]
  clear hrow hp hr
  obtain ⟨len, hL⟩ : ∃ m, l.length = m := ⟨_, rfl⟩
  have HL : Hid (l.length = len) := hL
  rw [hL] at hlen HLM ⊢
  clear hL
  obtain ⟨i0, hi, hz0, hz1, hz2⟩ := info_parts info3
  go_enter Try.func105, Try.ntmps105
  go_wp2_with (at_make; refine wpList_make_full _ rfl _ _ 47 rfl w.heap.size 3 i0 _ 1 Try.underlying47 hi hz0 hz1 .i64 .i64 _ _ len rfl rfl rfl rfl ?m1 ?m2 (Nat.le_refl _) ?_)
  case m1 => rw [hz2]; omega
  case m2 => unfold maxLen; omega
  intro w1 hown hgr
  have hB1 : Below w.heap.size w w1 := (Below.refl _ _).grown hgr (Nat.le_refl _) (fun k hk => by cases hk)
  have hS : SlabI w1 w.heap.size len (l.map (pm p)) 0 := by
    rcases hown.2 with ⟨h, _⟩ | ⟨g, c, cur, h, _, hh, _, _, hcs, _⟩
    · cases h
    · cases h
      exact ⟨cur, hh, by rw [hcs, Nat.mul_one], fun i hi => by omega⟩
  clear hown hgr hi hz0 hz1 hz2
  go_wp2
  go_loopw [13] (fun i wr => ∃ k : Nat, k ≤ len ∧ i = .int .i64 k ∧ Hid (SlabI wr w.heap.size len (l.map (pm p)) k) ∧ Below w.heap.size w wr) (fun i _ => len - (intOf i).toNat)
  case atStart => exact ⟨0, by omega, rfl, hS, hB1⟩
  case round =>
    clear hS hB1
    obtain ⟨k, hk, rfl, HS, hbl⟩ := hrel
    by_cases hlt : k < len
    · have hltI : (k : Int) < (len : Int) := by omega
      have hkl : k < l.length := by rw [HL.out]; exact hlt
      obtain ⟨b, off, rfl, hlb, hc0⟩ := (HR.out.1.below hbl) k hkl
      obtain ⟨v0, hv0⟩ := HS.out.there (j := k) hlt
      have hf : ∀ o, wr.frozen? ⟨w.heap.size, o, none⟩ = false := HS.out.free
      have hq := HQ.out k hkl
      have hg := HG.out k hkl
      have hsl := HS.out.lt
      generalize nthI l k = at0 at *
      by_cases hneg : at0 < 0
      · have HS2 : Hid (SlabI (wr.setCell ⟨w.heap.size, k, none⟩ (.int .i64 at0)) w.heap.size len (l.map (pm p)) (k + 1)) := by
          have := HS.out.step hlt
          rw [hq] at this
          have e : pm p at0 = at0 := if_pos hneg
          rw [e] at this
          exact this
        have hB2 : Below w.heap.size w (wr.setCell ⟨w.heap.size, k, none⟩ (.int .i64 at0)) := hbl.setCell (p := ⟨w.heap.size, k, none⟩) (Nat.le_refl _) _
        have hn0 : ¬ (0 ≤ at0) := by omega
        clear hq hg HS hbl
        go_wp2
        go_roundw
        case rel => exact ⟨k + 1, by omega, by go_num, HS2, hB2⟩
        case measure => simp [intOf]; omega
      · obtain ⟨t, rfl⟩ : ∃ t : Nat, at0 = (t : Int) := ⟨at0.toNat, by omega⟩
        have htn : t < n := by omega
        have HS2 : Hid (SlabI ((wr.setCell ⟨w.heap.size, k, none⟩ (.int .i64 t)).setCell ⟨w.heap.size, k, none⟩ (.int .i64 (p t))) w.heap.size len (l.map (pm p)) (k + 1)) := by
          have := (HS.out.over (.int .i64 t)).step hlt
          rw [hq] at this
          have e : pm p (t : Int) = (p t : Int) := by unfold pm; rw [if_neg (by omega)]; rfl
          rw [e] at this
          exact this
        have hB2 : Below w.heap.size w ((wr.setCell ⟨w.heap.size, k, none⟩ (.int .i64 t)).setCell ⟨w.heap.size, k, none⟩ (.int .i64 (p t))) := (hbl.setCell (p := ⟨w.heap.size, k, none⟩) (Nat.le_refl _) _).setCell (p := ⟨w.heap.size, k, none⟩) (Nat.le_refl _) _
        have hpl := HR.out.2.lt
        have hc1 : wr.cell? ⟨gp, t, none⟩ = some (.int .i64 (p t)) := (HR.out.2.below hbl).cell htn
        have hne : gp ≠ w.heap.size := by omega
        have hn0 : 0 ≤ (t : Int) := by omega
        have htnI : (t : Int) < (n : Int) := by omega
        clear hq hg HS hbl hneg
        go_wp2
        go_roundw
        case rel => exact ⟨k + 1, by omega, by go_num, HS2, hB2⟩
        case measure => simp [intOf]; omega
    · obtain rfl : k = len := by omega
      have HD : Hid (OwnL 3 wr w.heap.size wr.heap.size (.slice (some ⟨w.heap.size, 0, none⟩) k k) (vI (l.map (pm p)))) := by
        have h := HS.out
        rw [← HLM.out] at h ⊢
        exact h.own (Nat.le_refl _)
      clear HS
      go_wp2
      go_ret
      exact ⟨_, rfl, HD.out, hbl⟩

/-- The nodes from the k-th on as they were taken over. -/
def RestN (w : World) (g k : Nat) (es : List NE) (n : Nat) : Prop := ∃ cur : Array Value, w.heap[g]? = some (.cells cur 93 (0, 0)) ∧ ∀ i, k ≤ i → i < n → El4 cur i (.bool (nthE es i).1) (sl (nthE es i).2.1) (sl (nthE es i).2.2.1) (sl (nthE es i).2.2.2)
theorem cpN_step {wr w4 : World} {g c k : Nat} {es : List NE} {ns : List Nd} {v1 v2 v3 : Value} (hS : SlabO wr (g + 1) g c ns k) (hR : RestN wr g k es ns.length) (hk : k < ns.length) (hc : ns.length ≤ c) (hl : (nthE es k).1 = (nthN ns k).1)
    (hsz : wr.heap.size ≤ w4.heap.size) (hb : ∀ b, b ≠ g → b < wr.heap.size → w4.heap[b]? = wr.heap[b]?)
    (hg : ∀ cur : Array Value, wr.heap[g]? = some (.cells cur 93 (0, 0)) → w4.heap[g]? = some (.cells (((cur.setIfInBounds (k * 4 + 1) v1).setIfInBounds (k * 4 + 2) v2).setIfInBounds (k * 4 + 3) v3) 93 (0, 0)))
    (hn : ∃ m1 m2, wr.heap.size ≤ m1 ∧ m1 ≤ m2 ∧ m2 ≤ w4.heap.size ∧ OwnL 9 w4 wr.heap.size m1 v1 (vS (nthN ns k).2.1) ∧ OwnL 9 w4 m1 m2 v2 (vS (nthN ns k).2.2.1) ∧ OwnL 3 w4 m2 w4.heap.size v3 (vI (nthN ns k).2.2.2)) :
    SlabO w4 (g + 1) g c ns (k + 1) ∧ RestN w4 g (k + 1) es ns.length := by
  obtain ⟨cr, hr, hrc⟩ := hR
  have hg2 := hg cr hr
  obtain ⟨m1, m2, a1, a2, a3, o1, o2, o3⟩ := hn
  refine ⟨hS.push (p := .bool (nthN ns k).1) (q := v1) (r := v2) (s := v3) (Nat.lt_succ_self _) hsz hb (fun cur hh hs => ?_) ⟨rfl, m1, m2, a1, a2, a3, o1, o2, o3⟩, ⟨_, hg2, fun i h1 h2 => (hrc i (by omega) h2).same fun o o1 o2 => ?_⟩⟩
  · have ec : cur = cr := by
      have := hh.symm.trans hr
      cases this; rfl
    subst ec
    refine ⟨_, hg2, by simpa using hs, fun o ho => ?_, ?_, ?_, ?_, ?_⟩
    · repeat rw [Array.getElem?_setIfInBounds_ne (by omega)]
    · repeat rw [Array.getElem?_setIfInBounds_ne (by omega)]
      rw [← hl]
      exact (hrc k (Nat.le_refl _) hk).1
    · repeat rw [Array.getElem?_setIfInBounds_ne (by omega)]
      rw [Array.getElem?_setIfInBounds_self_of_lt (by first | omega | (simp; omega))]
    · repeat rw [Array.getElem?_setIfInBounds_ne (by omega)]
      rw [Array.getElem?_setIfInBounds_self_of_lt (by first | omega | (simp; omega))]
    · rw [Array.getElem?_setIfInBounds_self_of_lt (by first | omega | (simp; omega))]
  · repeat rw [Array.getElem?_setIfInBounds_ne (by omega)]
end Go.Proofs.Ythflalpapdaidaa
