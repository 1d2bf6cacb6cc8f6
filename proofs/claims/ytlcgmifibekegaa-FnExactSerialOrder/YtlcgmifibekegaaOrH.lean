/- Edges as a law handles them (stage 8). -/
import Derived.Test.YtlcgmifibekegaaPrA
import Derived.Test.YtlcgmifibekegaaHoL
namespace Go.Proofs.Ytlcgmifibekegaa
open Go.ChangeShapes Go.WideShapes Go.ChangeAt Go.RowKit Go.Joins

theorem SlabP.kept {S : Nat → Prop} {w w' : World} {g n k : Nat} {ss : List P2} (h : SlabP w g n ss k) (hK : Kept S w w') (hS : ¬ S g) : SlabP w' g n ss k := by
  have hl := h.lt
  obtain ⟨cur, hh, r⟩ := h
  exact ⟨cur, (hK.block g hl hS).trans hh, r⟩
theorem markP_slab (g n c : Nat) (ss : List P2) (w : World) (h : SlabP w g n ss n) (hn : n ≤ 1048576) (k : Int) (k0 : 0 ≤ k) (k1 : k ≤ 1000000000) :
    Calls Try.prog 44 #[.slice (some ⟨g, 0, none⟩) n c, .int .i64 k] w fun r w' => r = .returned (.int .i64 (k + 2 * n)) ∧ Kept (fun j => j = g) w w' := by
  obtain ⟨cur, hh, hs, _⟩ := h
  refine (markE_vals g n c (n * 2) cur k w hh hs (Nat.le_refl _) k0 k1 hn).mono ?_
  rintro r w' ⟨rfl, _, hK⟩
  exact ⟨rfl, hK⟩
set_option maxRecDepth 100000 in
theorem toP1_any (p : P2) (w : World) : Calls Try.prog 93 #[PV p] w fun e w' => e = .returned (PV p) ∧ Below w.heap.size w w' := by
  obtain ⟨x, y⟩ := p
  go_enter Try.func93, Try.ntmps93
  go_wp2
  exact bodyPost_ret (v := .agg #[.int .i64 x, .int .i64 y]) (by simp [results, Try.results93, go_sem]) rfl ⟨rfl, (((Below.refl _ _).alloc (Nat.le_refl _) _).alloc (by simp) _).alloc (by simp; omega) _⟩
theorem szP_any (a : Option Addr) (cap : Nat) (ss : List P2) (left : Int) (w : World) (hlen : ss.length ≤ maxLen) (h0 : 0 ≤ left) (h1 : left ≤ 1048576) :
    Calls Try.prog 46 #[.slice a ss.length cap, .int .i64 left] w fun e w' => ∃ r : Int, e = .returned (.int .i64 r) ∧ -1 ≤ r ∧ r ≤ left ∧ (0 ≤ r → (ss.length : Int) ≤ left) ∧ Below w.heap.size w w' := by
  unfold maxLen at hlen
  generalize ss.length = len at *
  by_cases hlt : left - (len : Int) < 0
  · go_enter Try.func46, Try.ntmps46
    go_wp2
    go_ret
    exact ⟨-1, rfl, by omega, by omega, fun h => by omega, Below.refl _ _⟩
  · go_enter Try.func46, Try.ntmps46
    go_wp2
    go_ret
    exact ⟨_, rfl, by omega, by omega, fun _ => by omega, Below.refl _ _⟩
set_option maxRecDepth 100000 in
set_option maxHeartbeats 2000000 in
theorem toP_any (a : Option Addr) (cap : Nat) (ss : List P2) (w : World) (hrow : RowP w a ss) (hlen : ss.length ≤ 1048576) :
    Calls Try.prog 48 #[.slice a ss.length cap] w fun e w' => ∃ g, e = .returned (.slice (some ⟨g, 0, none⟩) ss.length ss.length) ∧ w.heap.size ≤ g ∧ SlabP w' g ss.length ss ss.length ∧ Below w.heap.size w w' := by
  have HR : Hid (RowP w a ss) := hrow
  clear hrow
  generalize hL : ss.length = len at *
  have HL : Hid (ss.length = len) := hL
  clear hL
  obtain ⟨i0, hi, hz0, hz1, hz2⟩ := info_parts info48
  go_enter Try.func48, Try.ntmps48
  go_wp2_with (at_make; refine wpList_make_full _ rfl _ _ 28 rfl w.heap.size 48 i0 _ 2 Try.underlying28 hi hz0 hz1 .i64 .i64 _ _ len rfl rfl rfl rfl ?m1 ?m2 (Nat.le_refl _) ?_)
  case m1 => rw [hz2]; omega
  case m2 => unfold maxLen; omega
  intro w1 hown hgr
  have hB1 : Below w.heap.size w w1 := (Below.refl _ _).grown hgr (Nat.le_refl _) (fun k hk => by cases hk)
  have hS : SlabP w1 w.heap.size len ss 0 := by
    rcases hown.2 with ⟨h, _⟩ | ⟨g, c, cur, h, _, hh, _, _, hcs, _⟩
    · cases h
    · cases h
      exact ⟨cur, hh, hcs, fun i hi => by omega⟩
  clear hown hgr hi hz0 hz1 hz2
  go_wp2
  go_loopw [4] (fun i wr => ∃ k : Nat, k ≤ len ∧ i = .int .i64 k ∧ SlabP wr w.heap.size len ss k ∧ Below w.heap.size w wr) (fun i _ => len - (intOf i).toNat)
  case atStart => exact ⟨0, by omega, rfl, hS, hB1⟩
  case round =>
    obtain ⟨k, hk, rfl, hSk, hbl⟩ := hrel
    by_cases hlt : k < len
    · obtain ⟨b, off, rfl, hlb, ⟨q0, q1⟩⟩ := (HR.out.below hbl) k (by rw [HL.out]; exact hlt)
      go_wp2_with fail
      refine (toP1_any (nthP ss k) _).mono ?_
      rintro e w2 ⟨rfl, hb2⟩
      have hS2 := hSk.below hb2 hSk.lt
      have hB2 := below_step hbl (Nat.le_refl _) hb2
      obtain ⟨v0, hv0⟩ := hS2.there (j := k * 2) (by omega)
      obtain ⟨v1, hv1⟩ := hS2.there (j := k * 2 + 1) (by omega)
      have hf := hS2.free
      have hN := hS2.step hlt
      have HN : Hid (SlabP _ _ _ _ (k + 1)) := hN
      clear q0 q1 hb2 hlb hSk hbl hS2 hN hS hB1
      go_wp2
      go_roundw
      case rel => exact ⟨k + 1, by omega, by go_num, HN.out, ((hB2.setCell (p := ⟨w.heap.size, k * 2, none⟩) (Nat.le_refl _) _).setCell (p := ⟨w.heap.size, k * 2 + 1, none⟩) (Nat.le_refl _) _)⟩
      case measure => simp [intOf]; omega
    · obtain rfl : k = len := by omega
      go_wp2
      go_ret
      exact ⟨_, rfl, Nat.le_refl _, hSk, hbl⟩
theorem cells139 : Try.prog.cellsOf 139 = 2 := by kernel_rfl
theorem exists_listP {P : Nat → P2 → Prop} : ∀ n, (∀ i, i < n → ∃ v, P i v) → ∃ vs : List P2, vs.length = n ∧ ∀ i, i < n → P i (nthP vs i)
  | 0, _ => ⟨[], rfl, fun i hi => by omega⟩
  | n + 1, h => by
    obtain ⟨vs, hl, hv⟩ := exists_listP n (fun i hi => h i (by omega))
    obtain ⟨v, hp⟩ := h n (by omega)
    refine ⟨vs ++ [v], by simp [hl], fun i hi => ?_⟩
    by_cases e : i = n
    · subst e
      have : nthP (vs ++ [v]) i = v := by unfold nthP; simp [List.getD_eq_getElem?_getD, hl]
      rw [this]; exact hp
    · have : nthP (vs ++ [v]) i = nthP vs i := by unfold nthP; rw [List.getD_eq_getElem?_getD, List.getD_eq_getElem?_getD, List.getElem?_append_left (by omega)]
      rw [this]; exact hv i (by omega)
set_option maxRecDepth 100000 in
theorem open_rowP {H : Type} {enc : TypeId × Value → H} {W : World} {fuel : Nat} {v : Value} {x : DataW H × List MemPlace}
    (hf : DataW.trod enc Try.prog W 0 (fun _ => true) true fuel 72 [v] = some x) : ∃ a len cap, v = .slice a len cap ∧ ∃ ns : List P2, ns.length = len ∧ RowP W a ns ∧ len ≤ maxLen := by
  rcases Deep.open_slice Try.underlying72 hf with ⟨hcs, _⟩ | ⟨ad, l, c, m, n, D, Pl, hcs, _, hl, hm, hmm, _, hel⟩
  · simp at hcs
    exact ⟨none, 0, 0, hcs, [], rfl, fun i hi => by simp at hi, Nat.zero_le _⟩
  · simp at hcs hmm
    subst hcs hmm
    refine ⟨_, _, _, rfl, ?_⟩
    rw [cells139] at hel
    have key : ∀ i, i < l → ∃ p : P2, ∃ b off, some ad = some ⟨b, off, none⟩ ∧ b < W.heap.size ∧ CellP W b (off + i * 2) p := fun i hi => by
      obtain ⟨cs', h1, h2⟩ := hel i (by omega)
      obtain ⟨_, hlen, hcell⟩ := World.cells?_some h1
      match cs', hlen with
      | [c0, c1], _ =>
        obtain ⟨y0, y1, n', _, _, e0, e1⟩ := trod_struct2 Try.underlying139 h2
        simp [cells3] at e0 e1
        obtain ⟨p0, q0, _, _⟩ := DataW.trod_int Try.underlying3 e0
        obtain ⟨p1, q1, _, _⟩ := DataW.trod_int Try.underlying3 e1
        simp at q0 q1
        subst q0 q1
        have d0 := hcell 0 (by omega)
        have d1 := hcell 1 (by omega)
        obtain ⟨b, off, spot⟩ := ad
        obtain ⟨cs0, g1, _⟩ := hel 0 (by omega)
        have hs : spot = none := by
          have := World.cell?_spot ((World.cells?_some g1).2.2 0 (by omega) |>.trans (List.getElem?_eq_getElem (by rw [(World.cells?_some g1).2.1]; omega)))
          simpa [Addr.add] using this
        subst hs
        rw [add_plain, add_plain] at d0 d1
        exact ⟨(p0, p1), b, off, rfl, World.block_lt_of_cell? W _ d0, ⟨d0, d1⟩⟩
    obtain ⟨ns, hpl, hps⟩ := exists_listP l key
    exact ⟨ns, hpl, fun i hi => hps i (by omega), Nat.le_trans hl hm⟩
end Go.Proofs.Ytlcgmifibekegaa
