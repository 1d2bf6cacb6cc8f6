/- Trees are marked (stage 14). -/
import Derived.Test.YthjibgnhpkonbaaCjC
namespace Go.Proofs.Ythjibgnhpkonbaa
open Go.RowKit

/-- A marked node. -/
def labN (k : Int) : ND := ⟨k, k + 1, mtx (k + 2), mtx (k + 3), k + 4, k + 5, mtx (k + 6)⟩
/-- These trees, marked from k on. -/
def lab : Fo → Int → Fo
  | .nil, _ => .nil
  | .cons _ ks r, k => .cons (labN k) (lab ks (k + 7)) (lab r (k + 7 * ((ks.size : Int) + 1)))
theorem lab_len : ∀ (f : Fo) (k : Int), (lab f k).len = f.len
  | .nil, _ => rfl
  | .cons _ ks r, k => by simp only [lab, Fo.len, lab_len r]
theorem lab_at : ∀ (f : Fo) (k : Int) (i : Nat), i < f.len → (lab f k).node i = labN (k + 7 * (f.upTo i : Int)) ∧ (lab f k).kids i = lab (f.kids i) (k + 7 * (f.upTo i : Int) + 7)
  | .nil, _, _, h => by simp [Fo.len] at h
  | .cons x ks r, k, 0, _ => by simp [lab, Fo.node, Fo.kids, Fo.upTo]
  | .cons x ks r, k, i + 1, h => by
    obtain ⟨h1, h2⟩ := lab_at r (k + 7 * ((ks.size : Int) + 1)) i (by simp only [Fo.len] at h; omega)
    have e : k + 7 * ((ks.size : Int) + 1) + 7 * (r.upTo i : Int) = k + 7 * ((Fo.cons x ks r).upTo (i + 1) : Int) := by simp only [Fo.upTo]; push_cast; omega
    rw [e] at h1 h2
    exact ⟨h1, h2⟩

/-- A list of trees in block h, of which the first j are marked from k on. -/
structure MkI (w : World) (h c hi : Nat) (k : Int) (ks : Fo) (ms : Nat → Nat) (vs : Nat → Value) (j : Nat) (wr : World) : Prop where
  blk : ∃ cur : Array Value, wr.heap[h]? = some (.cells cur 33 (0, 0)) ∧ cur.size = c * 8 ∧ (∀ i, i < j → ElC cur i (labN (k + 7 * (ks.upTo i : Int))) (vs i)) ∧ ∀ i, j ≤ i → i < ks.len → cur[i * 8 + 7]? = some (vs i)
  did : ∀ i, i < j → KidD wr (ms i) (ms (i + 1)) (vs i) (lab (ks.kids i) (k + 7 * (ks.upTo i : Int) + 7))
  todo : ∀ i, j ≤ i → i < ks.len → KidD wr (ms i) (ms (i + 1)) (vs i) (ks.kids i)
  kept : Kept (fun b => h ≤ b ∧ b < hi) w wr
/-- The j-th one's own cells are marked, too. -/
structure MkM (w : World) (h c hi : Nat) (k : Int) (ks : Fo) (ms : Nat → Nat) (vs : Nat → Value) (j : Nat) (wr : World) : Prop where
  blk : ∃ cur : Array Value, wr.heap[h]? = some (.cells cur 33 (0, 0)) ∧ cur.size = c * 8 ∧ (∀ i, i < j + 1 → ElC cur i (labN (k + 7 * (ks.upTo i : Int))) (vs i)) ∧ ∀ i, j ≤ i → i < ks.len → cur[i * 8 + 7]? = some (vs i)
  did : ∀ i, i < j → KidD wr (ms i) (ms (i + 1)) (vs i) (lab (ks.kids i) (k + 7 * (ks.upTo i : Int) + 7))
  todo : ∀ i, j ≤ i → i < ks.len → KidD wr (ms i) (ms (i + 1)) (vs i) (ks.kids i)
  kept : Kept (fun b => h ≤ b ∧ b < hi) w wr
theorem MkI.mid {w wr w' : World} {h c hi j : Nat} {k q : Int} {ks : Fo} {ms : Nat → Nat} {vs : Nat → Value} (H : MkI w h c hi k ks ms vs j wr) (h1 : h + 1 ≤ ms 0) (h2 : ∀ i, i < ks.len → ms i ≤ ms (i + 1)) (hj : j < ks.len) (hc : ks.len ≤ c) (hlt : h < hi) (hq : q = k + 7 * (ks.upTo j : Int))
    (hK : Kept (fun b => b = h) wr w')
    (hh : ∀ cur : Array Value, wr.heap[h]? = some (.cells cur 33 (0, 0)) → cur.size = c * 8 → w'.heap[h]? = some (.cells (((((((cur.setIfInBounds (j * 8) (.int .i64 q)).setIfInBounds (j * 8 + 1) (.int .i64 (q + 1))).setIfInBounds (j * 8 + 2) (.string (mtx (q + 2)))).setIfInBounds (j * 8 + 3) (.string (mtx (q + 3)))).setIfInBounds (j * 8 + 4) (.int .i64 (q + 4))).setIfInBounds (j * 8 + 5) (.int .i64 (q + 5))).setIfInBounds (j * 8 + 6) (.string (mtx (q + 6)))) 33 (0, 0))) :
    MkM w h c hi k ks ms vs j w' := by
  obtain ⟨⟨cur, e, hs, a1, a2⟩, did, todo, kept⟩ := H
  have e' := hh cur e hs
  have hm : ∀ i, i ≤ ks.len → h + 1 ≤ ms i := fun i hi' => Nat.le_trans h1 (ms_le h2 0 i (Nat.zero_le _) hi')
  refine ⟨⟨_, e', by simpa using hs, fun i hi' => ?_, fun i p1 p2 => ?_⟩, fun i hi' => (did i hi').same fun b p1 p2 p3 => hK.block b p3 (by have := hm i (by omega); omega), fun i p1 p2 => (todo i p1 p2).same fun b q1 q2 q3 => hK.block b q3 (by have := hm i (by omega); omega), kept.trans (hK.mono fun b e => by subst e; exact ⟨Nat.le_refl _, hlt⟩)⟩
  · by_cases ei : i = j
    · subst ei
      rw [← hq]
      refine ⟨?_, ?_, ?_, ?_, ?_, ?_, ?_, ?_⟩
      all_goals
        repeat rw [Array.getElem?_setIfInBounds_ne (by omega)]
        first
          | (rw [Array.getElem?_setIfInBounds_self_of_lt (by first | omega | (simp; omega))]; rfl)
          | exact a2 i (Nat.le_refl _) hj
    · refine (a1 i (by omega)).same fun o o1 o2 => ?_
      repeat rw [Array.getElem?_setIfInBounds_ne (by omega)]
  · repeat rw [Array.getElem?_setIfInBounds_ne (by omega)]
    exact a2 i p1 p2
theorem MkM.next {w wr w' : World} {h c hi j : Nat} {k : Int} {ks : Fo} {ms : Nat → Nat} {vs : Nat → Value} (H : MkM w h c hi k ks ms vs j wr) (h1 : h + 1 ≤ ms 0) (h2 : ∀ i, i < ks.len → ms i ≤ ms (i + 1)) (h3 : ms ks.len ≤ hi) (hj : j < ks.len)
    (hk : KidD w' (ms j) (ms (j + 1)) (vs j) (lab (ks.kids j) (k + 7 * (ks.upTo j : Int) + 7))) (hK : Kept (fun b => ms j ≤ b ∧ b < ms (j + 1)) wr w') : MkI w h c hi k ks ms vs (j + 1) w' := by
  obtain ⟨⟨cur, e, hs, a1, a2⟩, did, todo, kept⟩ := H
  have hm : ∀ i, i ≤ ks.len → h + 1 ≤ ms i := fun i hi' => Nat.le_trans h1 (ms_le h2 0 i (Nat.zero_le _) hi')
  have hmj := hm j (by omega)
  refine ⟨⟨cur, (hK.block h (slab_lt e) (by omega)).trans e, hs, a1, fun i p1 p2 => a2 i (by omega) p2⟩, fun i hi' => ?_, fun i p1 p2 => ?_, kept.trans (hK.mono fun b p => ⟨by omega, by have := ms_le h2 (j + 1) ks.len (by omega) (Nat.le_refl _); omega⟩)⟩
  · by_cases ei : i = j
    · subst ei; exact hk
    · refine (did i (by omega)).same fun b q1 q2 q3 => hK.block b q3 ?_
      have := ms_le h2 (i + 1) j (by omega) (by omega)
      omega
  · refine (todo i (by omega) p2).same fun b q1 q2 q3 => hK.block b q3 ?_
    have := ms_le h2 (j + 1) i (by omega) (by omega)
    omega
theorem MkI.done {w wr : World} {h c hi : Nat} {k : Int} {ks : Fo} {ms : Nat → Nat} {vs : Nat → Value} (H : MkI w h c hi k ks ms vs ks.len wr) (h1 : h + 1 ≤ ms 0) (h2 : ∀ i, i < ks.len → ms i ≤ ms (i + 1)) (h3 : ms ks.len ≤ hi) (hc : ks.len ≤ c) (lo : Nat) (hlo : lo ≤ h) (hlt : h < hi) : KidD wr lo hi (.slice (some ⟨h, 0, none⟩) ks.len c) (lab ks k) ∧ Kept (fun b => lo ≤ b ∧ b < hi) w wr := by
  obtain ⟨⟨cur, e, hs, a1, _⟩, did, _, kept⟩ := H
  refine ⟨.inr ⟨h, c, cur, by rw [lab_len], by rw [lab_len]; exact hc, hlo, hlt, e, hs, DeepT.mk ms h1 (by rw [lab_len]; exact h2) (by rw [lab_len]; exact h3) fun j hj => ?_⟩, kept.mono fun b p => ⟨by omega, p.2⟩⟩
  rw [lab_len] at hj
  obtain ⟨l1, l2⟩ := lab_at ks k j hj
  rw [l1, l2, Nat.zero_add]
  exact ⟨vs j, (a1 j hj).cell e, did j hj⟩
theorem MkI.start {w : World} {h c hi : Nat} {cur : Array Value} (k : Int) {ks : Fo} (e : w.heap[h]? = some (.cells cur 33 (0, 0))) (hs : cur.size = c * 8) (hlt : h < hi) (hd : DeepT w ks (h + 1) hi h 0) : ∃ (ms : Nat → Nat) (vs : Nat → Value), (h + 1 ≤ ms 0 ∧ (∀ i, i < ks.len → ms i ≤ ms (i + 1)) ∧ ms ks.len ≤ hi) ∧ MkI w h c hi k ks ms vs 0 w := by
  obtain ⟨ms, q1, q2, q3, q4⟩ := hd.at (by omega)
  obtain ⟨vs, hv⟩ : ∃ vs : Nat → Value, ∀ j, j < ks.len → CellT w h ((0 + j) * 8) (ks.node j) (vs j) ∧ KidD w (ms j) (ms (j + 1)) (vs j) (ks.kids j) := by
    classical
    exact ⟨fun j => if hj : j < ks.len then Classical.choose (q4 j hj) else .bool false, fun j hj => by simp only [dif_pos hj]; exact Classical.choose_spec (q4 j hj)⟩
  refine ⟨ms, vs, ⟨q1, q2, q3⟩, ⟨cur, e, hs, fun i hi => by omega, fun i _ hi => ?_⟩, fun i hi => by omega, fun i _ hi => (hv i hi).2, Kept.refl _ _⟩
  have := (hv i hi).1
  rw [Nat.zero_add] at this
  exact (ElC.of this e).2.2.2.2.2.2.2
theorem MkI.there {w wr : World} {h c hi j o : Nat} {k : Int} {ks : Fo} {ms : Nat → Nat} {vs : Nat → Value} (H : MkI w h c hi k ks ms vs j wr) (ho : o < c * 8) : (∃ v, wr.cell? ⟨h, o, none⟩ = some v) ∧ (∀ q, wr.frozen? ⟨h, q, none⟩ = false) ∧ h < wr.heap.size := by
  obtain ⟨⟨cur, e, hs, _⟩, _⟩ := H
  exact ⟨blk_there e (by omega), fun q => slab_free e, slab_lt e⟩
/-- A block with room for so many cells. -/
def Room (w : World) (h n : Nat) (A : Array Value) : Prop := w.heap[h]? = some (.cells A 33 (0, 0)) ∧ A.size = n
theorem Room.there {w : World} {h n o : Nat} {A : Array Value} (H : Room w h n A) (ho : o < n) : ∃ v, w.cell? ⟨h, o, none⟩ = some v := blk_there H.1 (by rw [H.2]; exact ho)
theorem Room.free {w : World} {h n : Nat} {A : Array Value} (H : Room w h n A) (q : Nat) : w.frozen? ⟨h, q, none⟩ = false := slab_free H.1
theorem Room.set {w : World} {h n o : Nat} {A : Array Value} (H : Room w h n A) (v : Value) : Room (w.setCell ⟨h, o, none⟩ v) h n (A.setIfInBounds o v) := ⟨slab_set H.1 v, by simpa using H.2⟩
theorem Room.below {w w' : World} {h n : Nat} {A : Array Value} (H : Room w h n A) (hb : Below w.heap.size w w') : Room w' h n A := ⟨(hb.block h (slab_lt H.1)).trans H.1, H.2⟩

/-- What markTreeS does to these trees. -/
def MkS (ks : Fo) : Prop := ∀ (v : Value) (lo hi : Nat) (k : Int) (w : World), KidD w lo hi v ks → 0 ≤ k → k + 7 * (ks.size : Int) ≤ 288230376151711744 → ks.size ≤ 1048577 →
    Calls Try.prog 14 #[v, .int .i64 k] w fun e w' => e = .returned (.int .i64 (k + 7 * (ks.size : Int))) ∧ KidD w' lo hi v (lab ks k) ∧ Kept (fun b => lo ≤ b ∧ b < hi) w w'
set_option maxRecDepth 100000 in
theorem markS_nil (a : Option Addr) (c : Nat) (k : Int) (w : World) : Calls Try.prog 14 #[.slice a 0 c, .int .i64 k] w fun e w' => e = .returned (.int .i64 k) ∧ w' = w := by
  go_enter Try.func14, Try.ntmps14
  go_wp2
  go_loop [1, 5] (fun m i => m = .int .i64 k ∧ i = .int .i64 0) (fun _ _ => 0)
  case atStart => exact ⟨rfl, rfl⟩
  case round =>
    obtain ⟨rfl, rfl⟩ := hrel
    go_wp2
    go_ret
    exact ⟨rfl, rfl⟩
theorem nil_of_len {ks : Fo} (h : ks.len = 0) : ks = .nil := by
  cases ks with
  | nil => rfl
  | cons _ _ _ => simp [Fo.len] at h
set_option maxRecDepth 100000 in
set_option maxHeartbeats 8000000 in
theorem markS_step (ks : Fo) (ih : ∀ i, i < ks.len → MkS (ks.kids i)) : MkS ks := by
  intro v lo hi k w hk k0 k1 hsz
  have hlen : ks.len ≤ 1048577 := Nat.le_trans ks.len_le hsz
  rcases hk with ⟨rfl, h0⟩ | ⟨h, c, cur, rfl, p1, p2, p3, p4, p5, p6⟩
  · obtain rfl := nil_of_len h0
    refine (markS_nil none 0 k w).mono ?_
    rintro e w' ⟨rfl, rfl⟩
    exact ⟨by simp [Fo.size], .inl ⟨rfl, rfl⟩, Kept.refl _ _⟩
  obtain ⟨ms, vs, ⟨q1, q2, q3⟩, H0⟩ := MkI.start k p4 p5 p3 p6
  have HI : Hid ((∀ i, i < ks.len → MkS (ks.kids i)) ∧ ks.len ≤ c ∧ h < hi ∧ lo ≤ h) := ⟨ih, p1, p3, p2⟩
  have HQ : Hid (h + 1 ≤ ms 0 ∧ (∀ i, i < ks.len → ms i ≤ ms (i + 1)) ∧ ms ks.len ≤ hi) := ⟨q1, q2, q3⟩
  have HH : Hid (MkI w h c hi k ks ms vs 0 w) := H0
  have HZ : Hid (k + 7 * (ks.size : Int) ≤ 288230376151711744 ∧ ks.size ≤ 1048577) := ⟨k1, hsz⟩
  clear ih p1 p2 p3 p4 p5 p6 q1 q2 q3 H0 k1 hsz
  obtain ⟨len, hL⟩ : ∃ m, ks.len = m := ⟨_, rfl⟩
  have HL : Hid (ks.len = len) := hL
  rw [hL] at hlen ⊢
  clear hL
  go_enter Try.func14, Try.ntmps14
  go_wp2
  go_loopw [1, 5] (fun m i wr => ∃ (j : Nat) (q : Int), j ≤ len ∧ i = .int .i64 j ∧ m = .int .i64 q ∧ Hid (q = k + 7 * (ks.upTo j : Int)) ∧ Hid (MkI w h c hi k ks ms vs j wr)) (fun _ i _ => len - (intOf i).toNat)
  case atStart => exact ⟨0, k, by omega, rfl, rfl, by show _ = _; rw [Fo.upTo_zero]; simp, HH⟩
  case round =>
    clear HH
    obtain ⟨j, q, hj, rfl, rfl, HE, HS⟩ := hrel
    by_cases hlt : j < len
    · have hltI : (j : Int) < (len : Int) := by omega
      have hjk : j < ks.len := by rw [HL.out]; exact hlt
      have hup := ks.upTo_succ j hjk
      have hle := ks.upTo_le (j + 1)
      have qb : 0 ≤ q ∧ q + 7 ≤ 288230376151711744 := by have := HE.out; have := HZ.out; omega
      obtain ⟨qb0, qb1⟩ := qb
      obtain ⟨cur, hcur, hcs, hc1, hc2⟩ := HS.out.blk
      have hjc : j < c := Nat.lt_of_lt_of_le hjk HI.out.2.1
      have R0 : Room wr h (c * 8) cur := ⟨hcur, hcs⟩
      obtain ⟨v0, hv0⟩ := R0.there (o := j * 8) (by omega)
      obtain ⟨v1, hv1⟩ := R0.there (o := j * 8 + 1) (by omega)
      have hf := R0.free
      have HR : Hid (Room wr h (c * 8) cur ∧ j < c ∧ cur[j * 8 + 7]? = some (vs j)) := ⟨R0, hjc, hc2 j (Nat.le_refl _) hjk⟩
      have HN : Hid (j < ks.len ∧ ks.upTo (j + 1) = ks.upTo j + (ks.kids j).size + 1 ∧ ks.upTo (j + 1) ≤ ks.size) := ⟨hjk, hup, hle⟩
      clear hjk hup hle hjc hc1 hc2 hcs R0 hcur
      go_wp2_with fail
      refine (markText_any (q + 1 + 1) _ (by omega) (by omega)).mono ?_
      rintro e w1 ⟨rfl, ht2, b1⟩
      have K1 : Kept (fun b => b = h) wr w1 := (((Kept.refl (fun b => b = h) wr).set _ rfl).set _ rfl).trans (Kept.of_below b1)
      have R1 := ((HR.out.1.set (o := j * 8) (.int .i64 q)).set (o := j * 8 + 1) (.int .i64 (q + 1))).below b1
      have HW1 : Hid (Kept (fun b => b = h) wr w1 ∧ Room w1 h (c * 8) ((cur.setIfInBounds (j * 8) (.int .i64 q)).setIfInBounds (j * 8 + 1) (.int .i64 (q + 1)))) := ⟨K1, R1⟩
      obtain ⟨v2, hv2⟩ := R1.there (o := j * 8 + 2) (by have := HR.out.2.1; omega)
      have hf1 := R1.free
      obtain ⟨t2, ht2'⟩ : ∃ t, mtx (q + 1 + 1) = t := ⟨_, rfl⟩
      have HT2 : Hid (mtx (q + 1 + 1) = t2) := ht2'
      rw [ht2'] at ht2 ⊢
      clear ht2' K1 R1 b1 hv0 hv1 hf
      go_wp2_with fail
      refine (markText_any (q + 1 + 1 + 1) _ (by omega) (by omega)).mono ?_
      rintro e w2 ⟨rfl, ht3, b2⟩
      have K2 : Kept (fun b => b = h) wr w2 := (HW1.out.1.set _ rfl).trans (Kept.of_below b2)
      have R2 := (HW1.out.2.set (o := j * 8 + 2) (.string t2)).below b2
      have HW2 : Hid (Kept (fun b => b = h) wr w2 ∧ Room w2 h (c * 8) (((cur.setIfInBounds (j * 8) (.int .i64 q)).setIfInBounds (j * 8 + 1) (.int .i64 (q + 1))).setIfInBounds (j * 8 + 2) (.string t2))) := ⟨K2, R2⟩
      obtain ⟨v3, hv3⟩ := R2.there (o := j * 8 + 3) (by have := HR.out.2.1; omega)
      obtain ⟨v4, hv4⟩ := R2.there (o := j * 8 + 4) (by have := HR.out.2.1; omega)
      obtain ⟨v5, hv5⟩ := R2.there (o := j * 8 + 5) (by have := HR.out.2.1; omega)
      have hf2 := R2.free
      obtain ⟨t3, ht3'⟩ : ∃ t, mtx (q + 1 + 1 + 1) = t := ⟨_, rfl⟩
      have HT3 : Hid (mtx (q + 1 + 1 + 1) = t3) := ht3'
      rw [ht3'] at ht3 ⊢
      clear ht3' K2 R2 b2 hv2 hf1 ht2 HW1
      go_wp2_with fail
      refine (markText_any (q + 1 + 1 + 1 + 1 + 1 + 1) _ (by omega) (by omega)).mono ?_
      rintro e w3 ⟨rfl, ht6, b3⟩
      have K3 : Kept (fun b => b = h) wr w3 := (((HW2.out.1.set _ rfl).set _ rfl).set _ rfl).trans (Kept.of_below b3)
      have R3 := (((HW2.out.2.set (o := j * 8 + 3) (.string t3)).set (o := j * 8 + 4) (.int .i64 (q + 1 + 1 + 1 + 1))).set (o := j * 8 + 5) (.int .i64 (q + 1 + 1 + 1 + 1 + 1))).below b3
      obtain ⟨v6, hv6⟩ := R3.there (o := j * 8 + 6) (by have := HR.out.2.1; omega)
      have hf3 := R3.free
      obtain ⟨t6, ht6'⟩ : ∃ t, mtx (q + 1 + 1 + 1 + 1 + 1 + 1) = t := ⟨_, rfl⟩
      have HT6 : Hid (mtx (q + 1 + 1 + 1 + 1 + 1 + 1) = t6) := ht6'
      rw [ht6'] at ht6 ⊢
      have e2 : mtx (q + 2) = t2 := by rw [show q + 2 = q + 1 + 1 by omega]; exact HT2.out
      have e3 : mtx (q + 3) = t3 := by rw [show q + 3 = q + 1 + 1 + 1 by omega]; exact HT3.out
      have e6 : mtx (q + 6) = t6 := by rw [show q + 6 = q + 1 + 1 + 1 + 1 + 1 + 1 by omega]; exact ht6'
      have HM : Hid (MkM w h c hi k ks ms vs j (w3.setCell ⟨h, j * 8 + 6, none⟩ (.string t6))) := HS.out.mid HQ.out.1 HQ.out.2.1 HN.out.1 HI.out.2.1 HI.out.2.2.1 HE.out (K3.set _ rfl) fun cur' hc' _ => by
        have e : cur' = cur := by
          have := hc'.symm.trans HR.out.1.1
          cases this; rfl
        rw [e, e2, e3, e6, show q + 4 = q + 1 + 1 + 1 + 1 by omega, show q + 5 = q + 1 + 1 + 1 + 1 + 1 by omega]
        exact (R3.set (o := j * 8 + 6) (.string t6)).1
      have c7 : w3.cell? ⟨h, j * 8 + 7, none⟩ = some (vs j) := by
        rw [slab_cell R3.1]
        repeat rw [Array.getElem?_setIfInBounds_ne (by omega)]
        exact HR.out.2.2
      have hc := (HI.out.1 j HN.out.1) (vs j) (ms j) (ms (j + 1)) (q + 1 + 1 + 1 + 1 + 1 + 1 + 1) _ (HM.out.todo j (Nat.le_refl _) HN.out.1) (by omega) (by have := HE.out; have := HZ.out; have := HN.out; omega) (by have := HN.out; have := HZ.out; omega)
      clear e2 e3 e6 K3 R3 b3 hv3 hv4 hv5 hf2 ht3 HW2 ht6' HT2 HT3 HT6 HS
      obtain ⟨vj, hvj⟩ : ∃ vj, vs j = vj := ⟨_, rfl⟩
      have HV : Hid (vj = vs j) := hvj.symm
      rw [hvj] at hc c7
      clear hvj
      go_wp2_with fail
      refine hc.mono ?_
      rintro e w4 ⟨rfl, hk4, K4⟩
      have HN4 : Hid (MkI w h c hi k ks ms vs (j + 1) w4) := HM.out.next HQ.out.1 HQ.out.2.1 HQ.out.2.2 HN.out.1 (by rw [← HE.out, show q + 7 = q + 1 + 1 + 1 + 1 + 1 + 1 + 1 by omega]; exact HV.out ▸ hk4) K4
      obtain ⟨q', hq'⟩ : ∃ q', q + 1 + 1 + 1 + 1 + 1 + 1 + 1 + 7 * ((ks.kids j).size : Int) = q' := ⟨_, rfl⟩
      have HE' : Hid (q' = k + 7 * (ks.upTo (j + 1) : Int)) := by show _ = _; have := HE.out; have := HN.out; omega
      rw [hq']
      clear hc hk4 K4 HM hq' c7 hv6 hf3 ht6
      go_wp2
      go_roundw
      case rel => exact ⟨j + 1, q', by omega, by go_num, rfl, HE', HN4⟩
      case measure => simp [intOf]; omega
    · obtain rfl : j = len := by omega
      obtain ⟨D1, D2⟩ := MkI.done (by rw [HL.out]; exact HS.out) HQ.out.1 HQ.out.2.1 HQ.out.2.2 HI.out.2.1 lo HI.out.2.2.2 HI.out.2.2.1
      rw [HL.out] at D1
      have HD : Hid (KidD wr lo hi (.slice (some ⟨h, 0, none⟩) j c) (lab ks k) ∧ Kept (fun b => lo ≤ b ∧ b < hi) w wr) := ⟨D1, D2⟩
      have HV : Hid (q = k + 7 * (ks.size : Int)) := by show _ = _; rw [HE.out, ← HL.out, Fo.upTo_len]
      clear D1 D2 HS
      go_wp2
      go_ret
      exact ⟨ret_int' HV.out, HD.out.1, HD.out.2⟩
theorem markS_size : ∀ (n : Nat) (ks : Fo), ks.size < n → MkS ks
  | 0, _, h => by omega
  | n + 1, ks, h => markS_step ks fun i hi => markS_size n _ (by have := ks.kids_lt i hi; omega)
theorem markS_any (ks : Fo) : MkS ks := markS_size _ ks (Nat.lt_succ_self _)
end Go.Proofs.Ythjibgnhpkonbaa
