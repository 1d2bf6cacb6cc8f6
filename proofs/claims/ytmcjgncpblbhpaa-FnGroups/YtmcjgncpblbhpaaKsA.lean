/- The order of rows by keys that rise or fall (stage 13). -/
import Derived.Test.YtmcjgncpblbhpaaSbB
import Derived.Test.YtmcjgncpblbhpaaKtI
namespace Go.Proofs.Ytmcjgncpblbhpaa
open Go.RowKit

/-- Turned where it falls. -/
def sgnK (d : Bool) (c : Int) : Int := if d = true then -c else c
/-- Two rows compared place by place. -/
def cmpF : List Bool → (Nat → V3) → (Nat → V3) → Int
  | [], _, _ => 0
  | d :: ds, f, g => lexI (sgnK d (cmp3 (f 0) (g 0))) (cmpF ds (fun i => f (i + 1)) (fun i => g (i + 1)))
def cmpK (ds : List Bool) (xs ys : List V3) : Int := cmpF ds (nthV xs) (nthV ys)
theorem sgn_neg (d : Bool) (c : Int) : sgnK d (-c) = -sgnK d c := by unfold sgnK; cases d <;> simp
theorem sgn_zero (d : Bool) (c : Int) : sgnK d c = 0 ↔ c = 0 := by unfold sgnK; cases d <;> simp
theorem cmpF_neg : ∀ (ds : List Bool) (f g : Nat → V3), cmpF ds f g = -cmpF ds g f
  | [], _, _ => rfl
  | d :: ds, f, g => by
    simp only [cmpF]
    rw [cmpF_neg ds, cmp3_neg, sgn_neg, lexI_neg]
theorem sgn_trans (d : Bool) (x y z : V3) (h1 : sgnK d (cmp3 x y) ≤ 0) (h2 : sgnK d (cmp3 y z) ≤ 0) : sgnK d (cmp3 x z) ≤ 0 := by
  cases d with
  | false => exact cmp3_trans x y z h1 h2
  | true =>
    simp only [sgnK, if_pos] at h1 h2 ⊢
    have a1 := cmp3_neg x y
    have a2 := cmp3_neg y z
    have a3 := cmp3_neg x z
    have := cmp3_trans z y x (by omega) (by omega)
    omega
theorem sgn_trans' (d : Bool) (x y z : V3) (h1 : sgnK d (cmp3 x y) ≤ 0) (h2 : sgnK d (cmp3 y z) ≤ 0) (h3 : sgnK d (cmp3 x z) = 0) : sgnK d (cmp3 x y) = 0 ∧ sgnK d (cmp3 y z) = 0 := by
  cases d with
  | false => exact cmp3_trans' x y z h1 h2 h3
  | true =>
    simp only [sgnK, if_pos] at h1 h2 h3 ⊢
    have a1 := cmp3_neg x y
    have a2 := cmp3_neg y z
    have a3 := cmp3_neg x z
    have := cmp3_trans' z y x (by omega) (by omega) (by omega)
    omega
theorem cmpF_trans : ∀ (ds : List Bool) (f g h : Nat → V3), cmpF ds f g ≤ 0 → cmpF ds g h ≤ 0 → cmpF ds f h ≤ 0
  | [], _, _, _ => by simp [cmpF]
  | d :: ds, f, g, h => by
    simp only [cmpF]
    exact lexI_trans (sgn_trans d _ _ _) (sgn_trans' d _ _ _) (cmpF_trans ds _ _ _)
theorem keys_lto (ds : List Bool) (ks : Rs) : LtO (ltF fun x y => cmpK ds (nthR ks x) (nthR ks y)) where
  asym x y h := by
    have := cmpF_neg ds (nthV (nthR ks x)) (nthV (nthR ks y))
    unfold cmpK at h ⊢
    simp only [decide_eq_true_eq, decide_eq_false_iff_not] at h ⊢
    omega
  trans x y z h1 h2 := by
    unfold cmpK at h1 h2 ⊢
    simp only [decide_eq_false_iff_not] at h1 h2 ⊢
    have a1 := cmpF_neg ds (nthV (nthR ks x)) (nthV (nthR ks y))
    have a2 := cmpF_neg ds (nthV (nthR ks y)) (nthV (nthR ks z))
    have a3 := cmpF_neg ds (nthV (nthR ks x)) (nthV (nthR ks z))
    have := cmpF_trans ds (nthV (nthR ks x)) (nthV (nthR ks y)) (nthV (nthR ks z)) (by omega) (by omega)
    omega
def nthB (ds : List Bool) (i : Nat) : Bool := ds.getD i false
theorem nthB_get {ds : List Bool} {i : Nat} (h : i < ds.length) : nthB ds i = ds[i] := by unfold nthB; simp [h]
theorem cmpF_ext : ∀ (ds : List Bool) (f g f' g' : Nat → V3), (∀ i, f i = f' i) → (∀ i, g i = g' i) → cmpF ds f g = cmpF ds f' g'
  | [], _, _, _, _, _, _ => rfl
  | d :: ds, f, g, f', g', h1, h2 => by
    simp only [cmpF]
    rw [h1 0, h2 0, cmpF_ext ds _ _ (fun i => f' (i + 1)) (fun i => g' (i + 1)) (fun i => h1 (i + 1)) (fun i => h2 (i + 1))]
/-- What is left of the comparison from place i on. -/
def restK (ds : List Bool) (xs ys : List V3) (i : Nat) : Int := cmpF (ds.drop i) (fun q => nthV xs (i + q)) (fun q => nthV ys (i + q))
theorem restK_zero (ds : List Bool) (xs ys : List V3) : restK ds xs ys 0 = cmpK ds xs ys := by
  unfold restK cmpK
  rw [List.drop_zero]
  exact cmpF_ext _ _ _ _ _ (fun i => by rw [Nat.zero_add]) (fun i => by rw [Nat.zero_add])
theorem restK_step {ds : List Bool} {xs ys : List V3} {i : Nat} (h : i < ds.length) : restK ds xs ys i = lexI (sgnK (nthB ds i) (cmp3 (nthV xs i) (nthV ys i))) (restK ds xs ys (i + 1)) := by
  unfold restK
  rw [List.drop_eq_getElem_cons h, nthB_get h]
  simp only [cmpF, Nat.add_zero]
  rw [cmpF_ext (ds.drop (i + 1)) _ _ (fun q => nthV xs (i + 1 + q)) (fun q => nthV ys (i + 1 + q)) (fun q => by rw [show i + (q + 1) = i + 1 + q by omega]) (fun q => by rw [show i + (q + 1) = i + 1 + q by omega])]
theorem restK_end {ds : List Bool} {xs ys : List V3} {i : Nat} (h : ds.length ≤ i) : restK ds xs ys i = 0 := by
  unfold restK
  rw [List.drop_of_length_le h]
  rfl
/-- A slice of flags can be read. -/
def BoA (w : World) (a : Option Addr) (ds : List Bool) : Prop := ∀ i, i < ds.length → ∃ b off, a = some ⟨b, off, none⟩ ∧ b < w.heap.size ∧ w.cell? ⟨b, off + i, none⟩ = some (.bool (nthB ds i))
theorem BoA.below {w w' : World} {a : Option Addr} {ds : List Bool} (h : BoA w a ds) (hb : Below w.heap.size w w') : BoA w' a ds := fun i hi => by
  obtain ⟨b, off, e, hlt, hc⟩ := h i hi
  exact ⟨b, off, e, Nat.lt_of_lt_of_le hlt hb.size, (hb.cell (p := ⟨b, off + i, none⟩) hlt).trans hc⟩
/-- Flags behind a pointer. -/
def BoP (w : World) (g : Nat) (ds : List Bool) : Prop := g < w.heap.size ∧ ∃ a c, w.cell? ⟨g, 0, none⟩ = some (.slice a ds.length c) ∧ BoA w a ds
theorem BoP.below {w w' : World} {g : Nat} {ds : List Bool} (h : BoP w g ds) (hb : Below w.heap.size w w') : BoP w' g ds := by
  obtain ⟨h1, a, c, h2, h3⟩ := h
  exact ⟨Nat.lt_of_lt_of_le h1 hb.size, a, c, (hb.cell (p := ⟨g, 0, none⟩) h1).trans h2, h3.below hb⟩
/-- Two values in memory. -/
abbrev StV (W : World) (b1 o1 : Nat) (v1 : V3) (b2 o2 : Nat) (v2 : V3) (g1 : Nat) (s1 : Value) (g2 : Nat) (s2 : Value) (w' : World) : Prop :=
  CellV w' b1 o1 v1 ∧ CellV w' b2 o2 v2 ∧ w'.cell? ⟨g1, 0, none⟩ = some s1 ∧ w'.cell? ⟨g2, 0, none⟩ = some s2 ∧ Below W.heap.size W w'
theorem StV.keep {W : World} {b1 o1 : Nat} {v1 : V3} {b2 o2 : Nat} {v2 : V3} {g1 : Nat} {s1 : Value} {g2 : Nat} {s2 : Value} {w1 w2 : World} (h : StV W b1 o1 v1 b2 o2 v2 g1 s1 g2 s2 w1) (l1 : b1 < W.heap.size) (l2 : b2 < W.heap.size) (l3 : g1 < W.heap.size) (l4 : g2 < W.heap.size) (hb : Below w1.heap.size w1 w2) : StV W b1 o1 v1 b2 o2 v2 g1 s1 g2 s2 w2 :=
  ⟨CellV.below h.1 (Nat.lt_of_lt_of_le l1 h.2.2.2.2.size) hb, CellV.below h.2.1 (Nat.lt_of_lt_of_le l2 h.2.2.2.2.size) hb, (hb.cell (p := ⟨g1, 0, none⟩) (Nat.lt_of_lt_of_le l3 h.2.2.2.2.size)).trans h.2.2.1, (hb.cell (p := ⟨g2, 0, none⟩) (Nat.lt_of_lt_of_le l4 h.2.2.2.2.size)).trans h.2.2.2.1, below_step h.2.2.2.2 (Nat.le_refl _) hb⟩
theorem cmp3_bd (x y : V3) : -1 ≤ cmp3 x y ∧ cmp3 x y ≤ 1 := by
  unfold cmp3 cmpV
  have a := cmpI_bd x.1 y.1
  have b := cmpI_bd x.2.1 y.2.1
  have c := cmpS_bd x.2.2 y.2.2
  split
  · exact a
  · split
    · exact b
    · exact c
theorem box2 (w : World) (x0 x1 y0 y1 : Value) : Below w.heap.size w ((w.alloc (.cells #[x0, x1] 70)).alloc (.cells #[y0, y1] 70)) := ((Below.refl _ _).alloc (Nat.le_refl _) _).alloc (by simp) _
set_option maxRecDepth 100000 in
set_option maxHeartbeats 8000000 in
theorem keysOrder1_any (a1 a2 : Option Addr) (c1 c2 : Nat) (u1 u2 : Option Addr) (m1 m2 e1 e2 : Nat) (ds : List Bool) (xs ys : List V3) (gd : Nat) (w : World) (h1 : RowV w a1 xs) (h2 : RowV w a2 ys) (hx : xs.length = ds.length) (hy : ys.length = ds.length) (hl : ds.length ≤ 4096) (hd : BoP w gd ds) :
    Calls Try.prog 105 #[.agg #[.slice a1 xs.length c1, .slice u1 m1 e1], .agg #[.slice a2 ys.length c2, .slice u2 m2 e2], .pointer (some ⟨gd, 0, none⟩)] w fun e w' => e = .returned (.int .i64 (cmpK ds xs ys)) ∧ Below w.heap.size w w' := by
  have HR : Hid (RowV w a1 xs ∧ RowV w a2 ys ∧ BoP w gd ds) := ⟨h1, h2, hd⟩
  have HZ : Hid (restK ds xs ys 0 = cmpK ds xs ys) := restK_zero ds xs ys
  rw [hx, hy]
  obtain ⟨n, hn⟩ : ∃ n, ds.length = n := ⟨_, rfl⟩
  have HN : Hid (ds.length = n ∧ xs.length = n ∧ ys.length = n) := ⟨hn, by omega, by omega⟩
  obtain ⟨lgd, ad, cd, hcd, hbo⟩ := hd
  rw [hn] at hcd hl ⊢
  have HB := box2 w (.slice a1 n c1) (.slice u1 m1 e1) (.slice a2 n c2) (.slice u2 m2 e2)
  have G1 : ((w.alloc (.cells #[.slice a1 n c1, .slice u1 m1 e1] 70)).alloc (.cells #[.slice a2 n c2, .slice u2 m2 e2] 70)).cell? ⟨w.heap.size, 0, none⟩ = some (.slice a1 n c1) := by simp
  have G2 : ((w.alloc (.cells #[.slice a1 n c1, .slice u1 m1 e1] 70)).alloc (.cells #[.slice a2 n c2, .slice u2 m2 e2] 70)).cell? ⟨w.heap.size + 1, 0, none⟩ = some (.slice a2 n c2) := by simp
  have G3 : ((w.alloc (.cells #[.slice a1 n c1, .slice u1 m1 e1] 70)).alloc (.cells #[.slice a2 n c2, .slice u2 m2 e2] 70)).heap.size = w.heap.size + 2 := by simp
  have hcd2 := (HB.cell (p := ⟨gd, 0, none⟩) lgd).trans hcd
  clear h1 h2 hbo hn hx hy hcd
  go_enter Try.func105, Try.ntmps105
  go_wp2_with fail
  generalize (w.alloc (.cells #[.slice a1 n c1, .slice u1 m1 e1] 70)).alloc (.cells #[.slice a2 n c2, .slice u2 m2 e2] 70) = W2 at *
  have HG : Hid (W2.cell? ⟨w.heap.size, 0, none⟩ = some (.slice a1 n c1) ∧ W2.cell? ⟨w.heap.size + 1, 0, none⟩ = some (.slice a2 n c2) ∧ W2.heap.size = w.heap.size + 2 ∧ Below w.heap.size w W2) := ⟨G1, G2, G3, HB⟩
  clear G1 G2 G3 HB hcd2
  go_loopw [10] (fun i wr => ∃ k : Nat, k ≤ n ∧ i = .int .i64 k ∧ Hid (restK ds xs ys k = cmpK ds xs ys) ∧ Below W2.heap.size W2 wr) (fun i _ => n - (intOf i).toNat)
  case atStart => exact ⟨0, by omega, rfl, HZ.out, Below.refl _ _⟩
  case round =>
    obtain ⟨k, hk, rfl, HA, hbl⟩ := hrel
    have hBw : Below w.heap.size w wr := HG.out.2.2.2.trans (hbl.mono (by have := HG.out.2.2.1; omega))
    by_cases hlt : k < n
    · have hltI : (k : Int) < (n : Int) := by omega
      obtain ⟨b1, o1, rfl, lb1, v1, _⟩ := (HR.out.1.below hBw) k (by rw [HN.out.2.1]; exact hlt)
      obtain ⟨b2, o2, rfl, lb2, v2, _⟩ := (HR.out.2.1.below hBw) k (by rw [HN.out.2.2]; exact hlt)
      obtain ⟨lg, a9, c9, q9, r9⟩ := HR.out.2.2.below hBw
      rw [HN.out.1] at q9
      have r9' : Hid (BoA wr a9 ds) := r9
      have g1 : wr.cell? ⟨w.heap.size, 0, none⟩ = some (.slice (some ⟨b1, o1, none⟩) n c1) := (hbl.cell (p := ⟨w.heap.size, 0, none⟩) (by show w.heap.size < _; have := HG.out.2.2.1; omega)).trans HG.out.1
      have g2 : wr.cell? ⟨w.heap.size + 1, 0, none⟩ = some (.slice (some ⟨b2, o2, none⟩) n c2) := (hbl.cell (p := ⟨w.heap.size + 1, 0, none⟩) (by show w.heap.size + 1 < _; have := HG.out.2.2.1; omega)).trans HG.out.2.1
      have HLL : Hid (b1 < wr.heap.size ∧ b2 < wr.heap.size ∧ w.heap.size < wr.heap.size ∧ w.heap.size + 1 < wr.heap.size) := ⟨lb1, lb2, by have := hbl.size; have := HG.out.2.2.1; omega, by have := hbl.size; have := HG.out.2.2.1; omega⟩
      have hS : Hid (StV wr b1 (o1 + k * 3) (nthV xs k) b2 (o2 + k * 3) (nthV ys k) w.heap.size (.slice (some ⟨b1, o1, none⟩) n c1) (w.heap.size + 1) (.slice (some ⟨b2, o2, none⟩) n c2) wr.drew) := ⟨v1, v2, g1, g2, (Below.refl _ _).drew⟩
      have HST : Hid (restK ds xs ys k = lexI (sgnK (nthB ds k) (cmp3 (nthV xs k) (nthV ys k))) (restK ds xs ys (k + 1))) := restK_step (by rw [HN.out.1]; exact hlt)
      have C1 : ∀ W, Calls Try.prog 75 #[VV (nthV xs k).1 (nthV xs k).2.1 (nthV xs k).2.2, VV (nthV ys k).1 (nthV ys k).2.1 (nthV ys k).2.2] W fun e w' => e = .returned (.int .i64 (cmp3 (nthV xs k) (nthV ys k))) ∧ Below W.heap.size W w' := fun W => valueOrder_any _ _ _ _ _ _ W
      have hcb := cmp3_bd (nthV xs k) (nthV ys k)
      clear v1 v2 g1 g2 lb1 lb2 r9
      generalize nthV xs k = x at *
      generalize nthV ys k = y at *
      generalize cmp3 x y = cc at *
      go_wp2_with fail
      refine wp_region_class (C := StV wr b1 (o1 + k * 3) x b2 (o2 + k * 3) y w.heap.size (.slice (some ⟨b1, o1, none⟩) n c1) (w.heap.size + 1) (.slice (some ⟨b2, o2, none⟩) n c2)) (by kernel_rfl) (by kernel_rfl) hS.out ?_
      repeat (first | go_big_quiet_skip | (go_big_quiet_want; apply Exists.intro; refine ⟨?_, ?_⟩; (focus (intro w' hw'; first | (obtain ⟨⟨m0, m1, m2⟩, ⟨p0, p1, p2⟩, q0, q1, q2⟩ := hw'; go_simp; with_reducible rfl) | (obtain ⟨⟨m0, m1, m2⟩, ⟨p0, p1, p2⟩, q0, q1, q2⟩ := id hw'; go_simp; refine (C1 w').mono ?_; rintro e w'' ⟨rfl, hb⟩; exact ⟨rfl, hw'.keep HLL.out.1 HLL.out.2.1 HLL.out.2.2.1 HLL.out.2.2.2 hb⟩))); (try simp only [Act.put, List.setIfInBounds_toArray, List.set_cons_zero, List.set_cons_succ]); go_big_quiet_on))
      refine wpQuiet_nil ?_
      intro w2 hw2
      have hb2 := hw2.2.2.2.2
      have q92 : w2.cell? ⟨gd, 0, none⟩ = some (.slice a9 n c9) := (hb2.cell (p := ⟨gd, 0, none⟩) lg).trans q9
      obtain ⟨bd, od, rfl, lbd, cbd⟩ := (r9'.out.below hb2) k (by rw [HN.out.1]; exact hlt)
      have hB2 : Below W2.heap.size W2 w2 := below_step hbl (Nat.le_refl _) hb2
      have HE : Hid (Below w.heap.size w w2) := below_step hBw (Nat.le_refl _) hb2
      clear hS C1 hw2 hb2 q9 lg HLL hbl hBw r9'
      by_cases h0 : cc = 0
      · subst h0
        have HA2 : Hid (restK ds xs ys (k + 1) = cmpK ds xs ys) := by
          show _ = _
          rw [← HA.out, HST.out, (sgn_zero _ _).2 rfl]
          simp [lexI]
        clear HA HST
        go_wp2
        go_roundw
        case rel => exact ⟨k + 1, by omega, by go_num, HA2, hB2⟩
        case measure => simp [intOf]; omega
      · have hne : (cc != 0) = true := by simp [h0]
        have HA2 : Hid (cmpK ds xs ys = sgnK (nthB ds k) cc) := by
          show _ = _
          rw [← HA.out, HST.out]
          unfold lexI
          rw [if_pos (fun h => h0 ((sgn_zero _ _).1 h))]
        clear HA HST
        cases hd : nthB ds k with
        | true =>
          rw [hd] at cbd HA2
          have HA3 : Hid (cmpK ds xs ys = -cc) := HA2.out
          clear HA2 hd
          go_wp2
          go_ret
          exact ⟨ret_int' (by rw [HA3.out]), HE.out⟩
        | false =>
          rw [hd] at cbd HA2
          have HA3 : Hid (cmpK ds xs ys = cc) := HA2.out
          clear HA2 hd
          go_wp2
          go_ret
          exact ⟨ret_int' (by rw [HA3.out]), HE.out⟩
    · have HA2 : Hid (cmpK ds xs ys = 0) := by
        show _ = _
        rw [← HA.out]
        exact restK_end (by have := HN.out.1; omega)
      clear HA
      go_wp2
      go_ret
      exact ⟨ret_int' HA2.out.symm, hBw⟩
end Go.Proofs.Ytmcjgncpblbhpaa
