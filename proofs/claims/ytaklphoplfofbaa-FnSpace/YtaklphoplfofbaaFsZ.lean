/- The law on the promise of space, walked (stage 4). -/
import Derived.Test.YtaklphoplfofbaaFsY
import Derived.Test.YtaklphoplfofbaaRnM
import Derived.Test.YtaklphoplfofbaaFreeL
namespace Go.Proofs.Ytaklphoplfofbaa
open Go.RowKit

/-- The lists of epochs and pins behind the first k acts. -/
def InvL (w6 : World) (T : Nat) (acts : List P2) (k : Nat) (ev pv : Value) (wr : World) : Prop :=
  ∃ es : List Value, OwnV wr w6.heap.size ev es ∧ es.length = (epN T acts k).length ∧ (∀ j, j < es.length → ReadI w6 (nthV es j) (nthE (epN T acts k) j)) ∧ OwnI wr w6.heap.size pv (stN T acts k).qs ∧ Below w6.heap.size w6 wr
/-- A reply in block X, and spec's reply. -/
abbrev PairS (w6 : World) (c : Int) (l : List Int) (X b2 o2 : Nat) (f g : Value) (w' : World) : Prop :=
  (w'.cell? ⟨X, 0, none⟩ = some (.int .i64 c) ∧ w'.cell? ⟨X, 1, none⟩ = some f) ∧ (w'.cell? ⟨b2, o2, none⟩ = some (.int .i64 c) ∧ w'.cell? ⟨b2, o2 + 1, none⟩ = some g) ∧ X < w'.heap.size ∧ b2 < w'.heap.size ∧ ReadI w' f l ∧ ReadI w' g l ∧ Below w6.heap.size w6 w'
theorem PairS.keep {w6 : World} {c : Int} {l : List Int} {X b2 o2 : Nat} {f g : Value} {w1 w2 : World} (h : PairS w6 c l X b2 o2 f g w1) (hb : Below w1.heap.size w1 w2) : PairS w6 c l X b2 o2 f g w2 :=
  ⟨⟨(hb.cell (p := ⟨X, 0, none⟩) h.2.2.1).trans h.1.1, (hb.cell (p := ⟨X, 1, none⟩) h.2.2.1).trans h.1.2⟩, ⟨(hb.cell (p := ⟨b2, o2, none⟩) h.2.2.2.1).trans h.2.1.1, (hb.cell (p := ⟨b2, o2 + 1, none⟩) h.2.2.2.1).trans h.2.1.2⟩, Nat.lt_of_lt_of_le h.2.2.1 hb.size, Nat.lt_of_lt_of_le h.2.2.2.1 hb.size, h.2.2.2.2.1.below hb, h.2.2.2.2.2.1.below hb, below_step h.2.2.2.2.2.2 (Nat.le_refl _) hb⟩
theorem spOK_read (t e : Int) (v1 v2 v3 : Value) (ss : List Int) (ps : List P2) (qs : List Int) (w : World) (h1 : ReadI w v1 ss) (h2 : ReadP w v2 ps) (h3 : ReadI w v3 qs) (l1 : ss.length ≤ 64) (l2 : ps.length ≤ 64) (l3 : qs.length ≤ 64) (ok : OkSp t e ss ps qs) : Calls Try.prog 14 #[SV t e v1 v2 v3] w fun r w' => r = .returned (.bool true) ∧ Below w.heap.size w w' := by
  obtain ⟨a1, c1, rfl, r1⟩ := h1.row
  obtain ⟨a2, c2, rfl, r2⟩ := h2.row
  obtain ⟨a3, c3, rfl, r3⟩ := h3.row
  refine (implSpaceOK_any t e a1 a2 a3 c1 c2 c3 ss ps qs w r1 r2 r3 (by omega) (by omega) (by omega)).mono ?_
  rw [← asB_true ok]
  exact fun _ _ h => h
theorem spFree_read (t : Nat) (e : Int) (v1 v2 v3 : Value) (ss : List Int) (ps : List P2) (qs : List Int) (w : World) (h1 : ReadI w v1 ss) (h2 : ReadP w v2 ps) (h3 : ReadI w v3 qs) (l1 : ss.length ≤ 64) (l2 : ps.length ≤ 64) (l3 : qs.length ≤ 64) (ok : OkSp t e ss ps qs) : Calls Try.prog 16 #[SV t e v1 v2 v3] w fun r w' => ∃ v, r = .returned (.tuple #[v, .int .i64 0]) ∧ OwnI w' w.heap.size v (freeK (usedB ss ps) t) ∧ Below w.heap.size w w' := by
  obtain ⟨a1, c1, rfl, r1⟩ := h1.row
  obtain ⟨a2, c2, rfl, r2⟩ := h2.row
  obtain ⟨a3, c3, rfl, r3⟩ := h3.row
  refine (implSpaceFree_any t e a1 a2 a3 c1 c2 c3 ss ps qs w r1 r2 r3 (by omega) (by omega) (by omega)).mono ?_
  have e1 : frL t e ss ps qs = freeK (usedB ss ps) t := by unfold frL; rw [if_pos (asB_true ok).symm]; rfl
  have e2 : frC t e ss ps qs = 0 := by unfold frC; rw [if_pos (asB_true ok).symm]
  rw [e1, e2]
  exact fun _ _ h => h
theorem cell_one_new (w : World) (x : Value) (t : TypeId) : ∀ j u, [x][j]? = some u → (w.alloc (.cells #[x] t)).cell? ((⟨w.heap.size, 0, none⟩ : Addr).add j) = some u := by
  intro j u hj
  match j, hj with
  | 0, hj => simp at hj; subst hj; simp [Addr.add]
theorem wrap_neg {x : Int} (h : -1 ≤ x ∧ x ≤ 1000000) : IntKind.i64.wrap x = x := by
  simp [IntKind.wrap, IntKind.bits, IntKind.signed]; omega
theorem fold_snoc (qs : List Int) (z : Int) (m : Nat) (h : m < qs.length) : (qs.take (m + 1)).foldl min z = min ((qs.take m).foldl min z) (nthI qs m) := by
  rw [List.take_succ_eq_append_getElem h, List.foldl_append, nthI_get h]
  rfl
theorem fold_le (z : Int) : ∀ qs : List Int, qs.foldl min z ≤ z := fun qs => (fold_min z qs z).mpr (.inl (Int.le_refl _))
theorem fold_ge (z y : Int) (hz : y ≤ z) : ∀ qs : List Int, (∀ q ∈ qs, y ≤ q) → y ≤ qs.foldl min z
  | [], _ => hz
  | q :: qs, h => by
    rw [List.foldl_cons]
    exact fold_ge (min z q) y (by have := h q (by simp); omega) qs (fun r hr => h r (by simp [hr]))
theorem ep_short (t : Nat) (acts : List P2) (ht : 1 ≤ t ∧ t ≤ 64) : ∀ i m, (nthE (epN t acts i) m).length ≤ 64
  | 0, m => by
    show (([[]] : List (List Int)).getD m []).length ≤ 64
    match m with
    | 0 => exact Nat.zero_le _
    | m + 1 => exact Nat.zero_le _
  | i + 1, m => by
    unfold epN
    split
    · rw [nthE_snoc]
      split
      · exact ep_short t acts ht i m
      · split
        · exact stp_pg _ _ _ _ _ _ _ (stN_ok t acts ht i)
        · exact Nat.zero_le _
    · exact ep_short t acts ht i m

set_option maxRecDepth 100000 in
set_option maxHeartbeats 16000000 in
theorem lawSpace (a0 a1 : Option Addr) (cap0 cap1 : Nat) (l0 l1 : List UInt8) (w : World) (h0 : ReadL w a0 l0) (h1 : ReadL w a1 l1) (m0 : l0.length ≤ maxLen) (m1 : l1.length ≤ maxLen) :
    Calls Try.prog 3 #[.slice a0 l0.length cap0, .slice a1 l1.length cap1] w fun r w' => r = .returned (.bool true) ∧ Below w.heap.size w w' := by
  have H0 : Hid (ReadL w a0 l0) := h0
  have H1 : Hid (ReadL w a1 l1) := h1
  clear h0 h1
  unfold maxLen at m0 m1
  by_cases g0 : 1048576 < l0.length
  · have gI : (1048576 : Int) < (l0.length : Int) := by omega
    go_enter Try.func3, Try.ntmps3
    go_wp2
    go_ret
    exact ⟨rfl, Below.refl _ _⟩
  by_cases g1 : 1048576 < l1.length
  · have gI : ¬ (1048576 : Int) < (l0.length : Int) := by omega
    have gJ : (1048576 : Int) < (l1.length : Int) := by omega
    go_enter Try.func3, Try.ntmps3
    go_wp2
    go_ret
    exact ⟨rfl, Below.refl _ _⟩
  have gI : ¬ (1048576 : Int) < (l0.length : Int) := by omega
  have gJ : ¬ (1048576 : Int) < (l1.length : Int) := by omega
  go_enter Try.func3, Try.ntmps3
  go_wp2_with fail
  refine (at_any H1.out (by omega) 0 30 (by omega) (by omega) (by omega)).mono ?_
  rintro e w1 ⟨r, rfl, r0, r1, b1⟩
  obtain ⟨T, hT⟩ : ∃ T : Nat, 4 + r = (T : Int) := ⟨(4 + r).toNat, by omega⟩
  have T0 : 4 ≤ T ∧ T ≤ 33 := by omega
  have HB1 : Hid (Below w.heap.size w w1) := b1
  clear b1
  go_wp2_with fail
  refine (actsOf_any (H0.out.below HB1.out) (by omega)).mono ?_
  rintro e w2 ⟨v6, acts, rfl, o2, la, b2⟩
  obtain ⟨aa, ac, rfl, rw2⟩ := OwnQ.row o2
  have O2 : Hid (OwnQ w2 w1.heap.size (.slice aa acts.length ac) acts) := o2
  have HR2 : Hid (RowP w2 aa acts) := rw2
  have HB2 : Hid (Below w.heap.size w w2) := HB1.out.trans (b2.mono HB1.out.size)
  clear o2 rw2 b2 HB1
  have hTw : IntKind.i64.wrap (4 + r) = (T : Int) := by rw [hT]; exact wrap_small (by omega)
  go_wp2_with fail
  refine (implRun_ok T acts aa ac w2 HR2.out la (by omega)).mono ?_
  rintro e w3 hr
  obtain ⟨v1, v2, v3, v, vs, rfl, o3, b3⟩ := RetR.open hr
  have O3 : Hid (O5 true w3 w2.heap.size v1 v2 v3 v vs (stN T acts acts.length) (rsN T acts acts.length)) := o3
  have HB3 : Hid (Below w.heap.size w w3) := HB2.out.trans (b3.mono HB2.out.size)
  obtain ⟨A3, hA3⟩ : ∃ A3, w3.alloc (.cells #[.int .i64 T, .int .i64 (stN T acts acts.length).e, v1, v2, v3] 29) = A3 := ⟨_, rfl⟩
  have a3 : Below w3.heap.size w3 A3 := hA3 ▸ (Below.refl _ _).alloc (Nat.le_refl _) _
  have c3 : Below w2.heap.size w2 A3 := b3.trans (a3.mono b3.size)
  have HRA : Hid (RowP A3 aa acts) := HR2.out.below c3
  have OA : Hid (O5 true A3 w2.heap.size v1 v2 v3 v vs (stN T acts acts.length) (rsN T acts acts.length)) := O3.out.keep a3
  have HYA : Hid (A3.heap[w3.heap.size]? = some (.cells #[.int .i64 T, .int .i64 (stN T acts acts.length).e, v1, v2, v3] 29 (0, 0))) := (hA3 ▸ heap_new' _ _ _ rfl : A3.heap[w3.heap.size]? = _)
  have HBA : Hid (Below w.heap.size w A3) := HB3.out.trans (a3.mono HB3.out.size)
  obtain ⟨e1, n1, d1, rfl⟩ := own_shq OA.out.1
  obtain ⟨e2, n2, d2, rfl⟩ := own_shq OA.out.2.1
  obtain ⟨e3, n3, d3, rfl⟩ := own_shq OA.out.2.2.1
  clear hr o3 b3 a3 c3 O3 HB3 HR2
  go_wp2_with fail
  refine (specRun_ok T acts aa ac A3 HRA.out la (by omega)).mono ?_
  generalize hv1 : Value.slice e1 n1 d1 = v1 at *
  generalize hv2 : Value.slice e2 n2 d2 = v2 at *
  generalize hv3 : Value.slice e3 n3 d3 = v3 at *
  clear hv1 hv2 hv3 hA3
  rintro e w4 hr
  obtain ⟨u1, u2, u3, u, us, rfl, o4, b4⟩ := RetR.open hr
  obtain ⟨A4, hA4⟩ : ∃ A4, w4.alloc (.cells #[.int .i64 T, .int .i64 (stN T acts acts.length).e, u1, u2, u3] 29) = A4 := ⟨_, rfl⟩
  have a4 : Below w4.heap.size w4 A4 := hA4 ▸ (Below.refl _ _).alloc (Nat.le_refl _) _
  have c4 : Below A3.heap.size A3 A4 := b4.trans (a4.mono b4.size)
  have SV4 : Hid (O5 true A4 w2.heap.size v1 v2 v3 v vs (stN T acts acts.length) (rsN T acts acts.length)) := OA.out.keep c4
  have SU4 : Hid (O5 false A4 A3.heap.size u1 u2 u3 u us (stN T acts acts.length) (rsN T acts acts.length)) := o4.keep a4
  have RA4 : Hid (RowP A4 aa acts) := HRA.out.below c4
  have YA4 : Hid (A4.heap[w3.heap.size]? = some (.cells #[.int .i64 T, .int .i64 (stN T acts acts.length).e, v1, v2, v3] 29 (0, 0))) := keepBlk HYA.out c4 (slab_lt HYA.out)
  have ZA4 : Hid (A4.heap[w4.heap.size]? = some (.cells #[.int .i64 T, .int .i64 (stN T acts acts.length).e, u1, u2, u3] 29 (0, 0))) := (hA4 ▸ heap_new' _ _ _ rfl : A4.heap[w4.heap.size]? = _)
  have HB4 : Hid (Below w.heap.size w A4) := HBA.out.trans (c4.mono HBA.out.size)
  obtain ⟨e1, n1, d1, rfl⟩ := own_shq SU4.out.1
  obtain ⟨e2, n2, d2, rfl⟩ := own_shq SU4.out.2.1
  obtain ⟨e3, n3, d3, rfl⟩ := own_shq SU4.out.2.2.1
  obtain ⟨va, vc, rfl, hvr⟩ := OwnR.row SV4.out.2.2.2.1
  obtain ⟨ua, uc, rfl, hur⟩ := OwnR.row SU4.out.2.2.2.1
  have lv : vs.length = acts.length := SV4.out.2.2.2.2.1.1.trans (rsN_len _ _ _)
  have lu : us.length = acts.length := SU4.out.2.2.2.2.1.1.trans (rsN_len _ _ _)
  have HV : Hid (RowR A4 va vs) := hvr
  have HU : Hid (RowR A4 ua us) := hur
  have OKS : Hid (OkSp T (stN T acts acts.length).e (stN T acts acts.length).ss (stN T acts acts.length).ps (stN T acts acts.length).qs) := stN_ok T acts (by omega) _
  have lm := ok_many OKS.out
  have LM : Hid ((stN T acts acts.length).ss.length ≤ 64 ∧ (stN T acts acts.length).ps.length ≤ 64 ∧ (stN T acts acts.length).qs.length ≤ 64) := ⟨by omega, by omega, by have := OKS.out.2.2.2.2.2.1; omega⟩
  clear hr o4 b4 a4 c4 OA HRA HYA HBA HB2 hvr hur lm
  obtain ⟨y0, y1, y2, y3, y4⟩ := box5_of YA4.out
  obtain ⟨z0, z1, z2, z3, z4⟩ := box5_of ZA4.out
  try rw [lv]
  try rw [lu]
  go_wp2_with fail
  refine (same_read v1 _ (stN T acts acts.length).ss A4 (OwnI.read SV4.out.1) (OwnI.read SU4.out.1) (by have := LM.out; omega)).mono ?_
  rintro e w5 ⟨rfl, b5⟩
  have S5 : Hid (O5 true w5 w2.heap.size v1 v2 v3 (.slice va vs.length vc) vs (stN T acts acts.length) (rsN T acts acts.length)) := SV4.out.keep b5
  have Y5 : Hid (w5.heap[w3.heap.size]? = some (.cells #[.int .i64 T, .int .i64 (stN T acts acts.length).e, v1, v2, v3] 29 (0, 0))) := keepBlk YA4.out b5 (slab_lt YA4.out)
  have HB5 : Hid (Below w.heap.size w w5) := HB4.out.trans (b5.mono HB4.out.size)
  have HA5 : Hid (Below A4.heap.size A4 w5) := b5
  clear b5 y0 y1 y2 y3 y4 z0 z1 z2 z3 z4 ZA4
  obtain ⟨y0, y1, y2, y3, y4⟩ := box5_of Y5.out
  go_wp2_with fail
  refine (spOK_read T (stN T acts acts.length).e v1 v2 v3 (stN T acts acts.length).ss (stN T acts acts.length).ps (stN T acts acts.length).qs w5 (OwnI.read S5.out.1) (OwnP.read S5.out.2.1) (OwnI.read S5.out.2.2.1) LM.out.1 LM.out.2.1 LM.out.2.2 OKS.out).mono ?_
  rintro e w6 ⟨rfl, b6⟩
  have c6 : Below A4.heap.size A4 w6 := HA5.out.trans (b6.mono HA5.out.size)
  have S6 : Hid (O5 true w6 w2.heap.size v1 v2 v3 (.slice va vs.length vc) vs (stN T acts acts.length) (rsN T acts acts.length)) := S5.out.keep b6
  have U6 : Hid (Reps w6 A3.heap.size us (rsN T acts acts.length)) := SU4.out.2.2.2.2.1.keep fun j _ hl => c6.block j hl
  have Y6 : Hid (w6.heap[w3.heap.size]? = some (.cells #[.int .i64 T, .int .i64 (stN T acts acts.length).e, v1, v2, v3] 29 (0, 0))) := keepBlk Y5.out b6 (slab_lt Y5.out)
  have HV6 : Hid (RowR w6 va vs) := HV.out.below c6
  have HU6 : Hid (RowR w6 ua us) := HU.out.below c6
  have HA6 : Hid (RowP w6 aa acts) := RA4.out.below c6
  have HB6 : Hid (Below w.heap.size w w6) := HB5.out.trans (b6.mono HB5.out.size)
  obtain ⟨W9, hW9⟩ : ∃ W9, ((w6.alloc (.cells #[] 3)).alloc (.cells #[.slice (some ⟨w6.heap.size, 0, none⟩) 0 0] 26)).alloc (.cells #[] 3) = W9 := ⟨_, rfl⟩
  have HI : Hid (InvL w6 T acts 0 (.slice (some ⟨w6.heap.size + 1, 0, none⟩) 1 1) (.slice (some ⟨w6.heap.size + 1 + 1, 0, none⟩) 0 0) W9) := by
    refine ⟨[.slice (some ⟨w6.heap.size, 0, none⟩) 0 0], ⟨rfl, .inr ⟨_, 1, #[.slice (some ⟨w6.heap.size, 0, none⟩) 0 0], rfl, by omega, ?_, Nat.le_refl _, by decide, rfl, rfl⟩⟩, rfl, fun j hj => ?_, ⟨rfl, .inr ⟨_, 0, #[], rfl, by omega, ?_, Nat.le_refl _, Nat.zero_le _, rfl, rfl⟩⟩, ?_⟩
    · exact hW9 ▸ (heap_old _ _ _ (by simp)).trans (heap_new' _ _ _ (by simp))
    · have e0 : j = 0 := by simpa using hj
      subst e0
      exact .inr ⟨⟨w6.heap.size, 0, none⟩, 0, rfl, Nat.le_refl _, fun i hi => by cases hi⟩
    · exact hW9 ▸ heap_new' _ _ _ (by simp)
    · exact hW9 ▸ (((Below.refl _ _).alloc (Nat.le_refl _) _).alloc (by simp) _).alloc (by simp; omega) _
  have HOK : Hid (∀ k, OkSp T (stN T acts k).e (stN T acts k).ss (stN T acts k).ps (stN T acts k).qs) := stN_ok T acts (by omega)
  clear b6 c6 S5 Y5 HB5 HA5 SV4 SU4 YA4 HV HU RA4 HB4 y0 y1 y2 y3 y4
  obtain ⟨i3, hi3, hz30, hz31, hz32⟩ := info_parts info3
  obtain ⟨i26, hi26, hz260, hz261, hz262⟩ := info_parts info26
  generalize hal : acts.length = len at *
  have HAL : Hid (acts.length = len) := hal
  clear hal
  go_wp2
  go_loopw [13, 14, 15] (fun ev pv i wr => ∃ k : Nat, k ≤ len ∧ i = .int .i64 k ∧ InvL w6 T acts k ev pv wr) (fun _ _ i _ => len - (intOf i).toNat)
  case atStart => exact ⟨0, by omega, rfl, HI.out⟩
  case round =>
    clear HI hW9
    obtain ⟨k, hk, rfl, inv⟩ := hrel
    have INV : Hid (InvL w6 T acts k u13 u14 wr) := inv
    clear inv
    by_cases hlt : k < len
    · obtain ⟨es, oe, le, re, op, bl⟩ := INV.out
      have hltI : (k : Int) < (len : Int) := by omega
      have kV : k < vs.length := by rw [lv]; exact hlt
      have kU : k < us.length := by rw [lu]; exact hlt
      obtain ⟨b1, o1, rfl, hb1, hc10, hc11⟩ := (HV6.out.below bl) k kV
      obtain ⟨b2, o2, rfl, hb2, hc20, hc21⟩ := (HU6.out.below bl) k kU
      obtain ⟨ab, ao, rfl, hab, hd0, hd1⟩ := (HA6.out.below bl) k (by rw [HAL.out]; exact hlt)
      have q1 := S6.out.2.2.2.2.1.2 k (by rw [rsN_len]; exact hlt)
      have q2 := U6.out.2 k (by rw [rsN_len]; exact hlt)
      rw [rsN_nth _ _ _ _ hlt] at q1 q2
      rw [q1.1] at hc10
      rw [q2.1] at hc20
      obtain ⟨fa, fn, fc, hf⟩ := own_shq q1.2
      obtain ⟨ga, gn, gc, hg⟩ := own_shq q2.2
      rw [hf] at hc11 q1
      rw [hg] at hc21 q2
      have F6 : Hid (OwnI w6 w2.heap.size (.slice fa fn fc) (stN T acts (k + 1)).pg) := q1.2
      have G6 : Hid (OwnI w6 A3.heap.size (.slice ga gn gc) (stN T acts (k + 1)).pg) := q2.2
      have LP : Hid ((stN T acts (k + 1)).pg.length ≤ 64) := stp_pg _ _ _ _ _ _ _ (HOK.out k)
      have E1 : Hid (wr.cell? ⟨ab, ao + k * 2, none⟩ = some (.int .i64 (nthP acts k).1) ∧ wr.cell? ⟨ab, ao + k * 2 + 1, none⟩ = some (.int .i64 (nthP acts k).2) ∧ ab < wr.heap.size) := ⟨hd0, hd1, hab⟩
      have BL : Hid (Below w6.heap.size w6 wr) := bl
      have HSt : Hid (stN T acts (k + 1) = stp T (stN T acts k).e (stN T acts k).ss (stN T acts k).ps (stN T acts k).qs (nthP acts k).1 (nthP acts k).2) := rfl
      have OE : Hid (OwnV wr w6.heap.size u13 es ∧ es.length = (epN T acts k).length ∧ (∀ j, j < es.length → ReadI w6 (nthV es j) (nthE (epN T acts k) j)) ∧ OwnI wr w6.heap.size u14 (stN T acts k).qs) := ⟨oe, le, re, op⟩
      have EIN : Hid (EInv (stN T acts k).e (stN T acts k).ss (stN T acts k).ps (stN T acts k).qs (epN T acts k)) := ep_inv T acts k
      replace hc10 : wr.cell? ⟨b1, o1 + k * 2, none⟩ = some (.int .i64 (stN T acts (k + 1)).c) := hc10
      replace hc20 : wr.cell? ⟨b2, o2 + k * 2, none⟩ = some (.int .i64 (stN T acts (k + 1)).c) := hc20
      obtain ⟨cc, hcc⟩ : ∃ x, (stN T acts (k + 1)).c = x := ⟨_, rfl⟩
      obtain ⟨pg, hpg⟩ : ∃ x, (stN T acts (k + 1)).pg = x := ⟨_, rfl⟩
      have HCC : Hid ((stN T acts (k + 1)).c = cc) := hcc
      have HPG : Hid ((stN T acts (k + 1)).pg = pg) := hpg
      rw [hcc] at hc10 hc20
      rw [hpg] at F6 G6 LP
      obtain ⟨wa, hwa⟩ : ∃ wa, wr.alloc (.cells #[.int .i64 cc, .slice fa fn fc] 37) = wa := ⟨_, rfl⟩
      have ba : Below wr.heap.size wr wa := hwa ▸ (Below.refl _ _).alloc (Nat.le_refl _) _
      have xX : wa.heap[wr.heap.size]? = some (.cells #[.int .i64 cc, .slice fa fn fc] 37 (0, 0)) := hwa ▸ heap_new' _ _ _ rfl
      have b6a : Below w6.heap.size w6 wa := below_step BL.out (Nat.le_refl _) ba
      have hP : PairS wr cc pg wr.heap.size b2 (o2 + k * 2) (.slice fa fn fc) (.slice ga gn gc) wa.drew := ⟨two_ofR xX, ⟨(ba.cell (p := ⟨b2, o2 + k * 2, none⟩) hb2).trans hc20, (ba.cell (p := ⟨b2, o2 + k * 2 + 1, none⟩) hb2).trans hc21⟩, slab_lt xX, Nat.lt_of_lt_of_le hb2 ba.size, (OwnI.read F6.out).below (b6a.trans (below_draw.mono b6a.size)), (OwnI.read G6.out).below (b6a.trans (below_draw.mono b6a.size)), ba.drew⟩
      have BA : Hid (Below wr.heap.size wr wa) := ba
      have BW : Hid (wr.heap.size < wa.heap.size) := slab_lt xX
      clear oe le re op bl hd0 hd1 hab hc20 hc21 q1 q2 hf hg hb1 hb2 ba xX b6a hcc hpg INV kV kU
      go_wp2_with fail
      go_region_held3 (PairS wr cc pg wr.heap.size b2 (o2 + k * 2) (.slice fa fn fc) (.slice ga gn gc)) (first | exact hP | exact PairS.keep (by assumption) hb)
        (first | (go_at_call 13; refine (same_read (.slice fa fn fc) (.slice ga gn gc) pg _ (show PairS wr cc pg wr.heap.size b2 (o2 + k * 2) (.slice fa fn fc) (.slice ga gn gc) _ by assumption).2.2.2.2.1 (show PairS wr cc pg wr.heap.size b2 (o2 + k * 2) (.slice fa fn fc) (.slice ga gn gc) _ by assumption).2.2.2.2.2.1 (by have := LP.out; omega)).mono ?_; rintro e wB ⟨rfl, hb⟩) | fail)
      rename_i hPL
      have bB := hPL.2.2.2.2.2.2
      have PL : Hid (PairS wr cc pg wr.heap.size b2 (o2 + k * 2) (.slice fa fn fc) (.slice ga gn gc) wB) := hPL
      have x0 := hPL.1.1
      have BB : Hid (Below wr.heap.size wr wB) := bB
      have B6 : Hid (Below w6.heap.size w6 wB) := below_step BL.out (Nat.le_refl _) bB
      have EB : Hid (OwnV wB w6.heap.size u13 es ∧ es.length = (epN T acts k).length ∧ (∀ j, j < es.length → ReadI w6 (nthV es j) (nthE (epN T acts k) j)) ∧ OwnI wB w6.heap.size u14 (stN T acts k).qs) := ⟨own_keep OE.out.1 fun j _ hl => bB.block j hl, OE.out.2.1, OE.out.2.2.1, own_keep OE.out.2.2.2 fun j _ hl => bB.block j hl⟩
      have EA : Hid (wB.cell? ⟨ab, ao + k * 2, none⟩ = some (.int .i64 (nthP acts k).1) ∧ wB.cell? ⟨ab, ao + k * 2 + 1, none⟩ = some (.int .i64 (nthP acts k).2) ∧ ab < wB.heap.size) := ⟨(bB.cell (p := ⟨ab, ao + k * 2, none⟩) E1.out.2.2).trans E1.out.1, (bB.cell (p := ⟨ab, ao + k * 2 + 1, none⟩) E1.out.2.2).trans E1.out.2.1, Nat.lt_of_lt_of_le E1.out.2.2 bB.size⟩
      clear hP hPL bB OE E1 hc10 hc11 BA BW hwa
      by_cases hc0 : cc = 0
      · have ka := EA.out.1
        have HKN : Hid (∀ ev pv wx, OwnV wx w6.heap.size ev es → ¬ (nthP acts k).1 = 1 → OwnI wx w6.heap.size pv (stN T acts (k + 1)).qs → Below w6.heap.size w6 wx → InvL w6 T acts (k + 1) ev pv wx) := fun ev pv wx h1 h2 h3 h4 => by
          have ee : epN T acts (k + 1) = epN T acts k := if_neg (fun h => h2 h.1)
          exact ⟨es, h1, by rw [ee]; exact EB.out.2.1, by rw [ee]; exact EB.out.2.2.1, h3, h4⟩
        have hes : (es.length : Int) = (stN T acts k).e + 1 := by rw [EB.out.2.1]; exact EIN.out.1
        have eb := (HOK.out k).2.1
        have lq := (HOK.out k).2.2.2.2.2.1
        have HZ : Hid ((stp T (stN T acts k).e (stN T acts k).ss (stN T acts k).ps (stN T acts k).qs (nthP acts k).1 (nthP acts k).2).c = 0) := (by rw [← HSt.out]; exact HCC.out.trans hc0 : _ = _)
        obtain ⟨ea, ec, hea⟩ := own_shp EB.out.1
        obtain ⟨pa, pc, hpa⟩ := own_shp EB.out.2.2.2
        subst hea hpa
        by_cases k1 : (nthP acts k).1 = 1
        · rw [k1] at ka
          have XF : Hid (wB.cell? ⟨wr.heap.size, 1, none⟩ = some (.slice fa fn fc) ∧ wr.heap.size < wB.heap.size ∧ ReadI wB (.slice fa fn fc) pg) := ⟨PL.out.1.2, PL.out.2.2.1, PL.out.2.2.2.2.1⟩
          have HFN : Hid (fn = pg.length) := by
            obtain ⟨_, _, e, _⟩ := PL.out.2.2.2.2.1.row
            cases e; rfl
          have E1' : Hid (epN T acts (k + 1) = epN T acts k ++ [pg]) := by
            show _ = _
            rw [← HPG.out]
            exact if_pos ⟨k1, HCC.out.trans hc0⟩
          have EQ1 : Hid ((stN T acts (k + 1)).qs = (stN T acts k).qs) := by
            show _ = _
            rw [HSt.out]
            exact stp_qs (.inr k1)
          have NEW : Hid (∀ m : Nat, m < es.length → needed (stN T acts k).e (stN T acts k).qs m → ∀ p ∈ pg, p ∉ nthE (epN T acts k) m) := fun m hm hN p hp => by
            have := commit_new T (stN T acts k).e (stN T acts k).ss (stN T acts k).ps (stN T acts k).qs (epN T acts k) (nthP acts k).2 EIN.out m (by rw [← EB.out.2.1]; exact hm) hN p
            refine this ?_
            rw [← k1, ← HSt.out, HPG.out]
            exact hp
          have SHORT : Hid (∀ m, m < es.length → (nthE (epN T acts k) m).length ≤ 64) := fun m hm => ep_short T acts (by omega) k m
          have RQ : Hid (RowI wB pa (stN T acts k).qs) := by
            obtain ⟨a', c', e, rr, _⟩ := OwnI.row EB.out.2.2.2
            cases e
            exact rr
          have RE : Hid (RowV wB ea es) := by
            obtain ⟨a', c', e, rr⟩ := OwnV.row EB.out.1
            cases e
            exact rr
          have F6' : Hid (ReadI w6 (.slice fa fn fc) pg) := OwnI.read F6.out
          have QB : Hid (∀ q ∈ (stN T acts k).qs, 0 ≤ q) := fun q hq => (ok_qs (HOK.out k) q hq).1
          have LPG : Hid (pg.length ≤ 64) := LP.out
          have FROW : Hid (RowI wB fa pg) := by
            obtain ⟨a', c', e, rr⟩ := XF.out.2.2.row
            cases e
            exact rr
          clear PL BL BB HKN EIN HZ F6 G6 HSt LP HPG
          generalize hX : wr.heap.size = X at *
          clear hX
          obtain ⟨ee, hee⟩ : ∃ x, (stN T acts k).e = x := ⟨_, rfl⟩
          rw [hee] at hes eb NEW
          obtain ⟨qs, hqs⟩ : ∃ x, (stN T acts k).qs = x := ⟨_, rfl⟩
          rw [hqs] at lq NEW RQ QB EB EQ1
          rw [hqs]
          clear hee hqs
          obtain ⟨qn, hqn⟩ : ∃ x, qs.length = x := ⟨_, rfl⟩
          have HQN : Hid (qs.length = qn) := hqn
          obtain ⟨en, hen⟩ : ∃ x, es.length = x := ⟨_, rfl⟩
          have HEN : Hid (es.length = en) := hen
          have EB2 : Hid (OwnV wB w6.heap.size (.slice ea es.length ec) es ∧ OwnI wB w6.heap.size (.slice pa qs.length pc) qs ∧ es.length = (epN T acts k).length ∧ (∀ j, j < es.length → ReadI w6 (nthV es j) (nthE (epN T acts k) j))) := ⟨EB.out.1, EB.out.2.2.2, EB.out.2.1, EB.out.2.2.1⟩
          clear EB
          rw [hen] at hes ⊢
          rw [hqn] at lq ⊢
          clear hqn hen
          have hw2 : IntKind.i64.wrap ((en : Int) - 2) = ee - 1 := by rw [show (en : Int) - 2 = ee - 1 by omega]; exact wrap_neg (by omega)
          go_wp2
          go_loop [17, 18] (fun acc j => ∃ m : Nat, m ≤ qn ∧ j = .int .i64 m ∧ acc = .int .i64 ((qs.take m).foldl min (ee - 1))) (fun _ j => qn - (intOf j).toNat)
          case atStart => exact ⟨0, by omega, rfl, by rw [show ee + 1 - 2 = ee - 1 by omega]; rfl⟩
          case round =>
            obtain ⟨m, hm, rfl, rfl⟩ := hrel
            by_cases hmq : m < qn
            · have hmI : (m : Int) < (qn : Int) := by omega
              obtain ⟨b5, o5, rfl, hb5, hc5⟩ := RQ.out m (by rw [HQN.out]; exact hmq)
              have HS : Hid ((qs.take (m + 1)).foldl min (ee - 1) = min ((qs.take m).foldl min (ee - 1)) (nthI qs m)) := fold_snoc qs _ m (by rw [HQN.out]; exact hmq)
              generalize (qs.take m).foldl min (ee - 1) = x at *
              generalize nthI qs m = y at *
              rcases (show (x ≤ y ∧ min x y = x) ∨ (¬ x ≤ y ∧ min x y = y) by omega) with ⟨hxy, hmn⟩ | ⟨hxy, hmn⟩
              all_goals
                go_wp2
                go_round
                case rel => exact ⟨m + 1, by omega, by go_num, (by have := HS.out; go_num)⟩
                case measure => simp [intOf]; omega
            · obtain rfl : m = qn := by omega
              have hall : qs.take m = qs := List.take_of_length_le (by rw [HQN.out]; exact Nat.le_refl _)
              have f1 := fold_le (ee - 1) qs
              have f2 := fold_ge (ee - 1) (-1) (by omega) qs (fun q hq => by have := QB.out q hq; omega)
              have FN : Hid (∀ j : Nat, max 0 (qs.foldl min (ee - 1)) ≤ (j : Int) → needed ee qs j) := fun j hj => from_needed hj
              rw [hall]
              generalize qs.foldl min (ee - 1) = fr at *
              obtain ⟨s0, hs0⟩ : ∃ s0 : Nat, max 0 fr = (s0 : Int) := ⟨(max 0 fr).toNat, by omega⟩
              rw [hs0] at FN
              have hsn : s0 ≤ en := by omega
              rcases (show (0 ≤ fr ∧ max 0 fr = fr ∧ fr = (s0 : Int)) ∨ (¬ 0 ≤ fr ∧ max 0 fr = 0 ∧ s0 = 0) by omega) with ⟨hf0, hmx, hfe⟩ | ⟨hf0, hmx, hfe⟩
              all_goals
                go_wp2
                go_loopw [19] (fun i wx => ∃ m : Nat, s0 ≤ m ∧ m ≤ en ∧ i = .int .i64 m ∧ Below wB.heap.size wB wx) (fun i _ => en - (intOf i).toNat)
                case atStart => exact ⟨s0, Nat.le_refl _, hsn, by first | rfl | (rw [hfe]; done) | (rw [hfe]; rfl), Below.refl _ _⟩
                case round =>
                  obtain ⟨m', hm0, hm1, rfl, bx⟩ := hrel
                  have hxr : wr.cell? ⟨X, 1, none⟩ = some (.slice fa fn fc) := (bx.cell (p := ⟨X, 1, none⟩) XF.out.2.1).trans XF.out.1
                  by_cases hme : m' < en
                  · have hmI : (m' : Int) < (en : Int) := by omega
                    have hmE : m' < es.length := by rw [HEN.out]; exact hme
                    have NW : Hid (∀ p ∈ pg, p ∉ nthE (epN T acts k) m') := NEW.out m' hmE (FN.out m' (by omega))
                    obtain ⟨b5, o5, rfl, hb5, hc5⟩ := (RE.out.below bx) m' hmE
                    have RV : Hid (ReadI w6 (nthV es m') (nthE (epN T acts k) m')) := EB2.out.2.2.2 m' hmE
                    have SH : Hid ((nthE (epN T acts k) m').length ≤ 64) := SHORT.out m' hmE
                    have HC5 : Hid (wB.cell? ⟨b5, o5 + m', none⟩ = some (nthV es m') ∧ b5 < wB.heap.size) := by
                      obtain ⟨b', o', e, hb', hc'⟩ := RE.out m' hmE
                      cases e
                      exact ⟨hc', hb'⟩
                    clear hc5 hb5
                    go_wp2
                    go_loopw [20] (fun j wy => ∃ q : Nat, q ≤ fn ∧ j = .int .i64 q ∧ Below wB.heap.size wB wy) (fun j _ => fn - (intOf j).toNat)
                    case atStart => exact ⟨0, by omega, rfl, bx⟩
                    case round =>
                      clear bx hxr
                      obtain ⟨q, hq, rfl, by'⟩ := hrel
                      have hxr : wr.cell? ⟨X, 1, none⟩ = some (.slice fa fn fc) := (by'.cell (p := ⟨X, 1, none⟩) XF.out.2.1).trans XF.out.1
                      by_cases hqf : q < fn
                      · have hqI : (q : Int) < (fn : Int) := by omega
                        have fnB : fn ≤ 64 := by have := HFN.out; have := LPG.out; omega
                        obtain ⟨b6', o6, rfl, hb6, hc6⟩ := (FROW.out.below by') q (by have := HFN.out; omega)
                        have hpm : nthI pg q ∈ pg := by rw [nthI_get (show q < pg.length by have := HFN.out; omega)]; exact List.getElem_mem _
                        have NP : Hid (nthI pg q ∉ nthE (epN T acts k) m') := NW.out _ hpm
                        have b6w : Below w6.heap.size w6 wr := B6.out.trans (by'.mono B6.out.size)
                        have HT : Hid (TriS b5 (o5 + m') (nthV es m') X (.slice (some ⟨b6', o6, none⟩) fn fc) b6' (o6 + q) (nthI pg q) (nthE (epN T acts k) m') wr) := ⟨(by'.cell (p := ⟨b5, o5 + m', none⟩) HC5.out.2).trans HC5.out.1, hxr, hc6, Nat.lt_of_lt_of_le HC5.out.2 by'.size, Nat.lt_of_lt_of_le XF.out.2.1 by'.size, hb6, RV.out.below b6w⟩
                        clear hc6 hb6 hpm b6w
                        go_wp2_with fail
                        refine reg35 wr b5 o5 en ec m' X b6' o6 fn fc q (nthV es m') (nthI pg q) (nthE (epN T acts k) m') _ _ _ _ _ _ _ _ _ _ _ _ _ _ _ _ _ _ _ _ _ _ _ _ _ _ _ _ _ _ _ _ _ _ _ _ _ _ _ _ _ _ _ _ _ _ _ _ _ _ _ _ _ _ _ _ _ _ _ _ _ _ _ _ _ _ _ _ _ _ _ _ _ _ _ _ _ _ _ _ _ _ _ _ _ _ _ _ _ _ _ _ _ _ _ _ _ _ _ _ _ _ _ _ _ _ _ _ _ _ _ _ _ _ _ _ _ _ _ _ _ _ _ _ _ _ _ _ _ _ _ _ _ _ _ _ _ _ _ _ _ _ _ _ _ _ _ _ _ _ _ _ _ _ _ _ _ _ _ _ _ _ _ _ _ _ _ _ _ _ _ _ _ _ _ _ _ _ _ _ _ _ _ _ _ _ _ _ _ _ _ _ _ _ _ _ _ _ _ _ _ _ _ _ _ _ _ _ _ _ _ _ _ _ _ _ _ _ HT.out (by have := SH.out; omega) NP.out hme hqf ?_
                        intro t0_ t1_ t2_ t3_ t4_ t5_ t6_ t7_ t8_ wC b7'
                        have b7 : Below wB.heap.size wB wC := below_step by' (Nat.le_refl _) b7'
                        clear b7' HT
                        go_wp2
                        go_roundw
                        case rel => exact ⟨q + 1, by omega, by go_num, b7⟩
                        case measure => simp [intOf]; omega
                      · obtain rfl : q = fn := by omega
                        go_wp2
                        go_roundw
                        case rel => exact ⟨m' + 1, by omega, by omega, by go_num, by'⟩
                        case measure => simp [intOf]; omega
                  · obtain rfl : m' = en := by omega
                    have nB : w6.heap.size ≤ wr.heap.size := Nat.le_trans B6.out.size bx.size
                    have OEx : Hid (OwnV wr w6.heap.size (.slice ea es.length ec) es) := own_keep EB2.out.1 fun j _ hl => bx.block j hl
                    have OPx : Hid (OwnI wr w6.heap.size (.slice pa qs.length pc) qs) := own_keep EB2.out.2.1 fun j _ hl => bx.block j hl
                    have B6x : Hid (Below w6.heap.size w6 wr) := B6.out.trans (bx.mono B6.out.size)
                    have hlE : es.length ≤ 1000001 := by have := HEN.out; omega
                    go_wp2_with (at_builtin; refine wpList_append_own _ rfl (.tmp 196) (.tmp 199) 35 rfl w6.heap.size 26 i26 (.slice none 0 0) 1 24 Try.underlying35 hi26 hz260 hz261 hz262 rfl (by decide) (.slice ea m' ec) m' es rfl (HEN.out ▸ own_keep OEx.out fun _ _ hl => heap_old _ _ _ hl) ⟨wr.heap.size, 0, none⟩ 1 1 [.slice fa fn fc] rfl rfl ?m0 ?m4 ?m1 ?m2 ?m3 ?_)
                    case m0 => exact cell_one_new _ _ _
                    case m4 => intro u hu; simp at hu; subst hu; rfl
                    case m1 => have := HEN.out; unfold maxLen; omega
                    case m2 => have := HEN.out; omega
                    case m3 => simp; omega
                    intro v' w7 ho gr _
                    have HN : Hid (InvL w6 T acts (k + 1) v' (.slice pa m pc) w7) := by
                      have hoe : OwnV (wr.alloc (.cells #[.slice fa fn fc] 26)) w6.heap.size (.slice ea es.length ec) es := own_keep OEx.out fun _ _ hl => heap_old _ _ _ hl
                      have hop : OwnI (wr.alloc (.cells #[.slice fa fn fc] 26)) w6.heap.size (.slice pa qs.length pc) qs := own_keep OPx.out fun _ _ hl => heap_old _ _ _ hl
                      rw [← HEN.out] at gr ho
                      refine ⟨es ++ [.slice fa fn fc], ?_, ?_, fun j hj => ?_, ?_, ?_⟩
                      · show World.ownsRow _ _ _ _ _ _ _
                        rw [List.length_append]
                        exact ho
                      · rw [E1'.out, List.length_append, List.length_append, EB2.out.2.2.1]
                        rfl
                      · rw [E1'.out, nthE_snoc, nthV_snoc _ _ _ (by simp at hj; omega), ← EB2.out.2.2.1]
                        by_cases hjl : j < es.length
                        · rw [if_pos hjl, if_pos hjl]
                          exact EB2.out.2.2.2 j hjl
                        · rw [if_neg hjl, if_neg hjl, if_pos (by simp at hj; omega)]
                          exact F6'.out
                      · rw [EQ1.out, ← HQN.out]
                        exact own_at hop fun j hj => gr.block j (own_lt hop hj).2 (fun e => diffE hop hoe (by decide) hj e.symm)
                      · refine (B6x.out.alloc B6x.out.size _).grown gr (Nat.le_trans nB (by simp)) (fun j hj => (own_lt hoe hj).1)
                    clear ho gr OEx OPx
                    go_wp2
                    go_roundw
                    case rel => exact ⟨k + 1, by omega, by go_num, HN.out⟩
                    case measure => simp [intOf]; omega
        · rcases stp_zero HZ.out k1 with ⟨k2, hq⟩ | ⟨k3, hn, hq⟩
          · rw [k2] at ka
            rw [← HSt.out] at hq
            have hwr : IntKind.i64.wrap ((es.length : Int) - 1) = (stN T acts k).e := by rw [show (es.length : Int) - 1 = (stN T acts k).e by omega]; exact wrap_small (by omega)
            have HQ1 : Hid ((stN T acts (k + 1)).qs = (stN T acts k).qs ++ [(stN T acts k).e]) := hq
            have nB : w6.heap.size ≤ wB.heap.size := B6.out.size
            clear HZ hq
            generalize hee : (stN T acts k).e = ee at *
            go_wp2_with (at_builtin; refine wpList_append_own _ rfl (.tmp 128) (.tmp 132) 26 rfl w6.heap.size 3 i3 (.int .i64 0) 1 8 Try.underlying26 hi3 hz30 hz31 hz32 rfl (by decide) _ _ _ rfl (own_keep EB.out.2.2.2 fun _ _ hl => heap_old _ _ _ hl) ⟨wB.heap.size, 0, none⟩ 1 1 [.int .i64 ee] rfl rfl ?m0 ?m4 ?m1 ?m2 ?m3 ?_)
            case m0 => exact cell_one_new _ _ _
            case m4 => intro u hu; simp at hu; subst hu; rfl
            case m1 => unfold maxLen; omega
            case m2 => omega
            case m3 => simp; omega
            intro v' w7 ho gr _
            have HN : Hid (InvL w6 T acts (k + 1) (.slice ea es.length ec) v' w7) := by
              have hop : OwnI (wB.alloc (.cells #[.int .i64 ee] 3)) w6.heap.size (.slice pa (stN T acts k).qs.length pc) (stN T acts k).qs := own_keep EB.out.2.2.2 fun _ _ hl => heap_old _ _ _ hl
              have hoe : OwnV (wB.alloc (.cells #[.int .i64 ee] 3)) w6.heap.size (.slice ea es.length ec) es := own_keep EB.out.1 fun _ _ hl => heap_old _ _ _ hl
              refine HKN.out _ _ _ (own_at hoe fun j hj => gr.block j (own_lt hoe hj).2 (fun e => diffE hoe hop (by decide) hj e.symm)) k1 (by rw [HQ1.out]; exact OwnI.snoc ho) (own_below (B6.out.alloc B6.out.size _) (by simp; omega) hop gr)
            clear ho gr HKN
            go_wp2
            go_roundw
            case rel => exact ⟨k + 1, by omega, by go_num, HN.out⟩
            case measure => simp [intOf]; omega
          · rw [k3] at ka
            rw [← HSt.out] at hq
            obtain ⟨n, hn'⟩ := Int.eq_ofNat_of_zero_le hn.1
            have HQ1 : Hid ((stN T acts (k + 1)).qs = (stN T acts k).qs.eraseIdx n) := (by rw [hq, hn']; rfl : _ = _)
            have hnq : n < (stN T acts k).qs.length := by omega
            have XN : Hid (wB.cell? ⟨ab, ao + k * 2 + 1, none⟩ = some (.int .i64 n) ∧ ab < wB.heap.size) := ⟨by rw [← hn']; exact EA.out.2.1, EA.out.2.2⟩
            have hpx : ∃ gq, pa = some ⟨gq, 0, none⟩ ∧ (stN T acts k).qs.length ≤ pc := by
              rcases EB.out.2.2.2.2 with ⟨e, h0⟩ | ⟨gq, cap, cur, e, _, _, hcap, _⟩
              · omega
              · cases e; exact ⟨gq, rfl, hcap⟩
            obtain ⟨gq, rfl, hcap⟩ := hpx
            have RQ : Hid (RowI wB (some ⟨gq, 0, none⟩) (stN T acts k).qs) := by
              obtain ⟨a', c', e, rr, _⟩ := OwnI.row EB.out.2.2.2
              cases e
              exact rr
            have nB : w6.heap.size ≤ wB.heap.size := B6.out.size
            clear HZ hq
            go_wp2_with fail
            refine reg22 wB gq (stN T acts k).qs.length pc ab ao len ac k n (stN T acts k).qs _ _ _ _ _ _ _ _ _ _ _ _ _ _ _ _ _ _ _ _ _ _ _ _ _ _ _ _ _ _ _ _ _ _ _ _ _ _ _ _ _ _ _ _ _ _ _ _ _ _ _ _ _ _ _ _ _ _ _ _ _ _ _ _ _ _ _ _ _ _ _ _ _ _ _ _ _ _ _ _ _ _ _ _ _ _ _ _ _ _ _ _ _ _ _ _ _ _ _ _ _ _ _ _ _ _ _ _ _ _ _ _ _ _ _ _ _ _ _ _ _ _ _ _ _ _ _ _ _ _ _ _ _ _ _ _ _ _ _ _ _ _ _ _ _ _ _ _ _ _ _ _ _ _ _ _ _ _ _ _ _ _ _ _ _ _ _ _ _ _ _ _ _ _ _ _ _ _ _ _ _ _ _ _ _ _ _ _ _ _ _ _ _ _ _ _ _ _ _ _ _ _ _ _ _ _ _ _ _ _ _ _ _ _ _ _ _ _ _ RQ.out rfl hnq (by omega) hcap hlt XN.out ?_
            intro t0_ t1_ t2_ t3_ t4_ t5_ t6_ t7_ t8_ t9_ t10_ t11_ t12_ t13_ t14_ t15_ t16_ t17_ t18_ w7 ho b7
            have HN : Hid (InvL w6 T acts (k + 1) (.slice ea es.length ec) t18_ w7) := HKN.out _ _ _ (own_keep EB.out.1 fun j _ hl => b7.block j hl) k1 (by rw [HQ1.out]; exact own_mono ho nB) (below_step B6.out (Nat.le_refl _) b7)
            clear ho b7 HKN
            go_wp2
            go_roundw
            case rel => exact ⟨k + 1, by omega, by go_num, HN.out⟩
            case measure => simp [intOf]; omega
      · have HN : Hid (InvL w6 T acts (k + 1) u13 u14 wB) := by
          have ee : epN T acts (k + 1) = epN T acts k := if_neg (fun h => hc0 (HCC.out.symm.trans h.2))
          have eq : (stN T acts (k + 1)).qs = (stN T acts k).qs := by
            rw [HSt.out]
            refine stp_qs (.inl fun h => hc0 ?_)
            rw [← HSt.out] at h
            exact HCC.out.symm.trans h
          exact ⟨es, EB.out.1, by rw [ee]; exact EB.out.2.1, by rw [ee]; exact EB.out.2.2.1, by rw [eq]; exact EB.out.2.2.2, B6.out⟩
        clear EB EA PL
        go_wp2
        go_roundw
        case rel => exact ⟨k + 1, by omega, by go_num, HN.out⟩
        case measure => simp [intOf]; omega
    · obtain rfl : k = len := by omega
      obtain ⟨es, _, _, _, _, bl⟩ := INV.out
      have SW : Hid (O5 true wr w2.heap.size v1 v2 v3 (.slice va vs.length vc) vs (stN T acts k) (rsN T acts k)) := S6.out.at fun j hj => bl.block j (S6.out.lt hj).2
      have YW := keepBlk Y6.out bl (slab_lt Y6.out)
      have HBW : Hid (Below w.heap.size w wr) := HB6.out.trans (bl.mono HB6.out.size)
      obtain ⟨y0, y1, y2, y3, y4⟩ := box5_of YW
      have YH : Hid (wr.heap[w3.heap.size]? = some (.cells #[.int .i64 T, .int .i64 (stN T acts k).e, v1, v2, v3] 29 (0, 0))) := YW
      clear YW bl INV
      go_wp2_with fail
      refine (spFree_read T (stN T acts k).e v1 v2 v3 (stN T acts k).ss (stN T acts k).ps (stN T acts k).qs wr (OwnI.read SW.out.1) (OwnP.read SW.out.2.1) (OwnI.read SW.out.2.2.1) LM.out.1 LM.out.2.1 LM.out.2.2 OKS.out).mono ?_
      rintro e w7 ⟨fv, rfl, of, b7⟩
      have hB7 := below_step HBW.out (Nat.le_refl _) b7
      have Y7 := keepBlk YH.out b7 (slab_lt YH.out)
      obtain ⟨fa, fc', rfl⟩ := own_shp of
      obtain ⟨na, nc, hn⟩ := own_shp SW.out.1
      obtain ⟨ha, hc, hh⟩ := own_shp SW.out.2.1
      have ALL := all_pages OKS.out
      clear y0 y1 y2 y3 y4 of b7 YH
      obtain ⟨y0, y1, y2, y3, y4⟩ := box5_of Y7
      clear Y7
      rw [hn] at y2
      rw [hh] at y3
      have HALL : ((freeK (usedB (stN T acts k).ss (stN T acts k).ps) T).length : Int) + ((stN T acts k).ss.length : Int) + ((stN T acts k).ps.length : Int) = (T : Int) := by omega
      generalize (freeK (usedB (stN T acts k).ss (stN T acts k).ps) T).length = q1 at *
      generalize (stN T acts k).ss.length = q2 at *
      generalize (stN T acts k).ps.length = q3 at *
      go_wp2
      go_ret
      exact ⟨rfl, hB7⟩
end Go.Proofs.Ytaklphoplfofbaa
