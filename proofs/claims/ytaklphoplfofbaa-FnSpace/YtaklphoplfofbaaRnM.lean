/- The law on SpaceRun, walked (stage 4). -/
import Derived.Test.YtaklphoplfofbaaRqX
import Derived.Test.YtaklphoplfofbaaRnA
import Derived.Test.YtaklphoplfofbaaLwX
namespace Go.Proofs.Ytaklphoplfofbaa
open Go.RowKit

/-- What SpaceRun answers, owned; b: its lists of numbers lie apart. -/
def O5 (b : Bool) (w : World) (n : Nat) (u1 u2 u3 v : Value) (us : List Rp) (R : SR) (rs : List Rl) : Prop :=
  OwnI w n u1 R.ss ∧ OwnP w n u2 R.ps ∧ OwnI w n u3 R.qs ∧ OwnR w n v us ∧ Reps w n us rs ∧ (b = true → SepN 0 u1 u3 ∧ (∀ i, i < us.length → SepN 0 u1 (nthR us i).2 ∧ SepN 0 u3 (nthR us i).2) ∧ ∀ i i', i < i' → i' < us.length → SepN 0 (nthR us i).2 (nthR us i').2)
/-- Its blocks. -/
def In5 (u1 u2 u3 v : Value) (us : List Rp) (j : Nat) : Prop := u1.ownBlock = some j ∨ u2.ownBlock = some j ∨ u3.ownBlock = some j ∨ v.ownBlock = some j ∨ ∃ i, i < us.length ∧ (nthR us i).2.ownBlock = some j
theorem O5.lt {b : Bool} {w : World} {n : Nat} {u1 u2 u3 v : Value} {us : List Rp} {R : SR} {rs : List Rl} (h : O5 b w n u1 u2 u3 v us R rs) {j : Nat} (hj : In5 u1 u2 u3 v us j) : n ≤ j ∧ j < w.heap.size := by
  obtain ⟨h1, h2, h3, h4, h5, _⟩ := h
  rcases hj with hj | hj | hj | hj | ⟨i, hi, hj⟩
  · exact own_lt h1 hj
  · exact own_lt h2 hj
  · exact own_lt h3 hj
  · exact own_lt h4 hj
  · exact own_lt (h5.2 i (by rw [← h5.1]; exact hi)).2 hj
theorem O5.at {b : Bool} {w w' : World} {n : Nat} {u1 u2 u3 v : Value} {us : List Rp} {R : SR} {rs : List Rl} (h : O5 b w n u1 u2 u3 v us R rs) (hk : ∀ j, In5 u1 u2 u3 v us j → w'.heap[j]? = w.heap[j]?) : O5 b w' n u1 u2 u3 v us R rs :=
  ⟨own_at h.1 fun j hj => hk j (.inl hj), own_at h.2.1 fun j hj => hk j (.inr (.inl hj)), own_at h.2.2.1 fun j hj => hk j (.inr (.inr (.inl hj))), own_at h.2.2.2.1 fun j hj => hk j (.inr (.inr (.inr (.inl hj)))), ⟨h.2.2.2.2.1.1, fun i hi => ⟨(h.2.2.2.2.1.2 i hi).1, own_at (h.2.2.2.2.1.2 i hi).2 fun j hj => hk j (.inr (.inr (.inr (.inr ⟨i, by rw [h.2.2.2.2.1.1]; exact hi, hj⟩))))⟩⟩, h.2.2.2.2.2⟩
theorem O5.keep {b : Bool} {w w' : World} {n : Nat} {u1 u2 u3 v : Value} {us : List Rp} {R : SR} {rs : List Rl} (h : O5 b w n u1 u2 u3 v us R rs) (hb : Below w.heap.size w w') : O5 b w' n u1 u2 u3 v us R rs := h.at fun j hj => hb.block j (h.lt hj).2
theorem RetR.open {b : Bool} {w : World} {T : Int} {R : SR} {rs : List Rl} {d : Int} {r : Ending} {w' : World} (h : RetR b w T R rs d r w') : ∃ u1 u2 u3 v us, r = .returned (.tuple #[SV T R.e u1 u2 u3, v, .int .i64 d]) ∧ O5 b w' w.heap.size u1 u2 u3 v us R rs ∧ Below w.heap.size w w' := by
  obtain ⟨u1, u2, u3, v, us, e, h1, h2, h3, h4, h5, h6, hb⟩ := h
  exact ⟨u1, u2, u3, v, us, e, ⟨h1, h2, h3, h4, h5, h6⟩, hb⟩
theorem markQ_any (g : Nat) (acts : List P2) (w : World) (h : SlabQ w g acts.length acts acts.length) (hl : acts.length ≤ 1048576) : Calls Try.prog 39 #[.slice (some ⟨g, 0, none⟩) acts.length acts.length, .int .i64 1] w fun r w' => ∃ x : Int, r = .returned (.int .i64 x) ∧ 0 ≤ x ∧ Kept (fun j => j = g) w w' := by
  obtain ⟨cur, hh, hs, _⟩ := h
  refine (markQ_slab g acts.length acts.length _ cur 1 w hh rfl (by omega) (by omega) (by omega) hl).mono ?_
  rintro r w' ⟨rfl, k⟩
  exact ⟨_, rfl, by omega, k⟩
/-- What both sides answer. -/
def rOk (tot : Int) (n : Nat) : Prop := n ≤ 200 ∧ 1 ≤ tot ∧ tot ≤ 64
instance (tot : Int) (n : Nat) : Decidable (rOk tot n) := by unfold rOk; infer_instance
def rT (tot : Int) (n : Nat) : Int := if rOk tot n then tot else 0
def rR (tot : Int) (acts : List P2) : SR := if rOk tot acts.length then stN tot.toNat acts acts.length else zR
def rRs (tot : Int) (acts : List P2) : List Rl := if rOk tot acts.length then rsN tot.toNat acts acts.length else []
def rD (tot : Int) (n : Nat) : Int := if 4096 < n then 2 else if ¬ (1 ≤ tot ∧ tot ≤ 64) then 4 else if 200 < n then 6 else 0
theorem r_bad {tot : Int} {acts : List P2} (h : ¬ rOk tot acts.length) : rT tot acts.length = 0 ∧ rR tot acts = zR ∧ rRs tot acts = [] := ⟨if_neg h, if_neg h, if_neg h⟩
theorem implRun_any (tot : Int) (acts : List P2) (a : Option Addr) (c : Nat) (w : World) (h : RowP w a acts) (hl : acts.length ≤ 1048576) : Calls Try.prog 11 #[.int .i64 tot, .slice a acts.length c] w (RetR true w (rT tot acts.length) (rR tot acts) (rRs tot acts) (rD tot acts.length)) := by
  by_cases h1 : 4096 < acts.length
  · obtain ⟨e1, e2, e3⟩ := r_bad (tot := tot) (acts := acts) (fun h => by have := h.1; omega)
    have e4 : rD tot acts.length = 2 := if_pos h1
    rw [e1, e2, e3, e4]
    exact implRun_long tot a acts.length c w h1 hl
  by_cases h2 : 1 ≤ tot ∧ tot ≤ 64
  · by_cases h3 : 200 < acts.length
    · obtain ⟨e1, e2, e3⟩ := r_bad (tot := tot) (acts := acts) (fun h => by have := h.1; omega)
      have e4 : rD tot acts.length = 6 := by unfold rD; rw [if_neg h1, if_neg (fun h => h h2), if_pos h3]
      rw [e1, e2, e3, e4]
      exact implRun_many tot a acts.length c w (by omega) h3 h2
    · have ok : rOk tot acts.length := ⟨by omega, h2⟩
      have e4 : rD tot acts.length = 0 := by unfold rD; rw [if_neg h1, if_neg (fun h => h h2), if_neg h3]
      have e1 : rT tot acts.length = tot := if_pos ok
      have e2 : rR tot acts = stN tot.toNat acts acts.length := if_pos ok
      have e3 : rRs tot acts = rsN tot.toNat acts acts.length := if_pos ok
      rw [e1, e2, e3, e4]
      obtain ⟨T, rfl⟩ := Int.eq_ofNat_of_zero_le (show 0 ≤ tot by omega)
      exact implRun_ok T acts a c w h (by omega) (by omega)
  · obtain ⟨e1, e2, e3⟩ := r_bad (tot := tot) (acts := acts) (fun h => h2 h.2)
    have e4 : rD tot acts.length = 4 := by unfold rD; rw [if_neg h1, if_pos h2]
    rw [e1, e2, e3, e4]
    exact implRun_range tot a acts.length c w (by omega) h2
theorem specRun_any (tot : Int) (acts : List P2) (a : Option Addr) (c : Nat) (w : World) (h : RowP w a acts) (hl : acts.length ≤ 1048576) : Calls Try.prog 12 #[.int .i64 tot, .slice a acts.length c] w (RetR false w (rT tot acts.length) (rR tot acts) (rRs tot acts) (rD tot acts.length)) := by
  by_cases h1 : 4096 < acts.length
  · obtain ⟨e1, e2, e3⟩ := r_bad (tot := tot) (acts := acts) (fun h => by have := h.1; omega)
    have e4 : rD tot acts.length = 2 := if_pos h1
    rw [e1, e2, e3, e4]
    exact specRun_long tot a acts.length c w h1 hl
  by_cases h2 : 1 ≤ tot ∧ tot ≤ 64
  · by_cases h3 : 200 < acts.length
    · obtain ⟨e1, e2, e3⟩ := r_bad (tot := tot) (acts := acts) (fun h => by have := h.1; omega)
      have e4 : rD tot acts.length = 6 := by unfold rD; rw [if_neg h1, if_neg (fun h => h h2), if_pos h3]
      rw [e1, e2, e3, e4]
      exact specRun_many tot a acts.length c w (by omega) h3 h2
    · have ok : rOk tot acts.length := ⟨by omega, h2⟩
      have e4 : rD tot acts.length = 0 := by unfold rD; rw [if_neg h1, if_neg (fun h => h h2), if_neg h3]
      have e1 : rT tot acts.length = tot := if_pos ok
      have e2 : rR tot acts = stN tot.toNat acts acts.length := if_pos ok
      have e3 : rRs tot acts = rsN tot.toNat acts acts.length := if_pos ok
      rw [e1, e2, e3, e4]
      obtain ⟨T, rfl⟩ := Int.eq_ofNat_of_zero_le (show 0 ≤ tot by omega)
      exact specRun_ok T acts a c w h (by omega) (by omega)
  · obtain ⟨e1, e2, e3⟩ := r_bad (tot := tot) (acts := acts) (fun h => h2 h.2)
    have e4 : rD tot acts.length = 4 := by unfold rD; rw [if_neg h1, if_pos h2]
    rw [e1, e2, e3, e4]
    exact specRun_range tot a acts.length c w (by omega) h2
theorem r_len (tot : Int) (acts : List P2) : ((rR tot acts).ss.length ≤ 1048576 ∧ (rR tot acts).ps.length ≤ 1048576 ∧ (rR tot acts).qs.length ≤ 1048576) ∧ (rRs tot acts).length ≤ 4096 ∧ ∀ i, i < (rRs tot acts).length → (nthL (rRs tot acts) i).2.length ≤ 64 := by
  unfold rR rRs
  by_cases h : rOk tot acts.length
  · rw [if_pos h, if_pos h]
    have ok := stN_ok tot.toNat acts (by have := h.2; omega)
    have m := ok_many (ok acts.length)
    have q := (ok acts.length).2.2.2.2.2.1
    have t := h.2
    refine ⟨⟨by omega, by omega, by omega⟩, by rw [rsN_len]; have := h.1; omega, fun i hi => ?_⟩
    rw [rsN_len] at hi
    rw [rsN_nth _ _ _ _ hi]
    exact stp_pg _ _ _ _ _ _ _ (ok i)
  · rw [if_neg h, if_neg h]
    exact ⟨⟨Nat.zero_le _, Nat.zero_le _, Nat.zero_le _⟩, Nat.zero_le _, fun i hi => by cases hi⟩
/-- What the law has at hand: spec's answer, and where impl's lies. -/
def StC (w : World) (T : Int) (R : SR) (rs : List Rl) (Y Y' n1 : Nat) (u1 u2 u3 u : Value) (us : List Rp) (v1 v2 v3 : Value) (w' : World) : Prop :=
  w'.heap[Y]? = some (.cells #[.int .i64 T, .int .i64 R.e, u1, u2, u3] 29 (0, 0)) ∧ w'.heap[Y']? = some (.cells #[.int .i64 T, .int .i64 R.e, v1, v2, v3] 29 (0, 0)) ∧ O5 false w' n1 u1 u2 u3 u us R rs ∧ Below w.heap.size w w'
theorem StC.keep {w : World} {T : Int} {R : SR} {rs : List Rl} {Y Y' n1 : Nat} {u1 u2 u3 u : Value} {us : List Rp} {v1 v2 v3 : Value} {w1 w2 : World} (h : StC w T R rs Y Y' n1 u1 u2 u3 u us v1 v2 v3 w1) (hb : Below w1.heap.size w1 w2) : StC w T R rs Y Y' n1 u1 u2 u3 u us v1 v2 v3 w2 :=
  ⟨keepBlk h.1 hb (slab_lt h.1), keepBlk h.2.1 hb (slab_lt h.2.1), h.2.2.1.keep hb, below_step h.2.2.2 (Nat.le_refl _) hb⟩
theorem StC.kept {w : World} {T : Int} {R : SR} {rs : List Rl} {Y Y' n1 : Nat} {u1 u2 u3 u : Value} {us : List Rp} {v1 v2 v3 : Value} {w1 w2 : World} {S : Nat → Prop} (h : StC w T R rs Y Y' n1 u1 u2 u3 u us v1 v2 v3 w1) (hK : Kept S w1 w2) (hS : ∀ j, S j → Y < j ∧ j ≠ Y') (hn : w.heap.size ≤ Y) (hu : ∀ j, In5 u1 u2 u3 u us j → j < Y) : StC w T R rs Y Y' n1 u1 u2 u3 u us v1 v2 v3 w2 := by
  obtain ⟨x1, x2, o, hB⟩ := h
  refine ⟨(hK.block _ (slab_lt x1) (fun hs => by have := (hS _ hs).1; omega)).trans x1, (hK.block _ (slab_lt x2) (fun hs => (hS _ hs).2 rfl)).trans x2, o.at fun j hj => hK.block j (o.lt hj).2 (fun hs => by have := (hS _ hs).1; have := hu j hj; omega), hB.trans (hK.below hB.size fun j hj => by have := (hS j hj).1; omega)⟩

set_option maxRecDepth 100000 in
set_option maxHeartbeats 16000000 in
theorem lawSpaceRun (tot : Int) (a : Option Addr) (c : Nat) (acts : List P2) (w : World) (h : RowP w a acts) (m : acts.length ≤ maxLen) :
    Calls Try.prog 8 #[.int .i64 tot, .slice a acts.length c] w fun r w' => r = .returned (.bool true) ∧ Below w.heap.size w w' := by
  have H : Hid (RowP w a acts) := h
  have M : Hid (acts.length ≤ maxLen) := m
  clear h m
  obtain ⟨T, hT⟩ : ∃ x, rT tot acts.length = x := ⟨_, rfl⟩
  obtain ⟨R, hR⟩ : ∃ x, rR tot acts = x := ⟨_, rfl⟩
  obtain ⟨rs, hrs⟩ : ∃ x, rRs tot acts = x := ⟨_, rfl⟩
  obtain ⟨D, hD⟩ : ∃ x, rD tot acts.length = x := ⟨_, rfl⟩
  have LR : Hid ((R.ss.length ≤ 1048576 ∧ R.ps.length ≤ 1048576 ∧ R.qs.length ≤ 1048576) ∧ rs.length ≤ 4096 ∧ ∀ i, i < rs.length → (nthL rs i).2.length ≤ 64) := hR ▸ hrs ▸ r_len tot acts
  have CI : Hid (acts.length ≤ 1048576 → ∀ g w', SlabQ w' g acts.length acts acts.length → Calls Try.prog 11 #[.int .i64 tot, .slice (some ⟨g, 0, none⟩) acts.length acts.length] w' (RetR true w' T R rs D)) := fun hl g w' hs => by
    subst hT hR hrs hD
    exact implRun_any tot acts _ _ w' hs.row hl
  have CS : Hid (acts.length ≤ 1048576 → ∀ g w', SlabQ w' g acts.length acts acts.length → Calls Try.prog 12 #[.int .i64 tot, .slice (some ⟨g, 0, none⟩) acts.length acts.length] w' (RetR false w' T R rs D)) := fun hl g w' hs => by
    subst hT hR hrs hD
    exact specRun_any tot acts _ _ w' hs.row hl
  clear hT hR hrs hD
  go_enter Try.func8, Try.ntmps8
  go_wp2_with fail
  refine (szQ_any a acts.length c 1048576 w M.out (by omega) (by omega)).mono ?_
  rintro r w0 ⟨x, rfl, x0, x1, x2, hq⟩
  obtain rfl := hq.symm
  by_cases hx : x < 0
  · clear x2
    go_wp2
    go_ret
    exact ⟨rfl, Below.refl _ _⟩
  have L : Hid (acts.length ≤ 1048576) := x2 (by omega)
  clear x2 x0 x1
  go_wp2_with fail
  refine (toQ_any a c acts w H.out L.out).mono ?_
  rintro r w1 ⟨g0, rfl, _, S0, b1⟩
  have S1 : Hid (SlabQ w1 g0 acts.length acts acts.length) := S0
  have HB1 : Hid (Below w.heap.size w w1) := b1
  clear S0 b1
  go_wp2_with fail
  refine (CS.out L.out g0 w1 S1.out).mono ?_
  rintro r w2 hr
  obtain ⟨u1, u2, u3, u, us, rfl, o2, b2⟩ := RetR.open hr
  have HB2 : Hid (Below w.heap.size w w2) := HB1.out.trans (b2.mono HB1.out.size)
  have O2 : Hid (O5 false w2 w1.heap.size u1 u2 u3 u us R rs) := o2
  have UL : Hid (∀ j, In5 u1 u2 u3 u us j → j < w2.heap.size) := fun j hj => (O2.out.lt hj).2
  obtain ⟨A2, hA2⟩ : ∃ A2, (w2.alloc (.cells #[.int .i64 T, .int .i64 R.e, u1, u2, u3] 29)) = A2 := ⟨_, rfl⟩
  have a2 : Below w2.heap.size w2 A2 := hA2 ▸ (Below.refl _ _).alloc (Nat.le_refl _) _
  have z2 : A2.heap.size = w2.heap.size + 1 := by rw [← hA2]; simp
  have HY2 : Hid (A2.heap[w2.heap.size]? = some (.cells #[.int .i64 T, .int .i64 R.e, u1, u2, u3] 29 (0, 0))) := (hA2 ▸ heap_new' _ _ _ rfl : A2.heap[w2.heap.size]? = _)
  have HA2 : Hid (Below w.heap.size w A2) := HB2.out.trans (a2.mono HB2.out.size)
  have OA2 : Hid (O5 false A2 w1.heap.size u1 u2 u3 u us R rs) := O2.out.keep a2
  clear hr o2 b2 HB1 S1 O2 a2
  obtain ⟨e1, n1, d1, rfl⟩ := own_shq OA2.out.1
  obtain ⟨e2, n2, d2, rfl⟩ := own_shq OA2.out.2.1
  obtain ⟨e3, n3, d3, rfl⟩ := own_shq OA2.out.2.2.1
  go_wp2_with fail
  refine (toQ_any a c acts A2 (H.out.below HA2.out) L.out).mono ?_
  rintro r w3 ⟨g, rfl, gz, S3, b3⟩
  generalize hu1 : Value.slice e1 n1 d1 = u1 at *
  generalize hu2 : Value.slice e2 n2 d2 = u2 at *
  generalize hu3 : Value.slice e3 n3 d3 = u3 at *
  have KS3 : Hid (SlabQ w3 g acts.length acts acts.length) := S3
  have HB3 : Hid (Below w.heap.size w w3) := HA2.out.trans (b3.mono HA2.out.size)
  have HY3 : Hid (w3.heap[w2.heap.size]? = some (.cells #[.int .i64 T, .int .i64 R.e, u1, u2, u3] 29 (0, 0))) := keepBlk HY2.out b3 (slab_lt HY2.out)
  have O3 : Hid (O5 false w3 w1.heap.size u1 u2 u3 u us R rs) := OA2.out.keep b3
  have GB : Hid (w2.heap.size < g ∧ g < w3.heap.size) := ⟨by omega, S3.lt⟩
  have N2 : Hid (w.heap.size ≤ w2.heap.size) := HB2.out.size
  clear hu1 hu2 hu3 S3 gz b3 HA2 HY2 OA2 hA2 z2 HB2
  go_wp2_with fail
  refine (CI.out L.out g w3 KS3.out).mono ?_
  rintro r w4 hr
  obtain ⟨v1, v2, v3, v, vs, rfl, o4, b4⟩ := RetR.open hr
  obtain ⟨A4, hA4⟩ : ∃ A4, (w4.alloc (.cells #[.int .i64 T, .int .i64 R.e, v1, v2, v3] 29)) = A4 := ⟨_, rfl⟩
  have a4 : Below w4.heap.size w4 A4 := hA4 ▸ (Below.refl _ _).alloc (Nat.le_refl _) _
  have c4 : Below w3.heap.size w3 A4 := b4.trans (a4.mono b4.size)
  have V0 : Hid (O5 true A4 w3.heap.size v1 v2 v3 v vs R rs) := o4.keep a4
  have VL : Hid (∀ j, In5 v1 v2 v3 v vs j → w3.heap.size ≤ j ∧ j < w4.heap.size) := fun j hj => o4.lt hj
  have N4 : Hid (w3.heap.size ≤ w4.heap.size) := b4.size
  have KS4 : Hid (SlabQ A4 g acts.length acts acts.length) := KS3.out.below c4 KS3.out.lt
  have SB0 : Hid (StC w T R rs w2.heap.size w4.heap.size w1.heap.size u1 u2 u3 u us v1 v2 v3 A4) := ⟨keepBlk HY3.out c4 (slab_lt HY3.out), (hA4 ▸ heap_new' _ _ _ rfl : A4.heap[w4.heap.size]? = _), O3.out.keep c4, HB3.out.trans (c4.mono HB3.out.size)⟩
  obtain ⟨e1, n1, d1, rfl⟩ := own_shq V0.out.1
  obtain ⟨e2, n2, d2, rfl⟩ := own_shq V0.out.2.1
  obtain ⟨e3, n3, d3, rfl⟩ := own_shq V0.out.2.2.1
  obtain ⟨y0, y1, y2, y3, y4⟩ := box5_of SB0.out.2.1
  obtain ⟨z0, z1, z2, z3, z4⟩ := box5_of SB0.out.1
  clear hr o4 b4 a4 c4 KS3 HY3 O3 HB3
  go_wp2_with fail
  generalize hv1 : Value.slice e1 n1 d1 = v1 at *
  generalize hv2 : Value.slice e2 n2 d2 = v2 at *
  generalize hv3 : Value.slice e3 n3 d3 = v3 at *
  clear hv1 hv2 hv3 hA4
  generalize hYY : w2.heap.size = Y at *
  generalize hYY' : w4.heap.size = Y' at *
  clear hYY hYY'
  refine (eqSp_own T R.e v1 v2 v3 u1 u2 u3 R.ss R.ps R.qs _ _ A4 V0.out.1 V0.out.2.1 V0.out.2.2.1 SB0.out.2.2.1.1 SB0.out.2.2.1.2.1 SB0.out.2.2.1.2.2.1 LR.out.1.1 LR.out.1.2.1 LR.out.1.2.2).mono ?_
  rintro r w5 ⟨rfl, bq⟩
  have SB1 : Hid (StC w T R rs Y Y' w1.heap.size u1 u2 u3 u us v1 v2 v3 w5) := SB0.out.keep bq
  have V1 : Hid (O5 true w5 w3.heap.size v1 v2 v3 v vs R rs) := V0.out.keep bq
  have KS5 : Hid (SlabQ w5 g acts.length acts acts.length) := KS4.out.below bq KS4.out.lt
  clear y0 y1 y2 y3 y4 z0 z1 z2 z3 z4 bq
  go_wp2_with fail
  refine (eqR_own v u vs us rs _ _ w5 V1.out.2.2.2.1 SB1.out.2.2.1.2.2.2.1 V1.out.2.2.2.2.1 SB1.out.2.2.1.2.2.2.2.1 LR.out.2.1 LR.out.2.2).mono ?_
  rintro r w6 ⟨rfl, bq⟩
  have SB2 : Hid (StC w T R rs Y Y' w1.heap.size u1 u2 u3 u us v1 v2 v3 w6) := SB1.out.keep bq
  have V2 : Hid (O5 true w6 w3.heap.size v1 v2 v3 v vs R rs) := V1.out.keep bq
  have KS6 : Hid (SlabQ w6 g acts.length acts acts.length) := KS5.out.below bq KS5.out.lt
  clear KS4 KS5
  clear bq SB1 V1 SB0 V0

  go_wp2_with fail
  refine (toQ_any a c acts w6 (H.out.below SB2.out.2.2.2) L.out).mono ?_
  rintro r w7 ⟨g', rfl, _, S7, b7⟩
  have SB3 : Hid (StC w T R rs Y Y' w1.heap.size u1 u2 u3 u us v1 v2 v3 w7) := SB2.out.keep b7
  have V3 : Hid (O5 true w7 w3.heap.size v1 v2 v3 v vs R rs) := V2.out.keep b7
  have KS7 : Hid (SlabQ w7 g acts.length acts acts.length) := KS6.out.below b7 KS6.out.lt
  have S7' : Hid (SlabQ w7 g' acts.length acts acts.length) := S7
  clear S7 b7 SB2 V2 KS6
  go_wp2_with fail
  refine (eqQ_same _ _ _ _ acts w7 KS7.out.row S7'.out.row L.out).mono ?_
  rintro r w8 ⟨rfl, b8⟩
  have SB4 : Hid (StC w T R rs Y Y' w1.heap.size u1 u2 u3 u us v1 v2 v3 w8) := SB3.out.keep b8
  have V4 : Hid (O5 true w8 w3.heap.size v1 v2 v3 v vs R rs) := V3.out.keep b8
  have KS8 : Hid (SlabQ w8 g acts.length acts acts.length) := KS7.out.below b8 KS7.out.lt
  clear b8 SB3 V3 KS7 S7'
  go_wp2_with fail
  refine (markQ_any g acts w8 KS8.out L.out).mono ?_
  rintro r w9 ⟨x9, rfl, x90, k9⟩
  have SB0 : Hid (StC w T R rs Y Y' w1.heap.size u1 u2 u3 u us v1 v2 v3 w9) := SB4.out.kept k9 (fun j hj => by have e : j = g := hj; have := GB.out; have := N4.out; omega) N2.out UL.out
  have V0 : Hid (O5 true w9 w3.heap.size v1 v2 v3 v vs R rs) := V4.out.at fun j hj => k9.block j (V4.out.lt hj).2 (fun hs => by have e : j = g := hs; have := (VL.out j hj).1; have := GB.out; omega)
  have hx9 : ¬ x9 < 0 := by omega
  clear SB4 V4 KS8 k9
  obtain ⟨y0, y1, y2, y3, y4⟩ := box5_of SB0.out.2.1
  obtain ⟨z0, z1, z2, z3, z4⟩ := box5_of SB0.out.1
  go_wp2_with fail
  refine (eqSp_own T R.e v1 v2 v3 u1 u2 u3 R.ss R.ps R.qs _ _ w9 V0.out.1 V0.out.2.1 V0.out.2.2.1 SB0.out.2.2.1.1 SB0.out.2.2.1.2.1 SB0.out.2.2.1.2.2.1 LR.out.1.1 LR.out.1.2.1 LR.out.1.2.2).mono ?_
  rintro r w10 ⟨rfl, bq⟩
  have SB1 : Hid (StC w T R rs Y Y' w1.heap.size u1 u2 u3 u us v1 v2 v3 w10) := SB0.out.keep bq
  have V1 : Hid (O5 true w10 w3.heap.size v1 v2 v3 v vs R rs) := V0.out.keep bq
  clear y0 y1 y2 y3 y4 z0 z1 z2 z3 z4 bq
  go_wp2_with fail
  refine (eqR_own v u vs us rs _ _ w10 V1.out.2.2.2.1 SB1.out.2.2.1.2.2.2.1 V1.out.2.2.2.2.1 SB1.out.2.2.1.2.2.2.2.1 LR.out.2.1 LR.out.2.2).mono ?_
  rintro r w11 ⟨rfl, bq⟩
  have SB2 : Hid (StC w T R rs Y Y' w1.heap.size u1 u2 u3 u us v1 v2 v3 w11) := SB1.out.keep bq
  have V2 : Hid (O5 true w11 w3.heap.size v1 v2 v3 v vs R rs) := V1.out.keep bq
  clear bq SB1 V1 SB0 V0

  obtain ⟨y0, y1, y2, y3, y4⟩ := box5_of SB2.out.2.1
  go_wp2_with fail
  refine (markSp_own T R.e 1 v1 v2 v3 R.ss R.ps R.qs _ w11 V2.out.1 V2.out.2.1 V2.out.2.2.1 (V2.out.2.2.2.2.2 rfl).1 LR.out.1.1 LR.out.1.2.1 LR.out.1.2.2 (by omega) (by omega)).mono ?_
  rintro r w12 ⟨rfl, ms, k12⟩
  have rng : ∀ j, In5 v1 v2 v3 v vs j → Y < j ∧ j ≠ Y' := fun j hj => by have := VL.out j hj; have := GB.out; omega
  have RNG : Hid (∀ j, In5 v1 v2 v3 v vs j → Y < j ∧ j ≠ Y') := rng
  have SB3 : Hid (StC w T R rs Y Y' w1.heap.size u1 u2 u3 u us v1 v2 v3 w12) := SB2.out.kept k12 (fun j hj => by
    rcases hj with h | h | h
    · exact rng j (.inl h)
    · exact rng j (.inr (.inl h))
    · exact rng j (.inr (.inr (.inl h)))) N2.out UL.out
  have OR : Hid (OwnR w12 w3.heap.size v vs) := own_at V2.out.2.2.2.1 fun j hj => k12.block j (own_lt V2.out.2.2.2.1 hj).2 (fun h => by
    rcases h with h | h | h
    · exact diffE V2.out.1 V2.out.2.2.2.1 (by decide) h hj
    · exact diffE V2.out.2.1 V2.out.2.2.2.1 (by decide) h hj
    · exact diffE V2.out.2.2.1 V2.out.2.2.2.1 (by decide) h hj)
  have SP : Hid ((∀ i, i < vs.length → SepN 0 v1 (nthR vs i).2 ∧ SepN 0 v3 (nthR vs i).2) ∧ ∀ i i', i < i' → i' < vs.length → SepN 0 (nthR vs i).2 (nthR vs i').2) := (V2.out.2.2.2.2.2 rfl).2
  have RP : Hid (Reps w12 w3.heap.size vs rs) := by
    have r := V2.out.2.2.2.2.1
    refine ⟨r.1, fun i hi => ⟨(r.2 i hi).1, own_at (r.2 i hi).2 fun j hj => k12.block j (own_lt (r.2 i hi).2 hj).2 (fun h => ?_)⟩⟩
    have hi' : i < vs.length := by rw [r.1]; exact hi
    rcases h with h | h | h
    · exact (SP.out.1 i hi').1 j (Nat.zero_le _) h hj
    · exact diffE (r.2 i hi).2 V2.out.2.1 (by decide) hj h
    · exact (SP.out.1 i hi').2 j (Nat.zero_le _) h hj
  obtain ⟨p1, hp1⟩ : ∃ x, R.ss.length = x := ⟨_, rfl⟩
  obtain ⟨p2, hp2⟩ : ∃ x, R.ps.length = x := ⟨_, rfl⟩
  obtain ⟨p3, hp3⟩ : ∃ x, R.qs.length = x := ⟨_, rfl⟩
  have LP : Hid (p1 ≤ 1048576 ∧ p2 ≤ 1048576 ∧ p3 ≤ 1048576) := ⟨hp1 ▸ LR.out.1.1, hp2 ▸ LR.out.1.2.1, hp3 ▸ LR.out.1.2.2⟩
  rw [hp1, hp2, hp3] at ms ⊢
  have M3 : Hid (MS w12 w3.heap.size 1 p1 p2 p3 v1 v2 v3) := ms
  obtain ⟨K, hK⟩ : ∃ x, (1 : Int) + p1 + 2 * p2 + p3 = x := ⟨_, rfl⟩
  have HK : Hid ((1 : Int) + p1 + 2 * p2 + p3 = K) := hK
  have K0 : 0 ≤ K := by omega
  have K1 : K ≤ 10000000 := by have := LP.out; omega
  rw [hK]
  clear hp1 hp2 hp3 ms hK k12 SB2 V2 y0 y1 y2 y3 y4 rng
  go_wp2_with fail
  refine (markR_own v vs rs K _ w12 OR.out RP.out SP.out.2 LR.out.2.2 K0 K1 LR.out.2.1).mono ?_
  rintro r w13 ⟨rfl, ⟨vm, hvm, mr⟩, k13⟩
  have SB4 : Hid (StC w T R rs Y Y' w1.heap.size u1 u2 u3 u us v1 v2 v3 w13) := SB3.out.kept k13 (fun j hj => by
    rcases hj with h | ⟨i, hi, h⟩
    · exact RNG.out j (.inr (.inr (.inr (.inl h))))
    · exact RNG.out j (.inr (.inr (.inr (.inr ⟨i, hi, h⟩))))) N2.out UL.out
  have M4 : Hid (MS w13 w3.heap.size 1 p1 p2 p3 v1 v2 v3) := by
    have pg : ∀ i, i < vs.length → OwnI w12 w3.heap.size (nthR vs i).2 (nthL rs i).2 := fun i hi => (RP.out.2 i (by rw [← RP.out.1]; exact hi)).2
    refine ⟨own_at M3.out.1 fun j hj => k13.block j (own_lt M3.out.1 hj).2 (fun h => ?_), own_at M3.out.2.1 fun j hj => k13.block j (own_lt M3.out.2.1 hj).2 (fun h => ?_), own_at M3.out.2.2 fun j hj => k13.block j (own_lt M3.out.2.2 hj).2 (fun h => ?_)⟩
    · rcases h with h | ⟨i, hi, h⟩
      · exact diffE M3.out.1 OR.out (by decide) hj h
      · exact (SP.out.1 i hi).1 j (Nat.zero_le _) hj h
    · rcases h with h | ⟨i, hi, h⟩
      · exact diffE M3.out.2.1 OR.out (by decide) hj h
      · exact diffE M3.out.2.1 (pg i hi) (by decide) hj h
    · rcases h with h | ⟨i, hi, h⟩
      · exact diffE M3.out.2.2 OR.out (by decide) hj h
      · exact (SP.out.1 i hi).2 j (Nat.zero_le _) hj h
  have Q4 : Hid (MRep w13 w3.heap.size v vm K (fun i => (nthL rs i).2.length)) := mr
  have VM : Hid (vm.length = vs.length ∧ vm.length ≤ 4096 ∧ ∀ i, i < vm.length → (nthL rs i).2.length ≤ 64) := ⟨hvm, by rw [hvm, RP.out.1]; exact LR.out.2.1, fun i hi => LR.out.2.2 i (by rw [← RP.out.1, ← hvm]; exact hi)⟩
  rw [← hvm]
  obtain ⟨M', hM⟩ : ∃ x, mkN K (fun i => (nthL rs i).2.length) vm.length = x := ⟨_, rfl⟩
  have HM : Hid (mkN K (fun i => (nthL rs i).2.length) vm.length = M') := hM
  have M0 : ¬ M' < 0 := by have := mkN_le K _ vm.length VM.out.2.2 vm.length (Nat.le_refl _); rw [hM] at this; omega
  have Kn : ¬ K < 0 := by omega
  rw [hM]
  clear mr k13 SB3 M3 OR RP SP hM hvm RNG
  obtain ⟨y0, y1, y2, y3, y4⟩ := box5_of SB4.out.2.1
  go_wp2_with fail
  refine (heldSp_own T R.e 1 v1 v2 v3 p1 p2 p3 _ w13 M4.out LP.out.1 LP.out.2.1 LP.out.2.2 (by omega) (by omega)).mono ?_
  rintro r w14 ⟨rfl, bq⟩
  rw [HK.out]
  have SB5 : Hid (StC w T R rs Y Y' w1.heap.size u1 u2 u3 u us v1 v2 v3 w14) := SB4.out.keep bq
  have M5 : Hid (MS w14 w3.heap.size 1 p1 p2 p3 v1 v2 v3) := ⟨own_keep M4.out.1 fun j _ hl => bq.block j hl, own_keep M4.out.2.1 fun j _ hl => bq.block j hl, own_keep M4.out.2.2 fun j _ hl => bq.block j hl⟩
  have Q5 : Hid (MRep w14 w3.heap.size v vm K (fun i => (nthL rs i).2.length)) := Q4.out.keep fun j _ hl => bq.block j hl
  clear bq SB4 M4 Q4 y0 y1 y2 y3 y4
  go_wp2_with fail
  refine (heldR_own v vm K _ _ w14 Q5.out K0 K1 VM.out.2.1 VM.out.2.2).mono ?_
  rintro r w15 ⟨rfl, hq⟩
  obtain rfl := hq.symm
  rw [HM.out]
  go_wp2_with fail
  refine (toQ_any a c acts w14 (H.out.below SB5.out.2.2.2) L.out).mono ?_
  rintro r w16 ⟨g6, rfl, _, S6, b6⟩
  have SB6 : Hid (StC w T R rs Y Y' w1.heap.size u1 u2 u3 u us v1 v2 v3 w16) := SB5.out.keep b6
  have M6 : Hid (MS w16 w3.heap.size 1 p1 p2 p3 v1 v2 v3) := ⟨own_keep M5.out.1 fun j _ hl => b6.block j hl, own_keep M5.out.2.1 fun j _ hl => b6.block j hl, own_keep M5.out.2.2 fun j _ hl => b6.block j hl⟩
  have Q6 : Hid (MRep w16 w3.heap.size v vm K (fun i => (nthL rs i).2.length)) := Q5.out.keep fun j _ hl => b6.block j hl
  have S6' : Hid (SlabQ w16 g6 acts.length acts acts.length) := S6
  clear S6 b6 SB5 M5 Q5
  go_wp2_with fail
  refine (CI.out L.out g6 w16 S6'.out).mono ?_
  rintro r w17 hr
  obtain ⟨i1, i2, i3, iv, is, rfl, o7, b7⟩ := RetR.open hr
  obtain ⟨A7, hA7⟩ : ∃ A7, (w17.alloc (.cells #[.int .i64 T, .int .i64 R.e, i1, i2, i3] 29)) = A7 := ⟨_, rfl⟩
  have a7 : Below w17.heap.size w17 A7 := hA7 ▸ (Below.refl _ _).alloc (Nat.le_refl _) _
  have c7 : Below w16.heap.size w16 A7 := b7.trans (a7.mono b7.size)
  have I7 : Hid (O5 true A7 w16.heap.size i1 i2 i3 iv is R rs) := o7.keep a7
  have SB7 : Hid (StC w T R rs Y Y' w1.heap.size u1 u2 u3 u us v1 v2 v3 A7) := SB6.out.keep c7
  have M7 : Hid (MS A7 w3.heap.size 1 p1 p2 p3 v1 v2 v3) := ⟨own_keep M6.out.1 fun j _ hl => c7.block j hl, own_keep M6.out.2.1 fun j _ hl => c7.block j hl, own_keep M6.out.2.2 fun j _ hl => c7.block j hl⟩
  have Q7 : Hid (MRep A7 w3.heap.size v vm K (fun i => (nthL rs i).2.length)) := Q6.out.keep fun j _ hl => c7.block j hl
  have hy7 : A7.heap[w17.heap.size]? = some (.cells #[.int .i64 T, .int .i64 R.e, i1, i2, i3] 29 (0, 0)) := hA7 ▸ heap_new' _ _ _ rfl
  obtain ⟨e1, n1, d1, rfl⟩ := own_shq I7.out.1
  obtain ⟨e2, n2, d2, rfl⟩ := own_shq I7.out.2.1
  obtain ⟨e3, n3, d3, rfl⟩ := own_shq I7.out.2.2.1
  obtain ⟨y0, y1, y2, y3, y4⟩ := box5_of hy7
  obtain ⟨z0, z1, z2, z3, z4⟩ := box5_of SB7.out.1
  clear hr o7 b7 a7 c7 SB6 M6 Q6 S6' hy7
  go_wp2_with fail
  refine (eqSp_own T R.e _ _ _ u1 u2 u3 R.ss R.ps R.qs _ _ A7 I7.out.1 I7.out.2.1 I7.out.2.2.1 SB7.out.2.2.1.1 SB7.out.2.2.1.2.1 SB7.out.2.2.1.2.2.1 LR.out.1.1 LR.out.1.2.1 LR.out.1.2.2).mono ?_
  rintro r w18 ⟨rfl, bq⟩
  have SB8 : Hid (StC w T R rs Y Y' w1.heap.size u1 u2 u3 u us v1 v2 v3 w18) := SB7.out.keep bq
  have I8 : Hid (O5 true w18 w16.heap.size (.slice e1 n1 d1) (.slice e2 n2 d2) (.slice e3 n3 d3) iv is R rs) := I7.out.keep bq
  have M8 : Hid (MS w18 w3.heap.size 1 p1 p2 p3 v1 v2 v3) := ⟨own_keep M7.out.1 fun j _ hl => bq.block j hl, own_keep M7.out.2.1 fun j _ hl => bq.block j hl, own_keep M7.out.2.2 fun j _ hl => bq.block j hl⟩
  have Q8 : Hid (MRep w18 w3.heap.size v vm K (fun i => (nthL rs i).2.length)) := Q7.out.keep fun j _ hl => bq.block j hl
  clear y0 y1 y2 y3 y4 z0 z1 z2 z3 z4 bq SB7 M7 Q7 I7 hA7
  go_wp2_with fail
  refine (eqR_own iv u is us rs _ _ w18 I8.out.2.2.2.1 SB8.out.2.2.1.2.2.2.1 I8.out.2.2.2.2.1 SB8.out.2.2.1.2.2.2.2.1 LR.out.2.1 LR.out.2.2).mono ?_
  rintro r w19 ⟨rfl, bq⟩
  have SB9 : Hid (StC w T R rs Y Y' w1.heap.size u1 u2 u3 u us v1 v2 v3 w19) := SB8.out.keep bq
  have M9 : Hid (MS w19 w3.heap.size 1 p1 p2 p3 v1 v2 v3) := ⟨own_keep M8.out.1 fun j _ hl => bq.block j hl, own_keep M8.out.2.1 fun j _ hl => bq.block j hl, own_keep M8.out.2.2 fun j _ hl => bq.block j hl⟩
  have Q9 : Hid (MRep w19 w3.heap.size v vm K (fun i => (nthL rs i).2.length)) := Q8.out.keep fun j _ hl => bq.block j hl
  clear bq SB8 M8 Q8 I8
  obtain ⟨y0, y1, y2, y3, y4⟩ := box5_of SB9.out.2.1
  go_wp2_with fail
  refine (heldSp_own T R.e 1 v1 v2 v3 p1 p2 p3 _ w19 M9.out LP.out.1 LP.out.2.1 LP.out.2.2 (by omega) (by omega)).mono ?_
  rintro r w20 ⟨rfl, bq⟩
  rw [HK.out]
  have BB : Below w.heap.size w w20 := below_step SB9.out.2.2.2 (Nat.le_refl _) bq
  have Qb : Hid (MRep w20 w3.heap.size v vm K (fun i => (nthL rs i).2.length)) := Q9.out.keep fun j _ hl => bq.block j hl
  clear bq SB9 M9 Q9 y0 y1 y2 y3 y4
  go_wp2_with fail
  refine (heldR_own v vm K _ _ w20 Qb.out K0 K1 VM.out.2.1 VM.out.2.2).mono ?_
  rintro r w21 ⟨rfl, hq⟩
  obtain rfl := hq.symm
  rw [HM.out]
  go_wp2
  go_ret
  exact ⟨rfl, BB⟩
end Go.Proofs.Ytaklphoplfofbaa
