/- What both IndexKey answer (stage 9). -/
import Derived.Test.YtepkdodicglilaaGreatDoorIkB
namespace Go.Proofs.YtepkdodicglilaaGreatDoor
open Go.RowKit

/-- What is known of a right table's key and indexes. -/
def KeyH (cs : List TC) (key : Int) (xs : List TX) : Prop := (1 ≤ key ∧ key ≤ cs.length) ∧ ∀ j, j < xs.length → (nthX xs j).2.length ≤ 8 ∧ ∀ k, k < (nthX xs j).2.length → 0 ≤ nthI (nthX xs j).2 k ∧ nthI (nthX xs j).2 k < cs.length
theorem tabP_ix {nm : ByteArray} {cs : List TC} {key : Int} {xs : List TX} (h : TabP nm cs key xs) : KeyH cs key xs := by
  obtain ⟨_, h8, _, h4, h5, _, h7⟩ := h
  refine ⟨⟨h4, h5⟩, fun j hj => ?_⟩
  obtain ⟨_, _, hl, hp, hq, _⟩ := (h7 j hj).1
  exact ⟨by omega, fun k hk => ⟨hp k hk, hq k hk⟩⟩
/-- The code of an index key. -/
def ikC (tb : Bool) (cs : List TC) (vs : List V3) (ix : Int) (m : Nat) : Int := if (crow tb cs vs).1 = 0 then (if 0 ≤ ix ∧ ix < m then 0 else 4) else (crow tb cs vs).1
/-- Its bytes. -/
def ikB (tb : Bool) (cs : List TC) (key : Int) (xs : List TX) (vs : List V3) (ix : Int) : List Value := if ikC tb cs vs ix xs.length = 0 then encKey (pick (nthX xs ix.toNat).2 vs) ++ encKey (vs.take key.toNat) else []
theorem encKey_app (a b : List V3) : encKey (a ++ b) = encKey a ++ encKey b := by unfold encKey; rw [List.flatMap_append]
theorem NewB.mono {B B' n : Nat} {a : Option Addr} (h : NewB B a n) (hB : B' ≤ B) : NewB B' a n := by
  rcases h with h | ⟨g, e, hg⟩
  · exact .inl h
  · exact .inr ⟨g, e, Nat.le_trans hB hg⟩
theorem ikC_zero {tb : Bool} {cs : List TC} {vs : List V3} {ix : Int} {m : Nat} (h : ikC tb cs vs ix m = 0) : (crow tb cs vs).1 = 0 ∧ 0 ≤ ix ∧ ix < m := by
  unfold ikC at h
  by_cases hz : (crow tb cs vs).1 = 0
  · rw [if_pos hz] at h
    by_cases hi : 0 ≤ ix ∧ ix < m
    · exact ⟨hz, hi⟩
    · rw [if_neg hi] at h; cases h
  · rw [if_neg hz] at h; exact absurd h hz
theorem ikB_le (tb : Bool) (cs : List TC) (key : Int) (xs : List TX) (vs : List V3) (ix : Int) (hkey : tb = true → KeyH cs key xs) : (ikB tb cs key xs vs ix).length ≤ 4194304 := by
  unfold ikB
  by_cases h : ikC tb cs vs ix xs.length = 0
  · rw [if_pos h]
    obtain ⟨hz, h0, h1⟩ := ikC_zero h
    obtain ⟨htb, hok, hlen⟩ := crow_ok hz
    have hj := (hkey htb).2 ix.toNat (by omega)
    have hp := encKey_short (okRow_mk (by rw [pick_len]; exact hj.1) (pick_ok (fun k hk => by have := hj.2 k hk; omega) (okRow_all hok).2))
    have ht := encKey_short (okRow_take hok key.toNat)
    rw [List.length_append]
    omega
  · rw [if_neg h]; exact Nat.zero_le _
/-- What stands while an index is read. -/
abbrev StQ (W : World) (b : Nat) (nm : ByteArray) (c : Value) (key : Int) (x : Value) (ib io : Nat) (inm : ByteArray) (iv : Value) (w' : World) : Prop := BoxT b nm c key x w' ∧ (w'.cell? ⟨ib, io, none⟩ = some (.string inm) ∧ w'.cell? ⟨ib, io + 1, none⟩ = some iv ∧ ib < w'.heap.size) ∧ Below W.heap.size W w'
theorem StQ.keep {W : World} {b : Nat} {nm : ByteArray} {c : Value} {key : Int} {x : Value} {ib io : Nat} {inm : ByteArray} {iv : Value} {w1 w2 : World} (h : StQ W b nm c key x ib io inm iv w1) (hb : Below w1.heap.size w1 w2) : StQ W b nm c key x ib io inm iv w2 :=
  ⟨h.1.below hb, ⟨(hb.cell (p := ⟨ib, io, none⟩) h.2.1.2.2).trans h.2.1.1, (hb.cell (p := ⟨ib, io + 1, none⟩) h.2.1.2.2).trans h.2.1.2.1, Nat.lt_of_lt_of_le h.2.1.2.2 hb.size⟩, below_step h.2.2 (Nat.le_refl _) hb⟩

set_option maxRecDepth 100000 in
set_option maxHeartbeats 4000000 in
theorem specIndexKey_any (nm : ByteArray) (ca xa : Option Addr) (cc xc : Nat) (cs : List TC) (key : Int) (xs : List TX) (ix : Int) (a : Option Addr) (cap : Nat) (vs : List V3) (tb : Bool) (w : World) (hC : RowC w ca cs) (hX : RowX w xa xs) (hV : RowV w a vs) (lc : cs.length ≤ 1048576) (lx : xs.length ≤ 1048576) (lv : vs.length ≤ 1048576) (hcap : vs.length ≤ cap) (hkey : tb = true → KeyH cs key xs) (hT : TabAns 26 w (TbA4 nm (.slice ca cs.length cc) key (.slice xa xs.length xc)) tb) :
    Calls Tryz.prog 21 #[TbA4 nm (.slice ca cs.length cc) key (.slice xa xs.length xc), .int .i64 ix, .slice a vs.length cap] w fun e w' => ∃ a2 c, e = .returned (.tuple #[.slice a2 (ikB tb cs key xs vs ix).length c, .int .i64 (ikC tb cs vs ix xs.length)]) ∧ ReadB w' a2 (ikB tb cs key xs vs ix).length (byteVal (ikB tb cs key xs vs ix)) ∧ Below w.heap.size w w' := by
  obtain ⟨W0, hW0⟩ : ∃ W0, w.alloc (.cells #[.string nm, .slice ca cs.length cc, .int .i64 key, .slice xa xs.length xc] 34) = W0 := ⟨_, rfl⟩
  have B0 : Below w.heap.size w W0 := hW0 ▸ (Below.refl _ _).alloc (Nat.le_refl _) _
  have XB : Hid (W0.heap[w.heap.size]? = some (.cells #[.string nm, .slice ca cs.length cc, .int .i64 key, .slice xa xs.length xc] 34 (0, 0))) := (hW0 ▸ heap_new' _ _ _ rfl : W0.heap[w.heap.size]? = _)
  have l0 : w.heap.size < W0.heap.size := by rw [← hW0]; simp
  have C0 : Hid (∀ {w1 : World}, Below W0.heap.size W0 w1 → w1.cell? ⟨w.heap.size, 0, none⟩ = some (.string nm) ∧ w1.cell? ⟨w.heap.size, 1, none⟩ = some (.slice ca cs.length cc) ∧ w1.cell? ⟨w.heap.size, 2, none⟩ = some (.int .i64 key) ∧ w1.cell? ⟨w.heap.size, 3, none⟩ = some (.slice xa xs.length xc)) := fun {w1} b => by
    have e : w1.heap[w.heap.size]? = _ := (b.block _ l0).trans XB.out
    exact ⟨slab_cell e, slab_cell e, slab_cell e, slab_cell e⟩
  obtain ⟨q0, q1, q2, q3⟩ := C0.out (Below.refl _ _)
  have HK := specCheckRow_any nm ca cc cs key (.slice xa xs.length xc) a cap vs tb W0 (hC.below B0) (hV.below B0) lc lv (fun w1 b => hT w1 (B0.trans (b.mono B0.size)))
  by_cases hz : (crow tb cs vs).1 = 0
  · obtain ⟨htb, hok, hlen⟩ := crow_ok hz
    have hn : ¬ (4096 : Int) < (vs.length : Int) := by have := (okRow_all hok).1; omega
    have hwp : IntKind.i64.wrap ((xs.length : Int) - 1) = (xs.length : Int) - 1 := wrap_pred lx
    have HI : Hid (∀ W, Calls Tryz.prog 43 #[.int .i64 ix, .int .i64 0, .int .i64 ((xs.length : Int) - 1)] W fun e w' => e = .returned (.bool (inB ix 0 ((xs.length : Int) - 1))) ∧ w' = W) := fun W => l01In_any _ _ _ _
    cases hin : inB ix 0 ((xs.length : Int) - 1) with
    | false =>
      have hni : ¬ (0 ≤ ix ∧ ix < xs.length) := fun h => by unfold inB at hin; simp at hin; omega
      have hCc : ikC tb cs vs ix xs.length = 4 := by unfold ikC; rw [if_pos hz, if_neg hni]
      have hB : ikB tb cs key xs vs ix = [] := by unfold ikB; rw [hCc]; rfl
      rw [hB, hCc]
      rw [hz] at HK
      rw [hin] at HI
      clear hz hC hX hV hT hB hCc hkey hok htb hlen hin hni
      generalize (crow tb cs vs).2 = z2 at *
      generalize vs.length = lvn at *
      go_enter Tryz.func21, Tryz.ntmps21
      go_wp2_with fail
      refine HK.mono ?_
      rintro e w1 ⟨rfl, b1⟩
      have B1 := B0.trans (b1.mono B0.size)
      clear HK q0 q1 q2 q3
      obtain ⟨q0, q1, q2, q3⟩ := C0.out b1
      clear b1
      have hI1 := HI.out w1
      clear HI
      go_wp2_with fail
      refine hI1.mono ?_
      rintro e w2 ⟨rfl, hq⟩
      obtain rfl := hq.symm
      clear hI1
      go_wp2
      go_ret2
      exact ⟨some ⟨w1.heap.size, 0, none⟩, 0, rfl, fun i hi => by simp at hi, B1.alloc B1.size _⟩
    | true =>
    obtain ⟨p, rfl⟩ : ∃ p : Nat, ix = (p : Int) := ⟨ix.toNat, by unfold inB at hin; simp at hin; omega⟩
    have hpl : p < xs.length := by unfold inB at hin; simp at hin; omega
    have hplI : (p : Int) < (xs.length : Int) := by omega
    have hCc : ikC tb cs vs (p : Int) xs.length = 0 := by unfold ikC; rw [if_pos hz, if_pos ⟨by omega, by omega⟩]
    have hB : ikB tb cs key xs vs (p : Int) = encKey (pick (nthX xs p).2 vs ++ vs.take key.toNat) := by unfold ikB; rw [if_pos hCc, encKey_app]; rfl
    obtain ⟨⟨hk1, hk2⟩, hjj⟩ := hkey htb
    obtain ⟨hj8, hjr⟩ := hjj p hpl
    obtain ⟨k0, rfl, hk⟩ : ∃ k0 : Nat, key = (k0 : Int) ∧ k0 ≤ vs.length := ⟨key.toNat, by omega, by omega⟩
    have h8 := (okRow_all hok).1
    have hall : ∀ v ∈ pick (nthX xs p).2 vs ++ vs.take k0, okV3 v = true := fun v hv => by
      rcases List.mem_append.1 hv with h | h
      · exact pick_ok (fun k hk => by have := hjr k hk; omega) (okRow_all hok).2 v h
      · exact (okRow_all hok).2 v (List.mem_of_mem_take h)
    have h16 : (pick (nthX xs p).2 vs ++ vs.take k0).length ≤ 16 := by rw [List.length_append, pick_len, List.length_take]; omega
    obtain ⟨ib, io, ia, ic, rfl, hlb, ⟨i0, i1⟩, hI, _⟩ := (hX.below B0) p hpl
    have HE : Hid (∀ W, Below W0.heap.size W0 W → Calls Tryz.prog 44 #[TbA4 nm (.slice ca cs.length cc) (k0 : Int) (.slice (some ⟨ib, io, none⟩) xs.length xc), ValX (nthX xs p).1 (.slice ia (nthX xs p).2.length ic), .slice a vs.length cap] W fun e w' => ∃ a2 c, e = .returned (.slice a2 (pick (nthX xs p).2 vs ++ vs.take k0).length c) ∧ RowV w' a2 (pick (nthX xs p).2 vs ++ vs.take k0) ∧ Below W.heap.size W w') := fun W b =>
      l09Entry_any nm _ k0 _ (nthX xs p).1 ia ic (nthX xs p).2 a cap vs W (hI.below b) ((hV.below B0).below b) hj8 (fun k hk => by have := hjr k hk; omega) (by omega) hk hcap h8
    have HB : Hid (∀ W a2 c, RowV W a2 (pick (nthX xs p).2 vs ++ vs.take k0) → Calls Tryz.prog 38 #[.slice a2 (pick (nthX xs p).2 vs ++ vs.take k0).length c] W fun e w' => ∃ a3 c3, e = .returned (.slice a3 (encKey (pick (nthX xs p).2 vs ++ vs.take k0)).length c3) ∧ ReadB w' a3 (encKey (pick (nthX xs p).2 vs ++ vs.take k0)).length (byteVal (encKey (pick (nthX xs p).2 vs ++ vs.take k0))) ∧ Below W.heap.size W w') := fun W a2 c hr => by
      refine (l01Key_any a2 c _ W hr h16 hall).mono ?_
      rintro e w' ⟨v, rfl, ho, hb⟩
      obtain ⟨a3, c3, rfl, hr3⟩ := own_read ho (fun x hx => by
        obtain ⟨v, hv, hx2⟩ := List.mem_flatMap.1 hx
        exact encK_bytes v (hall v hv) x hx2)
      exact ⟨a3, c3, rfl, hr3, hb⟩
    rw [hz] at HK
    rw [hCc, show ikB tb cs (k0 : Int) xs vs (p : Int) = encKey (pick (nthX xs p).2 vs ++ vs.take k0) from hB]
    rw [hin] at HI
    clear hz hC hX hV hT hB hCc hkey hok htb hlen hin hjj hjr hall h16 hI hj8 hk hcap h8 hk1 hk2
    generalize pick (nthX xs p).2 vs ++ vs.take k0 = lst at *
    generalize nthX xs p = xp at *
    obtain ⟨inm, is⟩ := xp
    simp only at i0 i1 HE
    generalize (encKey lst).length = nb at *
    generalize byteVal (encKey lst) = fb at *
    generalize is.length = il at *
    generalize (crow tb cs vs).2 = z2 at *
    generalize vs.length = lvn at *
    go_enter Tryz.func21, Tryz.ntmps21
    go_wp2_with fail
    refine HK.mono ?_
    rintro e w1 ⟨rfl, b1⟩
    have B1 := B0.trans (b1.mono B0.size)
    clear HK q0 q1 q2 q3
    obtain ⟨q0, q1, q2, q3⟩ := C0.out b1
    have hI1 := HI.out w1
    clear HI
    go_wp2_with fail
    refine hI1.mono ?_
    rintro e w2 ⟨rfl, hq⟩
    obtain rfl := hq.symm
    clear hI1
    have hP : StQ W0 w.heap.size nm (.slice ca cs.length cc) (k0 : Int) (.slice (some ⟨ib, io, none⟩) xs.length xc) ib (io + p * 2) inm (.slice ia il ic) w1.drew := ⟨⟨q0, q1, q2, q3, Nat.lt_of_lt_of_le l0 b1.size⟩, ⟨(b1.cell (p := ⟨ib, io + p * 2, none⟩) hlb).trans i0, (b1.cell (p := ⟨ib, io + p * 2 + 1, none⟩) hlb).trans i1, Nat.lt_of_lt_of_le hlb b1.size⟩, b1.drew⟩
    clear q0 q1 q2 q3 i0 i1 b1
    go_wp2_with fail
    go_region_held3 (StQ W0 w.heap.size nm (.slice ca cs.length cc) (k0 : Int) (.slice (some ⟨ib, io, none⟩) xs.length xc) ib (io + p * 2) inm (.slice ia il ic)) (first | exact hP | exact StQ.keep (by assumption) hb)
      (first
      | (go_at_call 44; refine (HE.out _ (show StQ W0 w.heap.size nm (.slice ca cs.length cc) (k0 : Int) (.slice (some ⟨ib, io, none⟩) xs.length xc) ib (io + p * 2) inm (.slice ia il ic) _ by assumption).2.2).mono ?_; rintro e wA ⟨a2, c, rfl, RA, hb⟩)
      | (go_at_call 38; refine (HB.out _ _ _ RA).mono ?_; rintro e wB ⟨a3, c3, rfl, RB, hb⟩)
      | fail)
    rename_i hLL
    have hBE := B0.trans (hLL.2.2.mono B0.size)
    have HRB : Hid (ReadB _ a3 nb fb) := RB
    clear hLL hP
    go_wp2
    go_ret2
    exact ⟨a3, c3, rfl, HRB.out, hBE⟩
  · have hCc : ikC tb cs vs ix xs.length = (crow tb cs vs).1 := by unfold ikC; rw [if_neg hz]
    have hB : ikB tb cs key xs vs ix = [] := by unfold ikB; rw [hCc, if_neg hz]
    rw [hB, hCc]
    by_cases hbig : (4096 : Int) < (vs.length : Int)
    · have HC2 : Hid ((crow tb cs vs).1 = 2) := by show _ = _; unfold crow; rw [if_pos (by omega)]
      clear hC hX hV hT hB hCc hkey hz HK
      generalize vs.length = lvn at *
      go_enter Tryz.func21, Tryz.ntmps21
      go_wp2
      go_ret2
      exact ⟨some ⟨W0.heap.size, 0, none⟩, 0, by rw [HC2.out]; rfl, fun i hi => by simp at hi, B0.alloc B0.size _⟩
    · obtain ⟨cd, hcd0⟩ : ∃ cd, (crow tb cs vs).1 = cd := ⟨_, rfl⟩
      rw [hcd0] at HK hz ⊢
      have hzb : (cd != 0) = true := by simpa using hz
      clear hC hX hV hT hB hCc hkey hcd0
      generalize (crow tb cs vs).2 = z2 at *
      generalize vs.length = lvn at *
      go_enter Tryz.func21, Tryz.ntmps21
      go_wp2_with fail
      refine HK.mono ?_
      rintro e w1 ⟨rfl, b1⟩
      have B1 := B0.trans (b1.mono B0.size)
      clear HK q0 q1 q2 q3 b1 hz
      go_wp2
      go_ret2
      exact ⟨some ⟨w1.heap.size, 0, none⟩, 0, rfl, fun i hi => by simp at hi, B1.alloc B1.size _⟩
end Go.Proofs.YtepkdodicglilaaGreatDoor
