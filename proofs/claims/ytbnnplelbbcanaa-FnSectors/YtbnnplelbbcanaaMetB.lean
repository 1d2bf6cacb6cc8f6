/- The sector of a meta: both sides'. -/
import Derived.Test.YtbnnplelbbcanaaMetA
import Derived.Deep.RegionLaw
namespace Go.Proofs.Ytbnnplelbbcanaa
open Go.RowKit

/-- The bytes of a meta ahead of the noughts. -/
def mhead (e f l : Int) : List UInt8 := [77, 84] ++ num4 e ++ [b8 f] ++ num2 l
def metaL (e f l : Int) : List UInt8 := fill (mhead e f l) ++ num4 (sumL (fill (mhead e f l)))
theorem mhead_len (e f l : Int) : (mhead e f l).length = 9 := rfl
theorem mbody_len (e f l : Int) : (fill (mhead e f l)).length = 28 := fill_len _ (by rw [mhead_len]; omega)

theorem step_append_run {ops : Array Oper} {o : Oper} {a : Act} {w : World} {K : Act → World → Prop} {Q : Exit → Act → World → Prop} {E : Prop} (hgd : o.guard = none) (s x : Operand) (t tn : TypeId)
    (ho : o.op = .call { callee := .builtin .append, args := #[s, x], argTypes := #[t, tn] }) (vs vx : Value) (hs : a.eval s = vs) (hx : a.eval x = vx)
    (v' : Value) (w' : World) (hr : (Builtin.append_ #[t, tn] o.type #[vs, vx]).run Try.prog w = .ok v' w') (h : K (a.put o.dst v') w') :
    if Region.wanted o (yielded ops a.tmps) = true then Oper.wp Try.prog o a w K Q else E := by
  have hw : Region.wanted o (yielded ops a.tmps) = true := by simp [Region.wanted, hgd]
  rw [if_pos hw]
  exact Lib.wp_append_run w s x t tn ho vs vx hs hx v' w' hr h

/-- Two cells of the meta's box. -/
abbrev StX (h : Nat) (f l : Int) (w' : World) : Prop := w'.cell? ⟨h, 1, none⟩ = some (.int .i64 f) ∧ w'.cell? ⟨h, 2, none⟩ = some (.int .i64 l)
theorem StX.keep {h B : Nat} {f l : Int} {w1 w2 : World} (hs : StX h f l w1) (hb : Below B w1 w2) (hB : h < B) : StX h f l w2 :=
  ⟨(hb.cell (p := ⟨h, 1, none⟩) hB).trans hs.1, (hb.cell (p := ⟨h, 2, none⟩) hB).trans hs.2⟩

/-- '[]byte(s)'. -/
theorem conv_there (w : World) (s : ByteArray) (hs : s.size ≤ 1000) : ∃ W c, (convert 9 22 (.string s)).run Try.prog w = .ok (.slice (some ⟨w.heap.size, 0, none⟩) s.size c) W ∧ Below w.heap.size w W ∧ OwnL W w.heap.size (.slice (some ⟨w.heap.size, 0, none⟩) s.size c) s.data.toList := by
  have hnew := Lib.bytesWorld_at_new w 5 s
  have hge := grownCap_ge w s.size 0 5
  have hle := grownCap_le_maxLen w s.size 0 5 (by unfold maxLen; omega)
  have hsz : (Lib.bytesCells w 5 s).size = grownCap w s.size 0 5 := by
    simp only [Lib.bytesCells, Array.size_append, Array.size_map, Array.size_replicate]
    show s.size + _ = _
    omega
  refine ⟨_, _, Lib.run_convert_string_bytes (P := Try.prog) w 9 22 5 s Try.underlying9 Try.underlying22 Try.underlying5, ⟨rfl, rfl, rfl, by rw [Lib.bytesWorld_size]; omega, fun k hk => Lib.bytesWorld_at_old w 5 s k hk⟩, ?_⟩
  refine ⟨w.heap.size, _, _, _, rfl, Nat.le_refl _, hnew, .inr (by rw [hsz]; exact Nat.le_refl _), hge, hle, hsz, fun i hi => ?_⟩
  have hc := Lib.bytesWorld_cell w 5 s i hi
  rw [row_cell hnew] at hc
  exact hc

/-- The world behind a meta's box, and behind the mark's bytes. -/
abbrev boxW (w : World) (e f l : Int) : World := w.alloc (.cells #[.int .i64 e, .int .i64 f, .int .i64 l] 31)
abbrev mtW (w : World) (e f l : Int) : World := (boxW w e f l).alloc (.cells #[.int .u8 77, .int .u8 84] 5)
theorem boxW_X (w : World) (e f l : Int) : StX w.heap.size f l (boxW w e f l) := ⟨by go_simp, by go_simp⟩
theorem boxW_0 (w : World) (e f l : Int) : (boxW w e f l).cell? ⟨w.heap.size, 0, none⟩ = some (.int .i64 e) := by go_simp
theorem mtW_own (w : World) (e f l : Int) : OwnL (mtW w e f l) (w.heap.size + 1) (.slice (some ⟨w.heap.size + 1, 0, none⟩) 2 2) [77, 84] := by
  have := OwnL.made (boxW w e f l) (w.heap.size + 1) [77, 84] #[.int .u8 77, .int .u8 84] (by simp) rfl (by unfold maxLen; show 2 ≤ _; omega)
  have e : (boxW w e f l).heap.size = w.heap.size + 1 := by simp
  rw [e] at this
  exact this
theorem boxW_below (w : World) (e f l : Int) : Below w.heap.size w (boxW w e f l) := (Below.refl _ _).alloc (Nat.le_refl _) _
theorem mtW_below (w : World) (e f l : Int) : Below (w.heap.size + 1) (boxW w e f l) (mtW w e f l) := (Below.refl _ _).alloc (by simp) _

theorem mtW_at (w : World) (e f l : Int) : (mtW w e f l).heap[w.heap.size + 1]? = some (.cells #[.int .u8 77, .int .u8 84] 5 (0, 0)) := heap_new' _ _ _ (by simp)
/-- '[]byte("MT")': the bytes' block is marked behind its end. -/
abbrev mtF (w : World) (e f l : Int) : World := (mtW w e f l).freeze ⟨w.heap.size + 1, 2, none⟩ 1
theorem mtF_run (w : World) (e f l : Int) : (convert 22 22 (.slice (some ⟨w.heap.size + 1, 0, none⟩) 2 2)).run Try.prog (mtW w e f l) = .ok (.slice (some ⟨w.heap.size + 1, 0, none⟩) 2 2) (mtF w e f l) := by
  have hsh : (mtW w e f l).shape? (w.heap.size + 1) = some (5, 2) := by
    unfold World.shape?
    rw [mtW_at]
    rfl
  simp [convert, run_underlying Try.underlying22, run_underlying Try.underlying5, markStringish, hsh, Result.andThen]
theorem mtF_old (w : World) (e f l : Int) (j : Nat) (hj : j < w.heap.size + 1) : (mtF w e f l).heap[j]? = (mtW w e f l).heap[j]? := by
  have h1 : w.heap.size + 1 ≠ j := by omega
  simp [World.freeze, Array.getElem?_modify, h1]
theorem mtF_new (w : World) (e f l : Int) : (mtF w e f l).heap[w.heap.size + 1]? = some (.cells #[.int .u8 77, .int .u8 84] 5 (2, 3)) := by
  show ((mtW w e f l).heap.modify (w.heap.size + 1) _)[w.heap.size + 1]? = _
  rw [Array.getElem?_modify, if_pos rfl, mtW_at]
  rfl
theorem mtF_own (w : World) (e f l : Int) : OwnL (mtF w e f l) (w.heap.size + 1) (.slice (some ⟨w.heap.size + 1, 0, none⟩) 2 2) [77, 84] := by
  refine ⟨w.heap.size + 1, 2, _, (2, 3), rfl, Nat.le_refl _, mtF_new w e f l, .inr (Nat.le_refl _), Nat.le_refl _, by unfold maxLen; omega, rfl, fun i hi => ?_⟩
  have : i = 0 ∨ i = 1 := by simp at hi; omega
  rcases this with rfl | rfl <;> rfl
theorem mtF_below (w : World) (e f l : Int) : Below (w.heap.size + 1) (boxW w e f l) (mtF w e f l) := by
  have h := mtW_below w e f l
  refine ⟨h.os, h.tape, h.output, ?_, fun k hk => (mtF_old w e f l k hk).trans (h.block k hk)⟩
  have : (mtF w e f l).heap.size = (mtW w e f l).heap.size := by simp [World.freeze]
  rw [this]
  exact h.size

set_option maxRecDepth 100000 in
set_option maxHeartbeats 4000000 in
theorem metaSector_any (e f l : Int) (w : World) :
    Calls Try.prog 36 #[MV e f l] w fun x w' => x = .returned (.string (tx (metaL e f l))) ∧ Below w.heap.size w w' := by
  have HO1 : Hid (OwnL (mtF w e f l) (w.heap.size + 1) (.slice (some ⟨w.heap.size + 1, 0, none⟩) 2 2) [77, 84]) := mtF_own w e f l
  have HX1 : Hid (StX w.heap.size f l (mtF w e f l)) := (boxW_X w e f l).keep (mtF_below w e f l) (by omega)
  have HB1 : Hid (Below w.heap.size w (mtF w e f l)) := (boxW_below w e f l).trans ((mtF_below w e f l).mono (by omega))
  have hc0 : (mtF w e f l).cell? ⟨w.heap.size, 0, none⟩ = some (.int .i64 e) := ((mtF_below w e f l).cell (p := ⟨w.heap.size, 0, none⟩) (Nat.lt_succ_self _)).trans (boxW_0 w e f l)
  have hzF : w.heap.size + 1 ≤ (mtF w e f l).heap.size := by have := (mtF_below w e f l).size; simp at this ⊢; omega
  have hcs := mtF_run w e f l
  obtain ⟨WF, hWF⟩ : ∃ WF, mtF w e f l = WF := ⟨_, rfl⟩
  rw [hWF] at HO1 HX1 HB1 hcs hc0 hzF
  clear hWF
  go_enter Try.func36, Try.ntmps36
  go_wp2_with fail
  refine (appendNumber4 _ [77, 84] e (w.heap.size + 1) _ HO1.out (by show 2 ≤ _; omega) hzF).mono ?_
  rintro x w2 ⟨v2, rfl, ho2, hb2⟩
  have hB2 := HB1.out.trans (hb2.mono (by omega))
  have hz2 : w.heap.size + 1 ≤ w2.heap.size := by have := hb2.size; omega
  have hx2 := HX1.out.keep hb2 (by omega)
  have hod : OwnL w2.drew (w.heap.size + 1) v2 ([77, 84] ++ num4 e) := ho2.below (below_drewN (Below.refl _ _) 1)
  obtain ⟨v3, w3, hr3, ho3, hb3⟩ := app1 (w := w2.drew) f hod (Below.refl _ _) hz2 (by rw [List.length_append, num4_len]; show 2 + 4 ≤ _; omega)
  have hB3 : Below w.heap.size w w3 := (below_drewN hB2 1).trans (hb3.mono (by omega))
  have hx2d : StX w.heap.size f l w2.drew := hx2.keep (below_drewN (Below.refl w2.heap.size w2) 1) (by omega)
  have HX2d : Hid (StX w.heap.size f l w2.drew) := hx2d
  have HX2a : Hid (StX w.heap.size f l (w2.drew.alloc (.cells #[.int .u8 (f % 256)] 5))) := hx2d.keep ((Below.refl w2.drew.heap.size w2.drew).alloc (Nat.le_refl _) _) (by show w.heap.size < w2.heap.size; omega)
  have HX3 : Hid (StX w.heap.size f l w3) := hx2d.keep hb3 (by omega)
  have HO3 : Hid (OwnL w3 (w.heap.size + 1) v3 ([77, 84] ++ num4 e ++ [b8 f])) := ho3
  have hz3 : w.heap.size + 1 ≤ w3.heap.size := Nat.le_trans hz2 hb3.size
  obtain ⟨g2, n2, c2, rfl, _, _, _⟩ := ho2.open
  clear ho2 hod ho3 HO1 HX1 HB1 hb2 hx2 hx2d hb3 hB2
  go_wp2_with fail
  go_region_held3 (StX w.heap.size f l) (first | exact HX2d.out | exact HX2a.out | exact HX3.out | exact HX3.out.keep hb4 (Nat.lt_succ_self _)) (first | (refine step_append_run (by rfl) _ _ _ _ (by rfl) _ _ (by rfl) (by rfl) _ _ hr3 ?_) | (go_at_call 48; refine (appendNumber2 _ _ l (w.heap.size + 1) _ HO3.out (by rw [List.length_append, List.length_append, num4_len]; show 2 + 4 + 1 ≤ _; omega) hz3).mono ?_; rintro x w4 ⟨v4, rfl, ho4, hb4⟩))
  have hB4 := hB3.trans (hb4.mono (by omega))
  have HH : Hid ([77, 84] ++ num4 e ++ [b8 f] ++ num2 l = mhead e f l) := rfl
  rw [HH.out] at ho4
  obtain ⟨g4, n4, c4, rfl, HN4, _, HR4⟩ := ho4.open
  have hn4 : n4 ≤ 28 := by rw [← HN4.out, mhead_len]; omega
  clear ho4 hb4 hB3 HX2d HX2a HX3 HO3 hr3 HH
  go_wp2_with fail
  refine (filled_any g4 n4 c4 _ w4 HR4.out HN4 hn4).mono ?_
  rintro x w5 ⟨rfl, hb5⟩
  have hB5 := below_step hB4 (Nat.le_refl _) hb5
  obtain ⟨T, hT⟩ : ∃ T, tx (fill (mhead e f l)) = T := ⟨_, rfl⟩
  have HT : Hid (T.data.toList = fill (mhead e f l)) := by show _ = _; rw [← hT]; rfl
  have HTs : Hid (T.size ≤ 1000) := by show _ ≤ _; rw [← hT, tx_size, mbody_len]; omega
  rw [hT]
  obtain ⟨W6, c6, hcv6, hb6, ho6⟩ := conv_there w5 T HTs.out
  have hB6 := below_step hB5 (Nat.le_refl _) hb6
  obtain ⟨g6, n6, c6', e6, HN6, _, HR6⟩ := ho6.open
  have hn6 : Hid (n6 ≤ 65536) := by show _ ≤ _; rw [← HN6.out]; exact Nat.le_trans HTs.out (by omega)
  rw [e6] at hcv6
  clear ho6 hb6 hb5 hB5 hB4 HR4 HN4 hT e6
  go_wp2_with fail
  refine (implSum_n _ _ _ _ W6 HR6.out HN6 hn6.out).mono ?_
  rintro x w7 ⟨rfl, hb7⟩
  have hB7 := below_step hB6 (Nat.le_refl _) hb7
  have HV : Hid (tx (metaL e f l) = tx (T.data.toList ++ num4 (sumL T.data.toList))) := by
    show _ = _
    rw [HT.out]
    rfl
  generalize sumL T.data.toList = q at *
  clear hb7 hB6 HR6 HN6 hcv6
  go_wp2_with fail
  refine (withSum_any T q w7 HTs.out).mono ?_
  rintro x w8 ⟨rfl, hb8⟩
  have hB8 := below_step hB7 (Nat.le_refl _) hb8
  rw [← HV.out]
  generalize hP : tx (metaL e f l) = PP
  have HP : Hid (tx (metaL e f l) = PP) := hP
  clear hP HV hb8 hB7
  go_wp2
  go_ret
  exact ⟨ret_val (congrArg Value.string HP.out.symm), hB8⟩
end Go.Proofs.Ytbnnplelbbcanaa
