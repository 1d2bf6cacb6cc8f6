/- What spec.ReadValue answers: what impl.ReadValue answers. -/
import Derived.Test.YtipddjgoohnalaaRvK
namespace Go.Proofs.Ytipddjgoohnalaa
open Go.RowKit

/-- A value and whether it is right, as the literal says. -/
abbrev LitS (s : ByteArray) (w : World) (e : Ending) (w' : World) : Prop := ∃ k n t ok, e = .returned (.tuple #[VV k n t, .bool ok]) ∧ Hid ((ok = true → litV s = some (k, n, t) ∧ okV k n t = true) ∧ (ok = false → ∀ x, litV s = some x → okV x.1 x.2.1 x.2.2 = false)) ∧ Below w.heap.size w w'
theorem litS_true {s : ByteArray} {k n : Int} {t : ByteArray} (h : litV s = some (k, n, t)) (h2 : okV k n t = true) : Hid ((true = true → litV s = some (k, n, t) ∧ okV k n t = true) ∧ (true = false → ∀ x, litV s = some x → okV x.1 x.2.1 x.2.2 = false)) := ⟨fun _ => ⟨h, h2⟩, fun h => by cases h⟩
theorem litS_none {s : ByteArray} {k n : Int} {t : ByteArray} (h : litV s = none) : Hid ((false = true → litV s = some (k, n, t) ∧ okV k n t = true) ∧ (false = false → ∀ x, litV s = some x → okV x.1 x.2.1 x.2.2 = false)) := ⟨fun h' => (by cases h'), fun _ x hx => by rw [h] at hx; cases hx⟩
theorem litS_dec {s : ByteArray} {k n : Int} {t : ByteArray} {ok : Bool} (h : litV s = some (k, n, t)) (h2 : okV k n t = ok) : Hid ((ok = true → litV s = some (k, n, t) ∧ okV k n t = true) ∧ (ok = false → ∀ x, litV s = some x → okV x.1 x.2.1 x.2.2 = false)) := ⟨fun h' => ⟨h, h2.trans h'⟩, fun h' x hx => by rw [h] at hx; cases hx; exact h2.trans h'⟩

set_option maxRecDepth 100000 in
set_option maxHeartbeats 8000000 in
theorem l01Read_any (s : ByteArray) (w : World) (hs : s.size ≤ 65536) :
    Calls Try.prog 76 #[.string s] w (LitS s w) := by
  have B1 : ∀ k n t, Below w.heap.size w (w.alloc (.cells #[.int .i64 k, .int .i64 n, .string t] 24)) := fun k n t => (Below.refl _ _).alloc (Nat.le_refl _) _
  cases h1 : (s.toList == [110, 117, 108, 108]) with
  | true =>
    have H : Hid (litV s = some (0, 0, ⟨#[]⟩)) := if_pos h1
    go_enter Try.func76, Try.ntmps76
    go_wp2
    exact bodyPost_ret (v := .tuple #[VV 0 0 ⟨#[]⟩, .bool true]) (by go_simp; simp [results, Try.f76, go_sem]) rfl ⟨0, 0, ⟨#[]⟩, true, rfl, litS_true H.out lit_null_ok, B1 0 0 ⟨#[]⟩⟩
  | false =>
  cases h3 : (s.toList == [102, 97, 108, 115, 101]) with
  | true =>
    have h2 : (s.toList == [116, 114, 117, 101]) = false := by rw [eq_of_beq h3]; decide
    have H : Hid (litV s = some (1, 0, ⟨#[]⟩)) := by show _ = _; unfold litV; rw [if_neg (by rw [h1]; decide), if_neg (by rw [h2]; decide), if_pos h3]
    go_enter Try.func76, Try.ntmps76
    go_wp2
    exact bodyPost_ret (v := .tuple #[VV 1 0 ⟨#[]⟩, .bool true]) (by go_simp; simp [results, Try.f76, go_sem]) rfl ⟨1, 0, ⟨#[]⟩, true, rfl, litS_true H.out (lit_bool_ok 0 (.inl rfl)), B1 1 0 ⟨#[]⟩⟩
  | false =>
  cases h2 : (s.toList == [116, 114, 117, 101]) with
  | true =>
    have H : Hid (litV s = some (1, 1, ⟨#[]⟩)) := by show _ = _; unfold litV; rw [if_neg (by rw [h1]; decide), if_pos h2]
    go_enter Try.func76, Try.ntmps76
    go_wp2
    exact bodyPost_ret (v := .tuple #[VV 1 1 ⟨#[]⟩, .bool true]) (by go_simp; simp [results, Try.f76, go_sem]) rfl ⟨1, 1, ⟨#[]⟩, true, rfl, litS_true H.out (lit_bool_ok 1 (.inr rfl)), B1 1 1 ⟨#[]⟩⟩
  | false =>
  have HL : Hid (litV s = if pre s 39 = true then (unqV s).map (fun t => (3, 0, t)) else if pre s 120 = true then (unhV (s.extract 1 s.size)).map (fun t => (4, 0, t)) else (numV (byteAt s) s.size).map (fun n => (2, n, ⟨#[]⟩))) := by show _ = _; unfold litV; rw [if_neg (by rw [h1]; decide), if_neg (by rw [h2]; decide), if_neg (by rw [h3]; decide)]
  have B0 : Below w.heap.size w (w.alloc (.cells #[.int .i64 0, .int .i64 0, .string ⟨#[]⟩] 24)) := B1 0 0 _
  have K0 : (w.alloc (.cells #[.int .i64 0, .int .i64 0, .string ⟨#[]⟩] 24)).heap[w.heap.size]? = some (.cells #[.int .i64 0, .int .i64 0, .string ⟨#[]⟩] 24 (0, 0)) := by show (w.heap.push _)[w.heap.size]? = _; simp
  have hsW : w.heap.size < (w.alloc (.cells #[.int .i64 0, .int .i64 0, .string ⟨#[]⟩] 24)).heap.size := by simp
  obtain ⟨W0, hW0⟩ : ∃ W0, w.alloc (.cells #[.int .i64 0, .int .i64 0, .string ⟨#[]⟩] 24) = W0 := ⟨_, rfl⟩
  rw [hW0] at B0 K0 hsW
  have HFin : Hid (∀ (w2 : World), Below W0.heap.size W0 w2 → w2.cell? ⟨w.heap.size, 0, none⟩ = some (.int .i64 0) ∧ w2.cell? ⟨w.heap.size, 1, none⟩ = some (.int .i64 0) ∧ w2.cell? ⟨w.heap.size, 2, none⟩ = some (.string ⟨#[]⟩) ∧ (∀ o, w2.frozen? ⟨w.heap.size, o, none⟩ = false) ∧ Below w.heap.size w w2) := fun w2 hb => by
    have hx := (hb.block _ hsW).trans K0
    refine ⟨?_, ?_, ?_, fun o => ?_, B0.trans (hb.mono B0.size)⟩
    · simp [World.cell?, hx]
    · simp [World.cell?, hx]
    · simp [World.cell?, hx]
    · simp [World.frozen?, hx]
  clear K0 B1 B0 hsW
  have hnum := l00Number_any s W0 hs
  obtain ⟨o, ho⟩ : ∃ o, numV (byteAt s) s.size = o := ⟨_, rfl⟩
  rw [ho] at hnum
  cases o with
  | some x =>
    have hh := numV_head ho
    have H : Hid (litV s = some (2, x, ⟨#[]⟩)) := by
      show _ = _
      rw [HL.out, if_neg (fun hp => hh.2.1 (pre_is.1 hp).2), if_neg (fun hp => hh.2.2 (pre_is.1 hp).2), ho]
      rfl
    obtain ⟨x0, x1, x2, xf, hB⟩ := HFin.out W0 (Below.refl _ _)
    clear HL hh ho
    go_enter Try.func76, Try.ntmps76
    go_wp2_with fail
    refine hnum.mono ?_
    rintro e w' ⟨rfl, hq⟩
    obtain rfl := hq.symm
    clear hnum
    go_wp2
    exact bodyPost_ret (v := .tuple #[VV 2 x ⟨#[]⟩, .bool true]) (by go_simp; simp [results, Try.f76, go_sem, x0, x1, x2]) rfl ⟨2, x, ⟨#[]⟩, true, rfl, litS_true H.out (lit_num_ok x), set3_below hB (Nat.le_refl _)⟩
  | none =>
  have hq0 := l01Quoted_any s 0 W0 hs (by omega)
  obtain ⟨q, hq⟩ : ∃ q, quoR (byteAt s) s.size 0 = q := ⟨_, rfl⟩
  rw [hq] at hq0
  by_cases hA : ∃ l, q = some (l, s.size)
  · obtain ⟨l, rfl⟩ := hA
    obtain ⟨hp, hu⟩ := text_some hq
    have hpos := (pre_is.1 hp).1
    obtain ⟨t, hT⟩ : ∃ t, strOf l = t := ⟨_, rfl⟩
    have hq0' : Calls Try.prog 98 #[.string s, .int .i64 0] W0 fun e w' => e = .returned (.tuple #[.string t, .int .i64 (s.size : Int)]) ∧ Below W0.heap.size W0 w' := by rw [← hT]; exact hq0
    have H : Hid (litV s = some (3, 0, t)) := by show _ = _; rw [HL.out, if_pos hp, hu, hT]; rfl
    have hlt : (strOf l).size ≤ 65536 := by
      rw [strOf_size]
      have := (quo_len _ _ _ _ [] l s.size (Nat.le_refl _) (quoR_is hq).2.2).1
      simp only [List.length_nil] at this
      omega
    rw [hT] at hlt
    have hposI : (0 : Int) < (s.size : Int) := by omega
    clear HL hq hq0 hu hp ho hT
    go_enter Try.func76, Try.ntmps76
    go_wp2_with fail
    refine hnum.mono ?_
    rintro e w' ⟨rfl, hqq⟩
    obtain rfl := hqq.symm
    clear hnum
    go_wp2_with fail
    refine hq0'.mono ?_
    rintro e w2 ⟨rfl, hb2⟩
    obtain ⟨x0, x1, x2, xf, hB⟩ := HFin.out w2 hb2
    clear hq0' hb2
    have HO : Hid (okV 3 0 t = decide ((t.size : Int) ≤ 60)) := lit_text_ok t
    go_wp2
    exact bodyPost_ret (v := .tuple #[VV 3 0 t, .bool (decide ((t.size : Int) ≤ 60))]) (by go_simp; simp [results, Try.f76, go_sem, x0, x1, x2]) rfl ⟨3, 0, t, _, rfl, litS_dec H.out HO.out, set3_below hB (Nat.le_refl _)⟩
  have HT0 : Hid (pre s 39 = true → unqV s = none) := fun hp => text_none (fun l h => hA ⟨l, hq.symm.trans h⟩) hp
  obtain ⟨t, hT⟩ : ∃ t, strOf ((q.map (·.1)).getD []) = t := ⟨_, rfl⟩
  obtain ⟨z, hZ⟩ : ∃ z, (q.map (fun p => (p.2 : Int))).getD (-1) = z := ⟨_, rfl⟩
  have hzn : ¬ z = (s.size : Int) := fun e => by
    cases q with
    | none => simp at hZ; omega
    | some p =>
      obtain ⟨l, e'⟩ := p
      simp at hZ
      exact hA ⟨l, by have : e' = s.size := by omega
                      rw [this]⟩
  have hq0' : Calls Try.prog 98 #[.string s, .int .i64 0] W0 fun e w' => e = .returned (.tuple #[.string t, .int .i64 z]) ∧ Below W0.heap.size W0 w' := by rw [← hT, ← hZ]; exact hq0
  have hzb : (z == (s.size : Int)) = false := beq_eq_false_iff_ne.2 hzn
  have HNo : Hid ((pre s 120 = true → unhV (s.extract 1 s.size) = none) → litV s = none) := fun h => by
    rw [HL.out]
    by_cases p1 : pre s 39 = true
    · rw [if_pos p1, HT0.out p1]; rfl
    · by_cases p2 : pre s 120 = true
      · rw [if_neg p1, if_pos p2, h p2]; rfl
      · rw [if_neg p1, if_neg p2, ho]; rfl
  have HYes : Hid (pre s 120 = true → litV s = (unhV (s.extract 1 s.size)).map (fun t => (4, 0, t))) := fun p2 => by
    rw [HL.out, if_neg (fun p1 => by have a := (pre_is.1 p1).2; have b := (pre_is.1 p2).2; rw [a] at b; exact absurd b (by decide)), if_pos p2]
  clear HL HT0 hq hq0 hT hZ hA hzn ho
  by_cases hlen : (1 : Int) < (s.size : Int)
  · have hpos : 0 < s.size := by omega
    have hposI : (0 : Int) < (s.size : Int) := by omega
    have hb0 := byteAt_eq s 0 hpos
    obtain ⟨c, hcv⟩ : ∃ c : Int, ((s[0]'hpos).toNat : Int) = c := ⟨_, rfl⟩
    rw [hcv] at hb0
    by_cases hc : c = 120
    · have hpx : pre s 120 = true := pre_is.2 ⟨hpos, by rw [hb0, hc]; rfl⟩
      have hq1 : ∀ wx, Calls Try.prog 98 #[.string s, .int .i64 1] wx fun e w' => e = .returned (QR (quoR (byteAt s) s.size 1)) ∧ Below wx.heap.size wx w' := fun wx => l01Quoted_any s 1 wx hs (by omega)
      obtain ⟨q', hqq⟩ : ∃ q', quoR (byteAt s) s.size 1 = q' := ⟨_, rfl⟩
      rw [hqq] at hq1
      by_cases hA : ∃ l, q' = some (l, s.size)
      · obtain ⟨l, rfl⟩ := hA
        have hx := hex_some hqq
        have hlt : (strOf l).size ≤ 65536 := by
          rw [strOf_size]
          have := (quo_len _ _ _ _ [] l s.size (Nat.le_refl _) (quoR_is hqq).2.2).1
          simp only [List.length_nil] at this
          omega
        obtain ⟨t1, hT1⟩ : ∃ t, strOf l = t := ⟨_, rfl⟩
        rw [hT1] at hx hlt
        have hq1' : ∀ wx, Calls Try.prog 98 #[.string s, .int .i64 1] wx fun e w' => e = .returned (.tuple #[.string t1, .int .i64 (s.size : Int)]) ∧ Below wx.heap.size wx w' := fun wx => by rw [← hT1]; exact hq1 wx
        have HY : Hid (litV s = (hexV t1).map (fun t => (4, 0, t))) := by show _ = _; rw [HYes.out hpx, hx]
        clear hq1 hqq hT1 hx HYes HNo hpx hb0
        subst hc
        have HQ1 : Hid (∀ wx, Calls Try.prog 98 #[.string s, .int .i64 1] wx fun e w' => e = .returned (.tuple #[.string t1, .int .i64 (s.size : Int)]) ∧ Below wx.heap.size wx w') := hq1'
        clear hq1'
        go_enter Try.func76, Try.ntmps76
        go_wp2_with fail
        refine hnum.mono ?_
        rintro e w' ⟨rfl, hqq⟩
        obtain rfl := hqq.symm
        clear hnum
        go_wp2_with fail
        refine hq0'.mono ?_
        rintro e w2 ⟨rfl, hb2⟩
        clear hq0'
        go_wp2_with fail
        refine (HQ1.out w2).mono ?_
        rintro e w3 ⟨rfl, hb3⟩
        have hb3' := below_step hb2 (Nat.le_refl _) hb3
        clear hb2 hb3
        go_wp2_with fail
        refine (l01Plain_any t1 w3 hlt).mono ?_
        obtain ⟨o, ho⟩ : ∃ o, hexV t1 = o := ⟨_, rfl⟩
        rw [ho]
        have HY2 : Hid (litV s = o.map (fun t => (4, 0, t))) := by show _ = _; rw [HY.out, ho]
        clear HY ho
        rintro e w4 ⟨rfl, hb4⟩
        obtain ⟨x0, x1, x2, xf, hB⟩ := HFin.out w4 (below_step hb3' (Nat.le_refl _) hb4)
        clear hb3' hb4
        cases o with
        | none =>
          have HNN : Hid (litV s = none) := HY2.out
          go_wp2
          exact bodyPost_ret (v := .tuple #[VV 4 0 ⟨#[]⟩, .bool false]) (by go_simp; simp [results, Try.f76, go_sem, x0, x1, x2]) rfl ⟨4, 0, ⟨#[]⟩, false, rfl, litS_none HNN.out, set3_below hB (Nat.le_refl _)⟩
        | some b =>
          have HNN : Hid (litV s = some (4, 0, b)) := HY2.out
          have HO : Hid (okV 4 0 b = decide ((b.size : Int) ≤ 60)) := lit_hex_ok b
          go_wp2
          exact bodyPost_ret (v := .tuple #[VV 4 0 b, .bool (decide ((b.size : Int) ≤ 60))]) (by go_simp; simp [results, Try.f76, go_sem, x0, x1, x2]) rfl ⟨4, 0, b, _, rfl, litS_dec HNN.out HO.out, set3_below hB (Nat.le_refl _)⟩
      · have HNN : Hid (litV s = none) := HNo.out (fun _ => hex_none (fun l h => hA ⟨l, hqq.symm.trans h⟩))
        obtain ⟨t1, hT1⟩ : ∃ t, strOf ((q'.map (·.1)).getD []) = t := ⟨_, rfl⟩
        obtain ⟨z1, hZ1⟩ : ∃ z, (q'.map (fun p => (p.2 : Int))).getD (-1) = z := ⟨_, rfl⟩
        have hzn1 : ¬ z1 = (s.size : Int) := fun e => by
          cases q' with
          | none => simp at hZ1; omega
          | some p =>
            obtain ⟨l, e'⟩ := p
            simp at hZ1
            exact hA ⟨l, by have : e' = s.size := by omega
                            rw [this]⟩
        have hzb1 : (z1 == (s.size : Int)) = false := beq_eq_false_iff_ne.2 hzn1
        have HQ1 : Hid (∀ wx, Calls Try.prog 98 #[.string s, .int .i64 1] wx fun e w' => e = .returned (.tuple #[.string t1, .int .i64 z1]) ∧ Below wx.heap.size wx w') := fun wx => by rw [← hT1, ← hZ1]; exact hq1 wx
        clear hq1 hqq hT1 hZ1 hA hzn1 HYes HNo hpx hb0
        subst hc
        go_enter Try.func76, Try.ntmps76
        go_wp2_with fail
        refine hnum.mono ?_
        rintro e w' ⟨rfl, hqq⟩
        obtain rfl := hqq.symm
        clear hnum
        go_wp2_with fail
        refine hq0'.mono ?_
        rintro e w2 ⟨rfl, hb2⟩
        clear hq0'
        go_wp2_with fail
        refine (HQ1.out w2).mono ?_
        rintro e w3 ⟨rfl, hb3⟩
        have hb3' := below_step hb2 (Nat.le_refl _) hb3
        clear hb2 hb3
        obtain ⟨x0, x1, x2, xf, hB⟩ := HFin.out w3 hb3'
        clear hb3'
        go_wp2
        exact bodyPost_ret (v := .tuple #[VV 0 0 ⟨#[]⟩, .bool false]) (by go_simp; simp [results, Try.f76, go_sem, x0, x1, x2]) rfl ⟨0, 0, ⟨#[]⟩, false, rfl, litS_none HNN.out, set3_below hB (Nat.le_refl _)⟩
    · have HNN : Hid (litV s = none) := HNo.out (fun hp => absurd (hb0.symm.trans (pre_is.1 hp).2) hc)
      have hc1 : (c == 120) = false := beq_eq_false_iff_ne.2 hc
      clear HNo HYes hb0
      go_enter Try.func76, Try.ntmps76
      go_wp2_with fail
      refine hnum.mono ?_
      rintro e w' ⟨rfl, hqq⟩
      obtain rfl := hqq.symm
      clear hnum
      go_wp2_with fail
      refine hq0'.mono ?_
      rintro e w2 ⟨rfl, hb2⟩
      obtain ⟨x0, x1, x2, xf, hB⟩ := HFin.out w2 hb2
      clear hq0' hb2
      go_wp2
      exact bodyPost_ret (v := .tuple #[VV 0 0 ⟨#[]⟩, .bool false]) (by go_simp; simp [results, Try.f76, go_sem, x0, x1, x2]) rfl ⟨0, 0, ⟨#[]⟩, false, rfl, litS_none HNN.out, set3_below hB (Nat.le_refl _)⟩
  · have HNN : Hid (litV s = none) := HNo.out (fun hp => hex_none (fun l h => by have := (quoR_is h).1; omega))
    clear HNo HYes
    go_enter Try.func76, Try.ntmps76
    go_wp2_with fail
    refine hnum.mono ?_
    rintro e w' ⟨rfl, hqq⟩
    obtain rfl := hqq.symm
    clear hnum
    go_wp2_with fail
    refine hq0'.mono ?_
    rintro e w2 ⟨rfl, hb2⟩
    obtain ⟨x0, x1, x2, xf, hB⟩ := HFin.out w2 hb2
    clear hq0' hb2
    go_wp2
    exact bodyPost_ret (v := .tuple #[VV 0 0 ⟨#[]⟩, .bool false]) (by go_simp; simp [results, Try.f76, go_sem, x0, x1, x2]) rfl ⟨0, 0, ⟨#[]⟩, false, rfl, litS_none HNN.out, set3_below hB (Nat.le_refl _)⟩

set_option maxRecDepth 100000 in
set_option maxHeartbeats 4000000 in
theorem specReadValue_any (s : ByteArray) (w : World) (hs : s.size ≤ 1048576) :
    Calls Try.prog 45 #[.string s] w fun e w' => e = .returned (RvR s) ∧ Below w.heap.size w w' := by
  by_cases hL : (65536 : Int) < (s.size : Int)
  · have H : Hid (rvV s = (2, 0, 0, ⟨#[]⟩)) := if_pos (by omega)
    go_enter Try.func45, Try.ntmps45
    go_wp2
    exact bodyPost_ret (v := .tuple #[VV 0 0 ⟨#[]⟩, .int .i64 2]) (by go_simp; simp [results, Try.f45, go_sem]) rfl ⟨by unfold RvR; rw [H.out], (Below.refl _ _).alloc (Nat.le_refl _) _⟩
  have hs6 : s.size ≤ 65536 := by omega
  have HR : Hid (rvV s = match litV s with | none => (3, 0, 0, ⟨#[]⟩) | some v => if okV v.1 v.2.1 v.2.2 = true then (0, v) else (3, 0, 0, ⟨#[]⟩)) := if_neg (by omega)
  have B0 : Below w.heap.size w (w.alloc (.cells #[.int .i64 0, .int .i64 0, .string ⟨#[]⟩] 24)) := (Below.refl _ _).alloc (Nat.le_refl _) _
  have K0 : (w.alloc (.cells #[.int .i64 0, .int .i64 0, .string ⟨#[]⟩] 24)).heap[w.heap.size]? = some (.cells #[.int .i64 0, .int .i64 0, .string ⟨#[]⟩] 24 (0, 0)) := by show (w.heap.push _)[w.heap.size]? = _; simp
  have hsW : w.heap.size < (w.alloc (.cells #[.int .i64 0, .int .i64 0, .string ⟨#[]⟩] 24)).heap.size := by simp
  obtain ⟨W0, hW0⟩ : ∃ W0, w.alloc (.cells #[.int .i64 0, .int .i64 0, .string ⟨#[]⟩] 24) = W0 := ⟨_, rfl⟩
  rw [hW0] at B0 K0 hsW
  have hl := l01Read_any s W0 hs6
  go_enter Try.func45, Try.ntmps45
  go_wp2_with fail
  refine hl.mono ?_
  rintro e w1 ⟨k, n, t, ok, rfl, HX, hb1⟩
  have hx1 := (hb1.block _ hsW).trans K0
  have hs1 : w.heap.size < w1.heap.size := Nat.lt_of_lt_of_le hsW hb1.size
  have B1 := B0.trans (hb1.mono B0.size)
  have A1 : Below w1.heap.size w1 (w1.alloc (.cells #[.int .i64 k, .int .i64 n, .string t] 24)) := (Below.refl _ _).alloc (Nat.le_refl _) _
  have B2 := B1.trans (A1.mono B1.size)
  have hx2 := (A1.block _ hs1).trans hx1
  have hv2 : (w1.alloc (.cells #[.int .i64 k, .int .i64 n, .string t] 24)).heap[w1.heap.size]? = some (.cells #[.int .i64 k, .int .i64 n, .string t] 24 (0, 0)) := by show (w1.heap.push _)[w1.heap.size]? = _; simp
  obtain ⟨W2, hW2⟩ : ∃ W2, w1.alloc (.cells #[.int .i64 k, .int .i64 n, .string t] 24) = W2 := ⟨_, rfl⟩
  rw [hW2] at B2 hx2 hv2
  clear hl hb1 hx1 A1 B1 K0 hsW hW0 B0
  have c0 : W2.cell? ⟨w.heap.size, 0, none⟩ = some (.int .i64 0) := by simp [World.cell?, hx2]
  have c1 : W2.cell? ⟨w.heap.size, 1, none⟩ = some (.int .i64 0) := by simp [World.cell?, hx2]
  have c2 : W2.cell? ⟨w.heap.size, 2, none⟩ = some (.string ⟨#[]⟩) := by simp [World.cell?, hx2]
  have cf : ∀ o, W2.frozen? ⟨w.heap.size, o, none⟩ = false := fun o => by simp [World.frozen?, hx2]
  have d0 : W2.cell? ⟨w1.heap.size, 0, none⟩ = some (.int .i64 k) := by simp [World.cell?, hv2]
  have d1 : W2.cell? ⟨w1.heap.size, 1, none⟩ = some (.int .i64 n) := by simp [World.cell?, hv2]
  have d2 : W2.cell? ⟨w1.heap.size, 2, none⟩ = some (.string t) := by simp [World.cell?, hv2]
  cases ok with
  | false =>
    have H : Hid (rvV s = (3, 0, 0, ⟨#[]⟩)) := by
      show _ = _
      rw [HR.out]
      cases hlit : litV s with
      | none => rfl
      | some x =>
        simp only
        rw [if_neg]
        rw [HX.out.2 rfl x hlit]
        decide
    clear HX hx2 hv2
    go_wp2
    exact bodyPost_ret (v := .tuple #[VV 0 0 ⟨#[]⟩, .int .i64 3]) (by go_simp; simp [results, Try.f45, go_sem, c0, c1, c2]) rfl ⟨by unfold RvR; rw [H.out], set3_below B2 (Nat.le_refl _)⟩
  | true =>
    have H : Hid (rvV s = (0, k, n, t)) := by
      show _ = _
      obtain ⟨e1, e2⟩ := HX.out.1 rfl
      rw [HR.out, e1]
      simp only [e2]
      rfl
    clear HX hx2 hv2
    go_wp2
    exact bodyPost_ret (v := .tuple #[VV k n t, .int .i64 0]) (by go_simp; simp [results, Try.f45, go_sem, c0, c1, c2]) rfl ⟨by unfold RvR; rw [H.out], set3_below B2 (Nat.le_refl _)⟩

set_option maxRecDepth 100000 in
set_option maxHeartbeats 4000000 in
theorem lawReadValue (s : ByteArray) (w : World) (hl : s.size ≤ maxLen) :
    Calls Try.prog 13 #[.string s] w fun e w' => e = .returned (.bool true) ∧ Below w.heap.size w w' := by
  unfold maxLen at hl
  by_cases hx : (1048576 : Int) < (s.size : Int)
  · go_enter Try.func13, Try.ntmps13
    go_wp2
    go_ret
    exact ⟨rfl, Below.refl _ _⟩
  have hn : s.size ≤ 1048576 := by omega
  have hS := specReadValue_any s w hn
  have HI : Hid (∀ wx, Calls Try.prog 46 #[.string s] wx fun e w' => e = .returned (RvR s) ∧ Below wx.heap.size wx w') := fun wx => implReadValue_any s wx hn
  obtain ⟨p, hp⟩ : ∃ p, rvV s = p := ⟨_, rfl⟩
  obtain ⟨cd, k, n, t⟩ := p
  have hS' : Calls Try.prog 45 #[.string s] w fun e w' => e = .returned (.tuple #[VV k n t, .int .i64 cd]) ∧ Below w.heap.size w w' := by unfold RvR at hS; rw [hp] at hS; exact hS
  have HI' : Hid (∀ wx, Calls Try.prog 46 #[.string s] wx fun e w' => e = .returned (.tuple #[VV k n t, .int .i64 cd]) ∧ Below wx.heap.size wx w') := fun wx => by have := HI.out wx; unfold RvR at this; rw [hp] at this; exact this
  clear hS HI hp
  go_enter Try.func13, Try.ntmps13
  go_wp2_with fail
  refine hS'.mono ?_
  rintro e w1 ⟨rfl, b1⟩
  clear hS'
  have A1 : Below w1.heap.size w1 (w1.alloc (.cells #[.int .i64 k, .int .i64 n, .string t] 24)) := (Below.refl _ _).alloc (Nat.le_refl _) _
  have hv1 : (w1.alloc (.cells #[.int .i64 k, .int .i64 n, .string t] 24)).heap[w1.heap.size]? = some (.cells #[.int .i64 k, .int .i64 n, .string t] 24 (0, 0)) := by show (w1.heap.push _)[w1.heap.size]? = _; simp
  have hs1 : w1.heap.size < (w1.alloc (.cells #[.int .i64 k, .int .i64 n, .string t] 24)).heap.size := by simp
  obtain ⟨W1, hW1⟩ : ∃ W1, w1.alloc (.cells #[.int .i64 k, .int .i64 n, .string t] 24) = W1 := ⟨_, rfl⟩
  rw [hW1] at A1 hv1 hs1
  have B1 := below_step b1 (Nat.le_refl _) A1
  go_wp2_with fail
  refine (HI'.out W1).mono ?_
  rintro e w2 ⟨rfl, b2⟩
  have B2 := below_step B1 (Nat.le_refl _) b2
  have hv2 := (b2.block _ hs1).trans hv1
  have hs2 : w1.heap.size < w2.heap.size := Nat.lt_of_lt_of_le hs1 b2.size
  have A2 : Below w2.heap.size w2 (w2.alloc (.cells #[.int .i64 k, .int .i64 n, .string t] 24)) := (Below.refl _ _).alloc (Nat.le_refl _) _
  have hv3 := (A2.block _ hs2).trans hv2
  have hu3 : (w2.alloc (.cells #[.int .i64 k, .int .i64 n, .string t] 24)).heap[w2.heap.size]? = some (.cells #[.int .i64 k, .int .i64 n, .string t] 24 (0, 0)) := by show (w2.heap.push _)[w2.heap.size]? = _; simp
  obtain ⟨W2, hW2⟩ : ∃ W2, w2.alloc (.cells #[.int .i64 k, .int .i64 n, .string t] 24) = W2 := ⟨_, rfl⟩
  rw [hW2] at A2 hv3 hu3
  have B3 := below_step B2 (Nat.le_refl _) A2
  have c0 : W2.cell? ⟨w1.heap.size, 0, none⟩ = some (.int .i64 k) := by simp [World.cell?, hv3]
  have c1 : W2.cell? ⟨w1.heap.size, 1, none⟩ = some (.int .i64 n) := by simp [World.cell?, hv3]
  have c2 : W2.cell? ⟨w1.heap.size, 2, none⟩ = some (.string t) := by simp [World.cell?, hv3]
  have d0 : W2.cell? ⟨w2.heap.size, 0, none⟩ = some (.int .i64 k) := by simp [World.cell?, hu3]
  have d1 : W2.cell? ⟨w2.heap.size, 1, none⟩ = some (.int .i64 n) := by simp [World.cell?, hu3]
  have d2 : W2.cell? ⟨w2.heap.size, 2, none⟩ = some (.string t) := by simp [World.cell?, hu3]
  clear hv1 hv2 hv3 hu3 A1 A2 b1 b2 B1 B2 HI' hW1
  go_wp2_with fail
  refine (eqValue_same k n t W2).mono ?_
  rintro e w4 ⟨rfl, b4⟩
  have B4 := below_step B3 (Nat.le_refl _) b4
  go_wp2
  go_ret
  exact ⟨rfl, B4⟩
end Go.Proofs.Ytipddjgoohnalaa
