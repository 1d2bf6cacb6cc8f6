/- What spec.OpenSeal answers. -/
import Derived.Test.YtjiehohfbddpcaaOpD
namespace Go.Proofs.Ytjiehohfbddpcaa
open Go.RowKit

abbrev bkT : ByteArray := ⟨#[66, 75]⟩
theorem zero_slice (w : World) : OwnZ (w.alloc (.cells #[] 5)) w.heap.size (.slice (some ⟨w.heap.size, 0, none⟩) 0 0) [] := .inr ⟨rfl, _, rfl⟩

set_option maxRecDepth 100000 in
set_option maxHeartbeats 4000000 in
theorem l16Open_short (b off c n : Nat) (l : List UInt8) (w : World) (hl : Hid (l.length = n)) (hx : n < 10) :
    Calls Try.prog 17 #[.slice (some ⟨b, off, none⟩) n c] w (OpP l w) := by
  obtain ⟨e1, e2⟩ := opC_bad hl (by omega) (.inl (by rw [hl.out]; exact hx))
  unfold OpP
  rw [e1, e2]
  have h2I : (n : Int) < 10 := by omega
  clear e1 e2
  go_enter Try.func17, Try.ntmps17
  go_wp2
  exact bodyPost_ret (by simp [results, Try.results17, go_sem]; rfl) rfl ⟨_, rfl, .inr ⟨rfl, _, rfl⟩, (Below.refl _ _).alloc (Nat.le_refl _) _⟩

set_option maxRecDepth 100000 in
set_option maxHeartbeats 4000000 in
theorem l16Open_bad (b off c n : Nat) (l : List UInt8) (w : World) (h : ReadL w (some ⟨b, off, none⟩) l) (hl : Hid (l.length = n)) (hn : n ≤ 65536) (h10 : 10 ≤ n) (hnc : n ≤ c) (hcm : c ≤ 1048576) (hb : opB l) :
    Calls Try.prog 17 #[.slice (some ⟨b, off, none⟩) n c] w (OpP l w) := by
  obtain ⟨e1, e2⟩ := opC_bad hl (by omega) hb
  unfold OpP
  rw [e1, e2]
  have h2I : ¬ (n : Int) < 10 := by omega
  have h3I : (6 : Int) ≤ (c : Int) := by omega
  have h4I : (2 : Int) ≤ (c : Int) := by omega
  have hL4 := sub_len l 2 4 (by rw [hl.out]; omega)
  have hL2 : (l.take 2).length = 2 := by rw [List.length_take, hl.out]; omega
  have hc2 := conv_n w b off c 2 (l.take 2) (by have := h.sub 0 2 (by rw [hl.out]; omega); simpa using this) hL2
  have hc4 := conv_n w b (off + 2) (c - 2) 4 _ (h.sub 2 4 (by rw [hl.out]; omega)) hL4
  have HN := l03Of_any (tx ((l.drop 2).take 4)) w (by rw [tx_size, hL4]; omega)
  rw [tx_list] at HN
  by_cases hp : l.take 2 = [66, 75]
  · rw [hp] at hc2
    have hne : ¬ ((numOf ((l.drop 2).take 4) : Int) = (n : Int) - 10) := by
      rcases hb with h | h | h
      · rw [hl.out] at h; omega
      · exact absurd hp h
      · rw [hl.out] at h; exact h
    have hc2' : (convert 22 9 (.slice (some ⟨b, off, none⟩) 2 c)).run Try.prog w = .ok (.string bkT) w := hc2
    generalize (numOf ((l.drop 2).take 4) : Int) = x at *
    generalize tx ((l.drop 2).take 4) = t at *
    clear e1 e2 h hb hL4 hL2 hp hl hc2
    go_enter Try.func17, Try.ntmps17
    go_wp2_with fail
    refine HN.mono ?_
    rintro e w' ⟨rfl, e'⟩
    obtain rfl := e'.symm
    clear e' HN hc4 hc2'
    go_wp2
    exact bodyPost_ret (by simp [results, Try.results17, go_sem]; rfl) rfl ⟨_, rfl, .inr ⟨rfl, _, rfl⟩, (Below.refl _ _).alloc (Nat.le_refl _) _⟩
  · have hne : ((tx (l.take 2)).toList == [66, 75]) = false := by
      rw [ByteArray.toList_eq, tx_list, beq_eq_false_iff_ne]
      exact hp
    generalize tx (l.take 2) = t2 at *
    clear e1 e2 h hb hL4 hL2 hp hl HN hc4
    go_enter Try.func17, Try.ntmps17
    go_wp2
    exact bodyPost_ret (by simp [results, Try.results17, go_sem]; rfl) rfl ⟨_, rfl, .inr ⟨rfl, _, rfl⟩, (Below.refl _ _).alloc (Nat.le_refl _) _⟩

set_option maxRecDepth 100000 in
set_option maxHeartbeats 4000000 in
theorem l16Open_good (b off c n m k : Nat) (l : List UInt8) (w : World) (h : ReadL w (some ⟨b, off, none⟩) l) (hl : Hid (l.length = n)) (hn : n ≤ 65536) (hnc : n ≤ c) (hm : n = m + 4) (hk : m = k + 6) (hcm : c ≤ 1048576) (hb : ¬ opB l) :
    Calls Try.prog 17 #[.slice (some ⟨b, off, none⟩) n c] w (OpP l w) := by
  obtain ⟨h10, hp, hnum⟩ := opB_not hl hb
  have h2I : ¬ (n : Int) < 10 := by omega
  have h3I : (6 : Int) ≤ (c : Int) := by omega
  have h4I : (2 : Int) ≤ (c : Int) := by omega
  have hL4 := sub_len l 2 4 (by rw [hl.out]; omega)
  have hL2 : (l.take 2).length = 2 := by rw [List.length_take, hl.out]; omega
  have hc2 := conv_n w b off c 2 (l.take 2) (by have := h.sub 0 2 (by rw [hl.out]; omega); simpa using this) hL2
  have hc4 := conv_n w b (off + 2) (c - 2) 4 _ (h.sub 2 4 (by rw [hl.out]; omega)) hL4
  have HN := l03Of_any (tx ((l.drop 2).take 4)) w (by rw [tx_size, hL4]; omega)
  rw [tx_list] at HN
  rw [hnum] at HN
  rw [hp] at hc2
  have hc2' : (convert 22 9 (.slice (some ⟨b, off, none⟩) 2 c)).run Try.prog w = .ok (.string bkT) w := hc2
  have HR : Hid (ReadL w (some ⟨b, off, none⟩) l) := h
  generalize tx ((l.drop 2).take 4) = t at *
  have m1 : (n : Int) - 4 = (m : Int) := by omega
  have m2 : (m : Int) ≤ (c : Int) := by omega
  have m3 : (6 : Int) ≤ (m : Int) := by omega
  have m4 : (m : Int) ≤ (n : Int) := by omega
  have m5 : (n : Int) ≤ (c : Int) := by omega
  have m6 : ¬ c = m := by omega
  have HM : Hid (n = m + 4 ∧ m = k + 6 ∧ n ≤ 65536) := ⟨hm, hk, hn⟩
  clear h hL4 hL2 hp hm hk hnum h10 hn hnc hc2
  go_enter Try.func17, Try.ntmps17
  go_wp2_with fail
  refine HN.mono ?_
  rintro e w' ⟨rfl, e'⟩
  obtain rfl := e'.symm
  clear e' HN hc4 hc2'
  have HS : Hid (Below w.heap.size w w.drew) := (Below.refl _ _).drew
  have RM : Hid (ReadL w.drew (some ⟨b, off, none⟩) ((l.drop 0).take m)) := by
    have := (HR.out.below HS.out).sub 0 m (by have := HM.out; rw [hl.out]; omega)
    rwa [Nat.add_zero] at this
  have LM : Hid (((l.drop 0).take m).length = m) := sub_len l 0 m (by have := HM.out; rw [hl.out]; omega)
  have LT : Hid (((l.drop m).take 4).length = n - m) := by
    have := HM.out
    show _ = _
    rw [sub_len l m 4 (by rw [hl.out]; omega)]
    omega
  have hcT : ∀ wx, Below w.heap.size w wx → Sem.run Try.prog (convert 22 9 (.slice (some ⟨b, off + m, none⟩) (n - m) (c - m))) wx = .ok (.string (tx ((l.drop m).take 4))) wx :=
    fun wx hb => conv_n wx b (off + m) (c - m) (n - m) _ ((HR.out.below hb).sub m 4 (by have := HM.out; rw [hl.out]; omega)) LT
  obtain ⟨T, hT⟩ : ∃ T, tx ((l.drop m).take 4) = T := ⟨_, rfl⟩
  have HT : Hid (tx ((l.drop m).take 4) = T) := hT
  rw [hT] at hcT
  clear hT
  go_wp2_with fail
  refine wp_region_held_drew (S := (fun w' => Below w.heap.size w w')) (by kernel_rfl) ?_ (fun hHeld => ?_)
  · (try dsimp only)
    exact HS.out
  refine wpAnyH_take (i := 0) (oi := { dst := some 28, op := Go.Op.move (Go.Operand.tmp 0), type := 22, pos := "l16_backup.go:82", after := #[], guard := none }) (v := ?_) rfl (by kernel_rfl) (by kernel_rfl) (by kernel_rfl) (fun _ _ _ h => h) (Or.inl ⟨by rfl, ?_⟩) (by assumption) ?_
  rotate_left
  · intro w hSw
    (try dsimp only at hSw)
    go_simp
    first | done | with_reducible rfl
  simp only [Act.put, List.setIfInBounds_toArray, List.set_cons_zero, List.set_cons_succ]
  refine wpAnyH_take (i := 1) (oi := { dst := some 29, op := Go.Op.move (Go.Operand.tmp 4), type := 3, pos := "l16_backup.go:82", after := #[], guard := none }) (v := ?_) rfl (by kernel_rfl) (by kernel_rfl) (by kernel_rfl) (fun _ _ _ h => h) (Or.inl ⟨by rfl, ?_⟩) (by assumption) ?_
  rotate_left
  · intro w hSw
    (try dsimp only at hSw)
    go_simp
    first | done | with_reducible rfl
  simp only [Act.put, List.setIfInBounds_toArray, List.set_cons_zero, List.set_cons_succ]
  refine wpAnyH_take (i := 2) (oi := { dst := some 30, op := Go.Op.slice 22 (Go.Operand.tmp 28) none (some (Go.Operand.tmp 29)) none, type := 22, pos := "l16_backup.go:82", after := #[{ on := 0, ground := Go.Ground.data }, { on := 1, ground := Go.Ground.data }], guard := none }) (v := ?_) rfl (by kernel_rfl) (by kernel_rfl) (by kernel_rfl) (fun _ _ _ h => h) (Or.inl ⟨by rfl, ?_⟩) (by assumption) ?_
  rotate_left
  · intro w hSw
    (try dsimp only at hSw)
    go_simp
    first | done | with_reducible rfl
  simp only [Act.put, List.setIfInBounds_toArray, List.set_cons_zero, List.set_cons_succ]
  refine wpAnyH_take (i := 6) (oi := { dst := some 34, op := Go.Op.move (Go.Operand.tmp 0), type := 22, pos := "l16_backup.go:82", after := #[], guard := none }) (v := ?_) rfl (by kernel_rfl) (by kernel_rfl) (by kernel_rfl) (fun _ _ _ h => h) (Or.inl ⟨by rfl, ?_⟩) (by assumption) ?_
  rotate_left
  · intro w hSw
    (try dsimp only at hSw)
    go_simp
    first | done | with_reducible rfl
  simp only [Act.put, List.setIfInBounds_toArray, List.set_cons_zero, List.set_cons_succ]
  refine wpAnyH_take (i := 7) (oi := { dst := some 35, op := Go.Op.move (Go.Operand.tmp 4), type := 3, pos := "l16_backup.go:82", after := #[], guard := none }) (v := ?_) rfl (by kernel_rfl) (by kernel_rfl) (by kernel_rfl) (fun _ _ _ h => h) (Or.inl ⟨by rfl, ?_⟩) (by assumption) ?_
  rotate_left
  · intro w hSw
    (try dsimp only at hSw)
    go_simp
    first | done | with_reducible rfl
  simp only [Act.put, List.setIfInBounds_toArray, List.set_cons_zero, List.set_cons_succ]
  refine wpAnyH_take (i := 8) (oi := { dst := some 36, op := Go.Op.slice 22 (Go.Operand.tmp 34) (some (Go.Operand.tmp 35)) none none, type := 22, pos := "l16_backup.go:82", after := #[{ on := 6, ground := Go.Ground.data }, { on := 7, ground := Go.Ground.data }], guard := none }) (v := ?_) rfl (by kernel_rfl) (by kernel_rfl) (by kernel_rfl) (fun _ _ _ h => h) (Or.inl ⟨by rfl, ?_⟩) (by assumption) ?_
  rotate_left
  · intro w hSw
    (try dsimp only at hSw)
    go_simp
    first | done | with_reducible rfl
  simp only [Act.put, List.setIfInBounds_toArray, List.set_cons_zero, List.set_cons_succ]
  refine wpAnyH_take (i := 9) (oi := { dst := some 37, op := Go.Op.convert 22 9 (Go.Operand.tmp 36), type := 9, pos := "l16_backup.go:82", after := #[{ on := 8, ground := Go.Ground.data }], guard := none }) (v := ?_) rfl (by kernel_rfl) (by kernel_rfl) (by kernel_rfl) (fun _ _ _ h => h) (Or.inl ⟨by rfl, ?_⟩) (by assumption) ?_
  rotate_left
  · intro w hSw
    (try dsimp only at hSw)
    have hcw := hcT _ hSw
    go_simp
    first | done | with_reducible rfl
  simp only [Act.put, List.setIfInBounds_toArray, List.set_cons_zero, List.set_cons_succ]
  refine wpAnyH_ready (rs := [3]) (by kernel_rfl) (by simp) ?_
  refine AllReadyH.cons (o := { dst := some 31, op := Go.Op.call { callee := Go.Callee.value (Go.Operand.func 24), args := #[Go.Operand.tmp 30], argTypes := #[22] }, type := 3, pos := "l16_backup.go:82", after := #[{ on := 2, ground := Go.Ground.data }], guard := none }) rfl (fun K hK => ?_) AllReadyH.nil
  go_simp
  refine (specSum_n (some ⟨b, off, none⟩) c m _ _ RM.out LM (by have := HM.out; omega)).mono ?_
  rintro e w' ⟨rfl, e'⟩
  obtain rfl := e'.symm
  clear e'
  refine hK.out _ _ ?_ (fun hHeld2 => ?_)
  · (try dsimp only)
    exact HS.out
  clear hK K
  (try clear hHeld)
  have hHeld := hHeld2
  clear hHeld2
  (try simp only [Act.put, List.setIfInBounds_toArray, List.set_cons_zero, List.set_cons_succ])
  refine wpAnyH_ready (rs := [4]) (by kernel_rfl) (by simp) ?_
  refine AllReadyH.cons (o := { dst := some 32, op := Go.Op.call { callee := Go.Callee.value (Go.Operand.func 23), args := #[Go.Operand.tmp 31], argTypes := #[3] }, type := 22, pos := "l16_backup.go:82", after := #[{ on := 3, ground := Go.Ground.data }, { on := 3, ground := Go.Ground.chain }], guard := none }) rfl (fun K hK => ?_) AllReadyH.nil
  go_simp
  refine (low_any _ _).mono ?_
  rintro e w3 ⟨v3, rfl, o3, b3⟩
  obtain ⟨q, k3, c3, rfl, N3, _, R3⟩ := o3.open
  have hc3 := conv_n w3 q 0 c3 k3 _ R3.out N3
  have HB3 : Hid (Below w.heap.size w w3) := HS.out.trans (b3.mono HS.out.size)
  refine hK.out _ _ ?_ (fun hHeld2 => ?_)
  · (try dsimp only)
    exact HB3.out
  clear hK K
  (try clear hHeld)
  have hHeld := hHeld2
  clear hHeld2
  (try simp only [Act.put, List.setIfInBounds_toArray, List.set_cons_zero, List.set_cons_succ])
  refine wpAnyH_ready (rs := [5]) (by kernel_rfl) (by simp) ?_
  refine AllReadyH.cons (o := { dst := some 33, op := Go.Op.convert 22 9 (Go.Operand.tmp 32), type := 9, pos := "l16_backup.go:82", after := #[{ on := 4, ground := Go.Ground.data }], guard := none }) rfl (fun K hK => ?_) AllReadyH.nil
  go_simp
  refine hK.out _ _ ?_ (fun hHeld2 => ?_)
  · (try dsimp only)
    exact HB3.out
  clear hK K
  (try clear hHeld)
  have hHeld := hHeld2
  clear hHeld2
  (try simp only [Act.put, List.setIfInBounds_toArray, List.set_cons_zero, List.set_cons_succ])
  refine wpAnyH_take (i := 10) (oi := { dst := some 38, op := Go.Op.binOp Go.BinOp.neq 9 (Go.Operand.tmp 33) (Go.Operand.tmp 37) 9, type := 4, pos := "l16_backup.go:82", after := #[{ on := 5, ground := Go.Ground.data }, { on := 9, ground := Go.Ground.data }], guard := none }) (v := ?_) rfl (by kernel_rfl) (by kernel_rfl) (by kernel_rfl) (fun _ _ _ h => h) (Or.inl ⟨by rfl, ?_⟩) (by assumption) ?_
  rotate_left
  · intro w hSw
    (try dsimp only at hSw)
    go_simp
    first | done | with_reducible rfl
  simp only [Act.put, List.setIfInBounds_toArray, List.set_cons_zero, List.set_cons_succ]
  refine wpAnyH_done (by kernel_rfl) ?_ _
  have HB4 := HB3
  clear HB3 RM LM LT N3 R3 HS hc3 hcT
  by_cases hs : low4 (sumL (l.take m)) = (l.drop m).take 4
  · have hS : opS l := by unfold opS; rw [hl.out, show n - 4 = m by have := HM.out; omega]; simpa using hs
    have hq : ((tx (low4 (sumL (l.take m)))).toList == T.toList) = true := by
      rw [← HT.out, ByteArray.toList_eq, ByteArray.toList_eq, tx_list, tx_list, hs]
      simp
    obtain ⟨e1, e2⟩ := opC_ok hl (by have := HM.out; omega) hb hS
    have HE : Hid (opC l = 0 ∧ opL l = (l.drop 6).take k) := ⟨e1, by rw [e2, show n - 10 = k by have := HM.out; omega]⟩
    have LK : Hid (((l.drop 6).take k).length = m - 6) := by
      have := HM.out
      show _ = _
      rw [sub_len l 6 k (by rw [hl.out]; omega)]
      omega
    have RK : ReadL (w3.alloc (.cells #[] 5)) (some ⟨b, off + 6, none⟩) ((l.drop 6).take k) :=
      ((HR.out.below HB4.out).sub 6 k (by have := HM.out; rw [hl.out]; omega)).below ((Below.refl _ _).alloc (Nat.le_refl _) _)
    have OW : OwnL (w3.alloc (.cells #[] 5)) w3.heap.size (.slice (some ⟨w3.heap.size, 0, none⟩) 0 0) [] := OwnL.made w3 _ [] #[] (Nat.le_refl _) rfl (Nat.zero_le _)
    have HW : Hid (Below w.heap.size w (w3.alloc (.cells #[] 5))) := HB4.out.alloc HB4.out.size _
    obtain ⟨v5, w5, hr5, o5, g5⟩ := run_app_n 22 b (off + 6) (c - 6) (m - 6) _ OW RK LK (by have := HM.out; show 0 + (m - 6) ≤ _; omega) (by simp)
    have HB5 : Hid (Below w.heap.size w w5) := HB4.out.trans (((OW.grown g5 ((Below.refl w3.heap.size w3).alloc (Nat.le_refl _) _) (Nat.le_refl _) (by simp)).mono HB4.out.size))
    have HZ : Hid (OwnZ w5 w.heap.size v5 ((l.drop 6).take k)) := OwnZ.le (.inl (by simpa using o5)) HB4.out.size
    rw [hq]
    clear hq hs hS e1 e2 HR hl hb HM OW RK LK o5 g5 HW
    go_wp2_with (at_builtin; refine Lib.wpList_append_run _ rfl _ _ _ _ rfl _ _ rfl rfl _ _ hr5 ?_)
    refine bodyPost_ret (v := .tuple #[v5, .int .i64 0]) (by simp [results, Try.results17, go_sem]) rfl ⟨v5, by rw [HE.out.1], by rw [HE.out.2]; exact HZ.out, HB5.out⟩
  · have hS : ¬ opS l := by unfold opS; rw [hl.out, show n - 4 = m by have := HM.out; omega]; simpa using hs
    have hq : ((tx (low4 (sumL (l.take m)))).toList == T.toList) = false := by
      rw [← HT.out, ByteArray.toList_eq, ByteArray.toList_eq, tx_list, tx_list, beq_eq_false_iff_ne]
      exact hs
    obtain ⟨e1, e2⟩ := opC_sum hl (by have := HM.out; omega) hb hS
    have HE : Hid (opC l = 8 ∧ opL l = []) := ⟨e1, e2⟩
    have HB5 : Hid (Below w.heap.size w (w3.alloc (.cells #[] 5))) := HB4.out.alloc HB4.out.size _
    rw [hq]
    clear hq hs hS e1 e2 HR hl hb HM
    go_wp2
    refine bodyPost_ret (v := .tuple #[.slice (some ⟨w3.heap.size, 0, none⟩) 0 0, .int .i64 8]) (by simp [results, Try.results17, go_sem]) rfl ⟨_, by rw [HE.out.1], by rw [HE.out.2]; exact .inr ⟨rfl, _, rfl⟩, HB5.out⟩

set_option maxRecDepth 100000 in
theorem specOpen_all (b off n : Nat) (l : List UInt8) (w : World) (h : ReadL w (some ⟨b, off, none⟩) l) (hl : Hid (l.length = n)) (hn : n ≤ 1048576) :
    Calls Try.prog 11 #[.slice (some ⟨b, off, none⟩) n n] w (OpP l w) := by
  by_cases h1 : 65536 < n
  · obtain ⟨e1, e2⟩ := opC_long hl h1
    unfold OpP
    rw [e1, e2]
    have h1I : (65536 : Int) < (n : Int) := by omega
    clear e1 e2 h
    go_enter Try.func11, Try.ntmps11
    go_wp2
    exact bodyPost_ret (by simp [results, Try.results11, go_sem]; rfl) rfl ⟨_, rfl, .inr ⟨rfl, _, rfl⟩, (Below.refl _ _).alloc (Nat.le_refl _) _⟩
  · have h1I : ¬ (65536 : Int) < (n : Int) := by omega
    have G : Calls Try.prog 17 #[.slice (some ⟨b, off, none⟩) n n] w (OpP l w) := by
      by_cases h10 : n < 10
      · exact l16Open_short b off n n l w hl h10
      · by_cases hb : opB l
        · exact l16Open_bad b off n n l w h hl (by omega) (by omega) (Nat.le_refl _) hn hb
        · exact l16Open_good b off n n (n - 4) (n - 10) l w h hl (by omega) (Nat.le_refl _) (by omega) (by omega) hn hb
    unfold OpP at G ⊢
    generalize opC l = x at *
    generalize opL l = L at *
    clear h hl
    go_enter Try.func11, Try.ntmps11
    go_wp2_with fail
    refine G.mono ?_
    rintro e w1 ⟨v1, rfl, z1, b1⟩
    have HZ : Hid (OwnZ w1 w.heap.size v1 L) := z1
    clear G z1
    go_wp2
    exact bodyPost_ret (v := .tuple #[v1, .int .i64 x]) (by simp [results, Try.results11, go_sem]) rfl ⟨v1, rfl, HZ.out, b1⟩
end Go.Proofs.Ytjiehohfbddpcaa
