/- The specification's literal of a value (stage 1). -/
import Derived.Test.YtiimegahhnjjkaaDoorVtF
namespace Go.Proofs.YtiimegahhnjjkaaDoor
open Go.RowKit

set_option maxRecDepth 100000 in
set_option maxHeartbeats 8000000 in
theorem specHex_any (t : ByteArray) (ht : t.size ≤ 60) (w : World) : Calls Tryd.prog 26 #[.string t] w fun e w' => e = .returned (.string (tx (hexL (bt t)))) ∧ Below w.heap.size w w' := by
  have HF : Hid (OwnC (w.alloc (.cells #[] 5)) w.heap.size (.slice (some ⟨w.heap.size, 0, none⟩) 0 0) (hexL ((bt t).take 0)) ∧ Below w.heap.size w (w.alloc (.cells #[] 5))) := ⟨OwnC.empty (Nat.le_refl _), (Below.refl _ _).alloc (Nat.le_refl _) _⟩
  go_enter Tryd.func26, Tryd.ntmps26
  go_wp2
  go_loopw [3, 4] (fun o i wr => ∃ k : Nat, k ≤ t.size ∧ i = .int .i64 k ∧ Hid (OwnC wr w.heap.size o (hexL ((bt t).take k))) ∧ Below w.heap.size w wr) (fun _ i _ => t.size - (intOf i).toNat)
  case atStart => exact ⟨0, Nat.zero_le _, rfl, HF.out.1, HF.out.2⟩
  case round =>
    obtain ⟨k, hk, rfl, HK, hbl⟩ := hrel
    by_cases hlt : k < t.size
    · have hltI : (k : Int) < (t.size : Int) := by omega
      have HJ : Hid (hexL ((bt t).take (k + 1)) = hexL ((bt t).take k) ++ [hxd (t[k].toNat / 16), hxd (t[k].toNat % 16)]) := by show _ = _; rw [take_bt t k hlt]; unfold hexL; rw [flat_snoc]
      have HL : Hid ((hexL ((bt t).take k)).length ≤ 200) := by
        have h1 := hexL_len ((bt t).take k)
        have h2 : ((bt t).take k).length ≤ k := by rw [List.length_take]; omega
        show _ ≤ _
        omega
      have hb := t[k].toNat_lt
      have h16 : (t[k].toNat : Int) / 16 < 16 := by omega
      have hm16 : (t[k].toNat : Int) % 16 < 16 := by omega
      have hwq : IntKind.u8.wrap ((t[k].toNat : Int) / 16) = (t[k].toNat : Int) / 16 := by simp [IntKind.wrap, IntKind.bits, IntKind.signed]; omega
      have htm : ((t[k].toNat : Int)).tmod 16 = (t[k].toNat : Int) % 16 := Int.tmod_eq_emod_of_nonneg (by omega)
      have h016 : 0 ≤ (t[k].toNat : Int) / 16 := by omega
      have h0m : 0 ≤ (t[k].toNat : Int) % 16 := by omega
      have p16 : t[k].toNat / 16 < ({ data := #[48, 49, 50, 51, 52, 53, 54, 55, 56, 57, 97, 98, 99, 100, 101, 102] } : ByteArray).size := by show _ < 16; omega
      have pm16 : t[k].toNat % 16 < ({ data := #[48, 49, 50, 51, 52, 53, 54, 55, 56, 57, 97, 98, 99, 100, 101, 102] } : ByteArray).size := by show _ < 16; omega
      have bA : Below wr.heap.size wr (wr.drew.alloc (.cells #[.int .u8 ((({ data := #[48, 49, 50, 51, 52, 53, 54, 55, 56, 57, 97, 98, 99, 100, 101, 102] } : ByteArray)[t[k].toNat / 16]'p16).toNat : Int), .int .u8 ((({ data := #[48, 49, 50, 51, 52, 53, 54, 55, 56, 57, 97, 98, 99, 100, 101, 102] } : ByteArray)[t[k].toNat % 16]'pm16).toNat : Int)] 5)) := ((Below.refl _ _).drew).alloc (Nat.le_refl _) _
      obtain ⟨v', w3, hrun, o3, g3⟩ := app_two u3 (hexL ((bt t).take k)) (wr.drew.alloc (.cells #[.int .u8 ((({ data := #[48, 49, 50, 51, 52, 53, 54, 55, 56, 57, 97, 98, 99, 100, 101, 102] } : ByteArray)[t[k].toNat / 16]'p16).toNat : Int), .int .u8 ((({ data := #[48, 49, 50, 51, 52, 53, 54, 55, 56, 57, 97, 98, 99, 100, 101, 102] } : ByteArray)[t[k].toNat % 16]'pm16).toNat : Int)] 5)) w.heap.size (HK.out.below bA) (by have := HL.out; omega) (({ data := #[48, 49, 50, 51, 52, 53, 54, 55, 56, 57, 97, 98, 99, 100, 101, 102] } : ByteArray)[t[k].toNat / 16]'p16) (({ data := #[48, 49, 50, 51, 52, 53, 54, 55, 56, 57, 97, 98, 99, 100, 101, 102] } : ByteArray)[t[k].toNat % 16]'pm16) wr.heap.size (heap_new' _ _ _ rfl) (by have := hbl.size; have := bA.size; omega)
      have HB3 : Hid (Below w.heap.size w w3) := grown_below (below_step hbl (Nat.le_refl _) bA) (by have := hbl.size; have := bA.size; omega) (HK.out.below bA) g3
      rw [hexAt, hexAt] at o3
      have HO3 : Hid (OwnC w3 w.heap.size v' (hexL ((bt t).take (k + 1)))) := by show OwnC _ _ _ _; rw [HJ.out]; exact o3
      clear o3 g3 bA HK
      go_wp2_with fail
      refine wp_region_held_drew (S := (fun w' => Below w.heap.size w w')) (by kernel_rfl) ?_ (fun hHeld => ?_)
      · (try dsimp only)
        exact hbl.drew
      refine wpAnyH_take (i := 0) (oi := { dst := some 12, op := Go.Op.move (Go.Operand.tmp 3), type := 49, pos := "l01_values.go:283", after := #[], guard := none }) (v := ?_) rfl (by kernel_rfl) (by kernel_rfl) (by kernel_rfl) (fun _ _ _ h => h) (Or.inl ⟨by rfl, ?_⟩) (by assumption) ?_
      rotate_left
      · intro w hSw
        (try dsimp only at hSw)
        go_simp
        first | done | with_reducible rfl
      simp only [Act.put, List.setIfInBounds_toArray, List.set_cons_zero, List.set_cons_succ]
      refine wpAnyH_take (i := 1) (oi := { dst := some 13, op := Go.Op.move (Go.Operand.tmp 0), type := 9, pos := "l01_values.go:283", after := #[], guard := none }) (v := ?_) rfl (by kernel_rfl) (by kernel_rfl) (by kernel_rfl) (fun _ _ _ h => h) (Or.inl ⟨by rfl, ?_⟩) (by assumption) ?_
      rotate_left
      · intro w hSw
        (try dsimp only at hSw)
        go_simp
        first | done | with_reducible rfl
      simp only [Act.put, List.setIfInBounds_toArray, List.set_cons_zero, List.set_cons_succ]
      refine wpAnyH_take (i := 2) (oi := { dst := some 14, op := Go.Op.move (Go.Operand.tmp 4), type := 3, pos := "l01_values.go:283", after := #[], guard := none }) (v := ?_) rfl (by kernel_rfl) (by kernel_rfl) (by kernel_rfl) (fun _ _ _ h => h) (Or.inl ⟨by rfl, ?_⟩) (by assumption) ?_
      rotate_left
      · intro w hSw
        (try dsimp only at hSw)
        go_simp
        first | done | with_reducible rfl
      simp only [Act.put, List.setIfInBounds_toArray, List.set_cons_zero, List.set_cons_succ]
      refine wpAnyH_take (i := 3) (oi := { dst := some 15, op := Go.Op.index 9 (Go.Operand.tmp 13) (Go.Operand.tmp 14), type := 5, pos := "l01_values.go:283", after := #[{ on := 1, ground := Go.Ground.data }, { on := 2, ground := Go.Ground.data }], guard := none }) (v := ?_) rfl (by kernel_rfl) (by kernel_rfl) (by kernel_rfl) (fun _ _ _ h => h) (Or.inl ⟨by rfl, ?_⟩) (by assumption) ?_
      rotate_left
      · intro w hSw
        (try dsimp only at hSw)
        go_simp
        first | done | with_reducible rfl
      simp only [Act.put, List.setIfInBounds_toArray, List.set_cons_zero, List.set_cons_succ]
      refine wpAnyH_take (i := 4) (oi := { dst := some 16, op := Go.Op.binOp Go.BinOp.quo 5 (Go.Operand.tmp 15) (Go.Operand.const (Go.Value.int Go.IntKind.u8 16)) 5, type := 5, pos := "l01_values.go:283", after := #[{ on := 3, ground := Go.Ground.data }], guard := none }) (v := ?_) rfl (by kernel_rfl) (by kernel_rfl) (by kernel_rfl) (fun _ _ _ h => h) (Or.inl ⟨by rfl, ?_⟩) (by assumption) ?_
      rotate_left
      · intro w hSw
        (try dsimp only at hSw)
        go_simp
        first | done | with_reducible rfl
      simp only [Act.put, List.setIfInBounds_toArray, List.set_cons_zero, List.set_cons_succ]
      refine wpAnyH_take (i := 5) (oi := { dst := some 17, op := Go.Op.index 9 (Go.Operand.const (Go.Value.string { data := #[48, 49, 50, 51, 52, 53, 54, 55, 56, 57, 97, 98, 99, 100, 101, 102] })) (Go.Operand.tmp 16), type := 5, pos := "l01_values.go:283", after := #[{ on := 4, ground := Go.Ground.data }], guard := none }) (v := ?_) rfl (by kernel_rfl) (by kernel_rfl) (by kernel_rfl) (fun _ _ _ h => h) (Or.inl ⟨by rfl, ?_⟩) (by assumption) ?_
      rotate_left
      · intro w hSw
        (try dsimp only at hSw)
        go_simp
        first | done | with_reducible rfl
      simp only [Act.put, List.setIfInBounds_toArray, List.set_cons_zero, List.set_cons_succ]
      refine wpAnyH_take (i := 6) (oi := { dst := some 18, op := Go.Op.move (Go.Operand.tmp 0), type := 9, pos := "l01_values.go:283", after := #[], guard := none }) (v := ?_) rfl (by kernel_rfl) (by kernel_rfl) (by kernel_rfl) (fun _ _ _ h => h) (Or.inl ⟨by rfl, ?_⟩) (by assumption) ?_
      rotate_left
      · intro w hSw
        (try dsimp only at hSw)
        go_simp
        first | done | with_reducible rfl
      simp only [Act.put, List.setIfInBounds_toArray, List.set_cons_zero, List.set_cons_succ]
      refine wpAnyH_take (i := 7) (oi := { dst := some 19, op := Go.Op.move (Go.Operand.tmp 4), type := 3, pos := "l01_values.go:283", after := #[], guard := none }) (v := ?_) rfl (by kernel_rfl) (by kernel_rfl) (by kernel_rfl) (fun _ _ _ h => h) (Or.inl ⟨by rfl, ?_⟩) (by assumption) ?_
      rotate_left
      · intro w hSw
        (try dsimp only at hSw)
        go_simp
        first | done | with_reducible rfl
      simp only [Act.put, List.setIfInBounds_toArray, List.set_cons_zero, List.set_cons_succ]
      refine wpAnyH_take (i := 8) (oi := { dst := some 20, op := Go.Op.index 9 (Go.Operand.tmp 18) (Go.Operand.tmp 19), type := 5, pos := "l01_values.go:283", after := #[{ on := 6, ground := Go.Ground.data }, { on := 7, ground := Go.Ground.data }], guard := none }) (v := ?_) rfl (by kernel_rfl) (by kernel_rfl) (by kernel_rfl) (fun _ _ _ h => h) (Or.inl ⟨by rfl, ?_⟩) (by assumption) ?_
      rotate_left
      · intro w hSw
        (try dsimp only at hSw)
        go_simp
        first | done | with_reducible rfl
      simp only [Act.put, List.setIfInBounds_toArray, List.set_cons_zero, List.set_cons_succ]
      refine wpAnyH_take (i := 9) (oi := { dst := some 21, op := Go.Op.binOp Go.BinOp.rem 5 (Go.Operand.tmp 20) (Go.Operand.const (Go.Value.int Go.IntKind.u8 16)) 5, type := 5, pos := "l01_values.go:283", after := #[{ on := 8, ground := Go.Ground.data }], guard := none }) (v := ?_) rfl (by kernel_rfl) (by kernel_rfl) (by kernel_rfl) (fun _ _ _ h => h) (Or.inl ⟨by rfl, ?_⟩) (by assumption) ?_
      rotate_left
      · intro w hSw
        (try dsimp only at hSw)
        go_simp
        first | done | with_reducible rfl
      simp only [Act.put, List.setIfInBounds_toArray, List.set_cons_zero, List.set_cons_succ]
      refine wpAnyH_take (i := 10) (oi := { dst := some 22, op := Go.Op.index 9 (Go.Operand.const (Go.Value.string { data := #[48, 49, 50, 51, 52, 53, 54, 55, 56, 57, 97, 98, 99, 100, 101, 102] })) (Go.Operand.tmp 21), type := 5, pos := "l01_values.go:283", after := #[{ on := 9, ground := Go.Ground.data }], guard := none }) (v := ?_) rfl (by kernel_rfl) (by kernel_rfl) (by kernel_rfl) (fun _ _ _ h => h) (Or.inl ⟨by rfl, ?_⟩) (by assumption) ?_
      rotate_left
      · intro w hSw
        (try dsimp only at hSw)
        go_simp
        first | done | with_reducible rfl
      simp only [Act.put, List.setIfInBounds_toArray, List.set_cons_zero, List.set_cons_succ]
      refine wpAnyH_ready (rs := [11]) (by kernel_rfl) (by simp) ?_
      refine AllReadyH.cons (o := { dst := some 23, op := Go.Op.buildSlice 49 2 #[(0, Go.Operand.tmp 17), (1, Go.Operand.tmp 22)], type := 49, pos := "l01_values.go:283", after := #[{ on := 5, ground := Go.Ground.data }, { on := 10, ground := Go.Ground.data }], guard := none }) rfl (fun K hK => ?_) AllReadyH.nil
      go_simp
      refine hK.out _ _ ?_ (fun hHeld2 => ?_)
      · (try dsimp only)
        exact hHeld.alloc hHeld.size _
      clear hK K hHeld
      have hHeld := hHeld2
      clear hHeld2
      (try simp only [Act.put, List.setIfInBounds_toArray, List.set_cons_zero, List.set_cons_succ])
      refine wpAnyH_ready (rs := [12]) (by kernel_rfl) (by simp) ?_
      refine AllReadyH.cons (o := { dst := some 24, op := Go.Op.call { callee := Go.Callee.builtin Go.Builtin.append, args := #[Go.Operand.tmp 12, Go.Operand.tmp 23], argTypes := #[49, 49] }, type := 49, pos := "l01_values.go:283", after := #[{ on := 0, ground := Go.Ground.data }, { on := 11, ground := Go.Ground.data }], guard := none }) rfl (fun K hK => ?_) AllReadyH.nil
      refine step_append_run (by rfl) _ _ _ _ (by rfl) _ _ (by rfl) (by rfl) _ _ hrun ?_
      refine hK.out _ _ ?_ (fun hHeld2 => ?_)
      · (try dsimp only)
        exact HB3.out
      clear hK K hHeld
      have hHeld := hHeld2
      clear hHeld2
      (try simp only [Act.put, List.setIfInBounds_toArray, List.set_cons_zero, List.set_cons_succ])
      refine wpAnyH_take (i := 13) (oi := { dst := some 3, op := Go.Op.assign (Go.Operand.tmp 24), type := 49, pos := "l01_values.go:283", after := #[{ on := 12, ground := Go.Ground.data }, { on := 12, ground := Go.Ground.chain }, { on := 0, ground := Go.Ground.phase }, { on := 1, ground := Go.Ground.phase }, { on := 2, ground := Go.Ground.phase }, { on := 3, ground := Go.Ground.phase }, { on := 4, ground := Go.Ground.phase }, { on := 5, ground := Go.Ground.phase }, { on := 6, ground := Go.Ground.phase }, { on := 7, ground := Go.Ground.phase }, { on := 8, ground := Go.Ground.phase }, { on := 9, ground := Go.Ground.phase }, { on := 10, ground := Go.Ground.phase }, { on := 11, ground := Go.Ground.phase }, { on := 12, ground := Go.Ground.phase }], guard := none }) (v := ?_) rfl (by kernel_rfl) (by kernel_rfl) (by kernel_rfl) (fun _ _ _ h => h) (Or.inl ⟨by rfl, ?_⟩) (by assumption) ?_
      rotate_left
      · intro w hSw
        (try dsimp only at hSw)
        go_simp
        first | done | with_reducible rfl
      simp only [Act.put, List.setIfInBounds_toArray, List.set_cons_zero, List.set_cons_succ]
      refine wpAnyH_done (by kernel_rfl) ?_ _
      clear hHeld
      go_wp2
      go_roundw
      case rel => exact ⟨k + 1, by omega, by go_num, HO3.out, HB3.out⟩
      case measure => simp [intOf]; omega
    · have e : k = t.size := by omega
      subst e
      have HE : Hid ((bt t).take t.size = bt t) := List.take_of_length_le (by rw [bt_size]; exact Nat.le_refl _)
      have hcv : ∀ l, OwnC wr w.heap.size u3 l → Sem.run Tryd.prog (convert 49 9 u3) wr = .ok (.string (tx l)) wr := fun l h => conv_own h
      have hcv2 := hcv _ HK.out
      rw [HE.out] at hcv2
      clear hcv HK
      go_wp2
      go_ret
      exact ⟨rfl, hbl⟩

set_option maxRecDepth 100000 in
set_option maxHeartbeats 8000000 in
theorem specText_any (k n : Int) (t : ByteArray) (hok : okV k n t = true) (hr : Rg n) (w : World) : Calls Tryd.prog 15 #[VV k n t] w fun e w' => e = .returned (.string (tx (litL k n t))) ∧ Below w.heap.size w w' := by
  obtain ⟨W0, hW0⟩ : ∃ W0, w.alloc (.cells #[.int .i64 k, .int .i64 n, .string t] 27) = W0 := ⟨_, rfl⟩
  have B0 : Below w.heap.size w W0 := hW0 ▸ (Below.refl _ _).alloc (Nat.le_refl _) _
  have XA : W0.heap[w.heap.size]? = some (.cells #[.int .i64 k, .int .i64 n, .string t] 27 (0, 0)) := (hW0 ▸ heap_new' _ _ _ rfl : W0.heap[w.heap.size]? = _)
  have c0 : W0.cell? ⟨w.heap.size, 0, none⟩ = some (.int .i64 k) := slab_cell XA
  have c1 : W0.cell? ⟨w.heap.size, 1, none⟩ = some (.int .i64 n) := slab_cell XA
  have c2 : W0.cell? ⟨w.heap.size, 2, none⟩ = some (.string t) := slab_cell XA
  by_cases k0 : k = 0
  · subst k0
    clear hok hr XA
    go_enter Tryd.func15, Tryd.ntmps15
    go_wp2
    go_ret
    exact ⟨rfl, B0⟩
  by_cases k1 : k = 1
  · subst k1
    have h01 : n = 0 ∨ n = 1 := by
      unfold okV at hok
      rw [if_neg (by decide), if_pos rfl, Bool.and_eq_true] at hok
      have := of_decide_eq_true hok.1
      omega
    have d2 : (W0.alloc (.cells #[.string ⟨#[102, 97, 108, 115, 101]⟩, .string ⟨#[116, 114, 117, 101]⟩] 9)).cell? ⟨w.heap.size, 1, none⟩ = some (.int .i64 n) := (((Below.refl W0.heap.size W0).alloc (Nat.le_refl _) _).cell (p := ⟨w.heap.size, 1, none⟩) (slab_lt XA)).trans c1
    clear hok hr XA
    have d0 : (W0.alloc (.cells #[.string ⟨#[102, 97, 108, 115, 101]⟩, .string ⟨#[116, 114, 117, 101]⟩] 9)).cell? ⟨W0.heap.size, 0, none⟩ = some (.string ⟨#[102, 97, 108, 115, 101]⟩) := slab_cell (heap_new' _ _ _ rfl)
    have d1 : (W0.alloc (.cells #[.string ⟨#[102, 97, 108, 115, 101]⟩, .string ⟨#[116, 114, 117, 101]⟩] 9)).cell? ⟨W0.heap.size, 1, none⟩ = some (.string ⟨#[116, 114, 117, 101]⟩) := slab_cell (heap_new' _ _ _ rfl)
    rcases h01 with rfl | rfl
    · go_enter Tryd.func15, Tryd.ntmps15
      go_wp2
      go_ret
      exact ⟨rfl, B0.alloc B0.size _⟩
    · go_enter Tryd.func15, Tryd.ntmps15
      go_wp2
      go_ret
      exact ⟨rfl, B0.alloc B0.size _⟩
  by_cases k2 : k = 2
  · subst k2
    have hc := fun w => digI_any n hr w
    have HE : Hid (tx (Lib.itoa n) = tx (litL 2 n t)) := rfl
    clear hok hr XA
    generalize tx (Lib.itoa n) = sb at *
    go_enter Tryd.func15, Tryd.ntmps15
    go_wp2_with fail
    refine (hc _).mono ?_
    rintro e w1 ⟨rfl, b1⟩
    have B1 := below_step B0 (Nat.le_refl _) b1
    clear hc
    go_wp2
    go_ret
    exact ⟨ret_val (congrArg Value.string HE.out), B1⟩
  have h60 : t.size ≤ 60 := by
    unfold okV at hok
    rw [if_neg k0, if_neg k1, if_neg k2] at hok
    split at hok
    · simp at hok; omega
    · cases hok
  by_cases k3 : k = 3
  · subst k3
    clear hok hr
    obtain ⟨i0, hi, hz0, hz1, hz2⟩ := info_parts info5
    have HXA : Hid (∀ w', Below W0.heap.size W0 w' → w'.cell? ⟨w.heap.size, 2, none⟩ = some (.string t)) := fun w' hb => (hb.cell (p := ⟨w.heap.size, 2, none⟩) (slab_lt XA)).trans c2
    have hs0 := B0.size
    have HF : Hid (OwnC (W0.alloc (.cells #[.int .u8 39] 5)) W0.heap.size (.slice (some ⟨W0.heap.size, 0, none⟩) 1 1) ([39] ++ quoL ((bt t).take 0)) ∧ Below W0.heap.size W0 (W0.alloc (.cells #[.int .u8 39] 5))) := ⟨OwnC.one (Nat.le_refl _) 39, (Below.refl _ _).alloc (Nat.le_refl _) _⟩
    clear XA
    go_enter Tryd.func15, Tryd.ntmps15
    go_wp2
    go_loopw [3, 4] (fun o i wr => ∃ q : Nat, q ≤ t.size ∧ i = .int .i64 q ∧ Hid (OwnC wr W0.heap.size o ([39] ++ quoL ((bt t).take q))) ∧ Below W0.heap.size W0 wr) (fun _ i _ => t.size - (intOf i).toNat)
    case atStart => exact ⟨0, Nat.zero_le _, rfl, HF.out.1, HF.out.2⟩
    case round =>
      obtain ⟨q, hq, rfl, HK, hbl⟩ := hrel
      have x2 := HXA.out _ hbl
      have HL : Hid (([39] ++ quoL ((bt t).take q)).length ≤ 200) := by
        have h1 := quoL_len ((bt t).take q)
        have h2 : ((bt t).take q).length ≤ q := by rw [List.length_take]; omega
        show _ ≤ _
        rw [List.length_append]
        show 1 + _ ≤ _
        omega
      have hsz := hbl.size
      by_cases hlt : q < t.size
      · have hltI : (q : Int) < (t.size : Int) := by omega
        have HJ : Hid ([39] ++ quoL ((bt t).take (q + 1)) = ([39] ++ quoL ((bt t).take q)) ++ (if t[q] = 39 then [39, 39] else [t[q]])) := by show _ = _; rw [take_bt t q hlt]; unfold quoL; rw [flat_snoc]; simp
        have hown : (wr.alloc (.cells #[.int .u8 (t[q].toNat : Int)] 5)).ownsRow W0.heap.size 5 1 u3 _ _ := HK.out.below ((Below.refl _ _).alloc (Nat.le_refl _) _)
        have hBA : Below W0.heap.size W0 (wr.alloc (.cells #[.int .u8 (t[q].toNat : Int)] 5)) := hbl.alloc hbl.size _
        clear HK
        generalize [39] ++ quoL ((bt t).take q) = lk at *
        go_wp2_with (at_builtin; refine wpList_append_own _ rfl (.tmp 29) (.tmp 34) 49 rfl W0.heap.size 5 i0 (.int .u8 0) 1 1 Tryd.underlying49 hi hz0 hz1 hz2 rfl (by decide) _ _ _ rfl hown ⟨wr.heap.size, 0, none⟩ 1 1 [.int .u8 (t[q].toNat : Int)] rfl rfl ?q1 ?q2 ?q3 ?q4 ?q5 ?_)
        case q1 => exact cell_one_new _ _ _
        case q2 => intro u hu; simp at hu; subst hu; rfl
        case q3 => unfold maxLen; have := HL.out; omega
        case q4 => have := HL.out; omega
        case q5 => simp; omega
        intro v' w2 hown' hgr _
        have hs1 : W0.heap.size ≤ (wr.alloc (.cells #[.int .u8 (t[q].toNat : Int)] 5)).heap.size := by simp; omega
        have HB2 : Hid (Below W0.heap.size W0 w2) := grown_below hBA hs1 hown hgr
        have HO2 : Hid (OwnC w2 W0.heap.size v' (lk ++ [t[q]])) := by show World.ownsRow _ _ _ _ _ _ _; rw [List.length_append, Lib.byteCells_append]; exact hown'
        have x22 := HXA.out _ HB2.out
        clear hown' hgr hown hBA x2 hbl hsz hs1
        by_cases h39 : t[q] = 39
        · have h39I : ((t[q].toNat : Int) == 39) = true := by rw [h39]; rfl
          have hsz2 := HB2.out.size
          have hla : (lk ++ [t[q]]).length = lk.length + 1 := by simp
          have hown : (w2.alloc (.cells #[.int .u8 39] 5)).ownsRow W0.heap.size 5 1 v' _ _ := HO2.out.below ((Below.refl _ _).alloc (Nat.le_refl _) _)
          have hBA : Below W0.heap.size W0 (w2.alloc (.cells #[.int .u8 39] 5)) := HB2.out.alloc HB2.out.size _
          clear HO2
          go_wp2_with (at_builtin; refine wpList_append_own _ rfl (.tmp 41) (.tmp 42) 49 rfl W0.heap.size 5 i0 (.int .u8 0) 1 1 Tryd.underlying49 hi hz0 hz1 hz2 rfl (by decide) _ _ _ rfl hown ⟨w2.heap.size, 0, none⟩ 1 1 [.int .u8 39] rfl rfl ?q1 ?q2 ?q3 ?q4 ?q5 ?_)
          case q1 => exact cell_one_new _ _ _
          case q2 => intro u hu; simp at hu; subst hu; rfl
          case q3 => unfold maxLen; have := HL.out; omega
          case q4 => have := HL.out; omega
          case q5 => simp; omega
          intro v3 w3 hown' hgr _
          have hs1 : W0.heap.size ≤ (w2.alloc (.cells #[.int .u8 39] 5)).heap.size := by simp; omega
          have HB3 : Hid (Below W0.heap.size W0 w3) := grown_below hBA hs1 hown hgr
          have HO3 : Hid (OwnC w3 W0.heap.size v3 ([39] ++ quoL ((bt t).take (q + 1)))) := by
            have h : OwnC w3 W0.heap.size v3 ((lk ++ [39]) ++ [39]) := by
              show World.ownsRow _ _ _ _ _ _ _
              rw [List.length_append, List.length_append, Lib.byteCells_append]
              exact hown'
            show OwnC _ _ _ _
            rw [HJ.out, if_pos h39]
            rw [List.append_assoc] at h
            exact h
          clear hown' hgr hown hBA hs1 hsz2 x22 HB2
          go_wp2
          go_roundw
          case rel => exact ⟨q + 1, by omega, by go_num, HO3.out, HB3.out⟩
          case measure => simp [intOf]; omega
        · have h39I : ((t[q].toNat : Int) == 39) = false := by
            rw [beq_eq_false_iff_ne]
            intro e
            exact h39 (UInt8.toNat_inj.1 (by show t[q].toNat = 39; omega))
          have HE : Hid (OwnC w2 W0.heap.size v' ([39] ++ quoL ((bt t).take (q + 1)))) := by show OwnC _ _ _ _; rw [HJ.out, if_neg h39]; exact HO2.out
          clear HO2 HJ
          go_wp2
          go_roundw
          case rel => exact ⟨q + 1, by omega, by go_num, HE.out, HB2.out⟩
          case measure => simp [intOf]; omega
      · have e : q = t.size := by omega
        subst e
        have HE : Hid ((bt t).take t.size = bt t) := List.take_of_length_le (by rw [bt_size]; exact Nat.le_refl _)
        have hown : (wr.alloc (.cells #[.int .u8 39] 5)).ownsRow W0.heap.size 5 1 u3 _ _ := HK.out.below ((Below.refl _ _).alloc (Nat.le_refl _) _)
        have hBA : Below W0.heap.size W0 (wr.alloc (.cells #[.int .u8 39] 5)) := hbl.alloc hbl.size _
        clear HK
        go_wp2_with (at_builtin; refine wpList_append_own _ rfl (.tmp 44) (.tmp 45) 49 rfl W0.heap.size 5 i0 (.int .u8 0) 1 1 Tryd.underlying49 hi hz0 hz1 hz2 rfl (by decide) _ _ _ rfl hown ⟨wr.heap.size, 0, none⟩ 1 1 [.int .u8 39] rfl rfl ?q1 ?q2 ?q3 ?q4 ?q5 ?_)
        case q1 => exact cell_one_new _ _ _
        case q2 => intro u hu; simp at hu; subst hu; rfl
        case q3 => unfold maxLen; have := HL.out; omega
        case q4 => have := HL.out; omega
        case q5 => simp; omega
        intro v3 w3 hown' hgr _
        have hs1 : W0.heap.size ≤ (wr.alloc (.cells #[.int .u8 39] 5)).heap.size := by simp; omega
        have HB3 : Hid (Below w.heap.size w w3) := B0.trans ((grown_below hBA hs1 hown hgr).mono hs0)
        have HO3 : OwnC w3 W0.heap.size v3 (litL 3 n t) := by
          have h : OwnC w3 W0.heap.size v3 (([39] ++ quoL ((bt t).take t.size)) ++ [39]) := by
            show World.ownsRow _ _ _ _ _ _ _
            rw [List.length_append, Lib.byteCells_append]
            exact hown'
          rw [HE.out] at h
          exact h
        have hcv := conv_own HO3
        clear hown' hgr hown hBA hs1 HO3 hbl
        go_wp2
        go_ret
        exact ⟨rfl, HB3.out⟩
  have k4 : k = 4 := by
    unfold okV at hok
    rw [if_neg k0, if_neg k1, if_neg k2] at hok
    by_cases h : k = 4
    · exact h
    · rw [if_neg (by omega)] at hok; cases hok
  subst k4
  have hc := specHex_any t h60
  have hql := hexL_len (bt t)
  rw [bt_size] at hql
  obtain ⟨s1, e1, A1⟩ := addE ⟨#[120, 39]⟩ (tx (hexL (bt t))) (by rw [tx_size]; show 2 + _ ≤ _; omega)
  have z1 := size_bt e1
  rw [List.length_append, bt_tx] at z1
  change s1.size = 2 + _ at z1
  obtain ⟨s2, e2, A2⟩ := addE s1 ⟨#[39]⟩ (by show _ + 1 ≤ _; omega)
  have HE : Hid (s2 = tx (litL 4 n t)) := eq_tx (by rw [e2, e1, bt_tx]; rfl)
  clear hok hr hql e1 e2 z1 XA
  generalize tx (hexL (bt t)) = sq at *
  go_enter Tryd.func15, Tryd.ntmps15
  go_wp2_with fail
  refine (hc _).mono ?_
  rintro e w1 ⟨rfl, b1⟩
  have B1 := below_step B0 (Nat.le_refl _) b1
  clear hc
  go_wp2
  go_ret
  exact ⟨ret_val (congrArg Value.string HE.out), B1⟩
end Go.Proofs.YtiimegahhnjjkaaDoor
