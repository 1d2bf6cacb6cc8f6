/- The specification's text of a table (stage 9). -/
import Derived.Test.YtkegckfanehgfaaGreatDoorTtF
import Derived.Test.YtkegckfanehgfaaGreatDoorTkB
import Derived.Deep.RegionHeld3
namespace Go.Proofs.YtkegckfanehgfaaGreatDoor
open Go.RowKit

/-- What stands while a column's text is made. -/
abbrev StW (W : World) (tb : Nat) (cv : Value) (b o : Nat) (kx : ByteArray) (t : Int) (w' : World) : Prop := w'.cell? ⟨tb, 1, none⟩ = some cv ∧ w'.cell? ⟨b, o, none⟩ = some (.string kx) ∧ w'.cell? ⟨b, o + 1, none⟩ = some (.int .i64 t) ∧ tb < w'.heap.size ∧ b < w'.heap.size ∧ Below W.heap.size W w'
theorem StW.keep {W : World} {tb : Nat} {cv : Value} {b o : Nat} {kx : ByteArray} {t : Int} {w1 w2 : World} (h : StW W tb cv b o kx t w1) (hb : Below w1.heap.size w1 w2) : StW W tb cv b o kx t w2 :=
  ⟨(hb.cell (p := ⟨tb, 1, none⟩) h.2.2.2.1).trans h.1, (hb.cell (p := ⟨b, o, none⟩) h.2.2.2.2.1).trans h.2.1, (hb.cell (p := ⟨b, o + 1, none⟩) h.2.2.2.2.1).trans h.2.2.1, Nat.lt_of_lt_of_le h.2.2.2.1 hb.size, Nat.lt_of_lt_of_le h.2.2.2.2.1 hb.size, below_step h.2.2.2.2.2 (Nat.le_refl _) hb⟩

set_option maxRecDepth 100000 in
set_option maxHeartbeats 16000000 in
theorem l09Text_any (nm : ByteArray) (ca xa : Option Addr) (cc xc : Nat) (cs : List TC) (key : Int) (xs : List TX) (w : World) (hC : RowC w ca cs) (hX : RowX w xa xs) (hP : TabP nm cs key xs) :
    Calls Tryz.prog 12 #[TbV nm (.slice ca cs.length cc) key (.slice xa xs.length xc)] w fun e w' => ∃ s : ByteArray, e = .returned (.string s) ∧ bt s = tabL nm cs key xs ∧ Below w.heap.size w w' := by
  have HR : Hid (RowC w ca cs ∧ RowX w xa xs) := ⟨hC, hX⟩
  have HP : Hid (TabP nm cs key xs) := hP
  have hn8 := hP.2.1
  have hm4 := hP.2.2.1
  have hk1 := hP.2.2.2.1
  have hk8 := hP.2.2.2.2.1
  have hns : nm.size ≤ 40 := givenB_size hP.1
  have HLC : Hid (∀ k, k ≤ cs.length → (joinL (fun j => colL (nthC cs j)) k).length ≤ 600) := colsL_len hP
  have HLX : Hid (∀ k, k ≤ xs.length → (idxsL cs xs k).length ≤ k * 600) := idxsL_len hP
  obtain ⟨kk, rfl⟩ := Int.eq_ofNat_of_zero_le (show 0 ≤ key by omega)
  have hkk : kk < 10 := by omega
  obtain ⟨V0, hV0⟩ : ∃ V0, w.alloc (.cells #[.string nm, .slice ca cs.length cc, .int .i64 (kk : Int), .slice xa xs.length xc] 32) = V0 := ⟨_, rfl⟩
  have A0 : Below w.heap.size w V0 := hV0 ▸ (Below.refl _ _).alloc (Nat.le_refl _) _
  have XA : V0.heap[w.heap.size]? = some (.cells #[.string nm, .slice ca cs.length cc, .int .i64 (kk : Int), .slice xa xs.length xc] 32 (0, 0)) := (hV0 ▸ heap_new' _ _ _ rfl : V0.heap[w.heap.size]? = _)
  have c0 : V0.cell? ⟨w.heap.size, 0, none⟩ = some (.string nm) := slab_cell XA
  have hwl : w.heap.size < V0.heap.size := slab_lt XA
  have HBox : Hid (∀ w', Below V0.heap.size V0 w' → w'.heap[w.heap.size]? = some (.cells #[.string nm, .slice ca cs.length cc, .int .i64 (kk : Int), .slice xa xs.length xc] 32 (0, 0))) := fun w' hb => (hb.block _ hwl).trans XA
  have HI : Hid (RowC V0 ca cs ∧ RowX V0 xa xs) := ⟨hC.below A0, hX.below A0⟩
  have HA0 : Hid (Below w.heap.size w V0) := A0
  obtain ⟨s0, e0, N0⟩ := addE nm ⟨#[40]⟩ (by show _ + 1 ≤ _; omega)
  have HS0 : Hid (bt s0 = bt nm ++ [40]) := e0
  have HT : Hid (tabL nm cs (kk : Int) xs = bt nm ++ [40] ++ joinL (fun j => colL (nthC cs j)) cs.length ++ ([41, 32, 107, 101, 121, 32] ++ digL kk) ++ idxsL cs xs xs.length) := by show _ = _; unfold tabL; rw [Int.toNat_natCast]
  have HP0 : Hid ((bt nm ++ [40]).length ≤ 41) := by show _ ≤ _; rw [List.length_append, bt_size]; show _ + 1 ≤ _; omega
  generalize hN : cs.length = n at *
  generalize hM : xs.length = m at *
  have HN : Hid (cs.length = n ∧ xs.length = m) := ⟨hN, hM⟩
  clear hC hX hP hk1 hk8 A0 XA e0 hN hM
  go_enter Tryz.func12, Tryz.ntmps12
  go_wp2
  go_loopw [3, 4] (fun so i wr => ∃ (k : Nat) (s : ByteArray), k ≤ n ∧ i = .int .i64 k ∧ so = .string s ∧ Hid (bt s = bt nm ++ [40] ++ joinL (fun j => colL (nthC cs j)) k) ∧ Below V0.heap.size V0 wr) (fun _ i _ => n - (intOf i).toNat)
  case atStart => exact ⟨0, s0, by omega, rfl, rfl, by show _ = _; rw [HS0.out]; simp [joinL], Below.refl _ _⟩
  case round =>
    obtain ⟨k, s, hk, rfl, rfl, HK, hbl⟩ := hrel
    have x1 : wr.cell? ⟨w.heap.size, 1, none⟩ = some (.slice ca n cc) := slab_cell (HBox.out _ hbl)
    by_cases hlt : k < n
    · have hltI : (k : Int) < (n : Int) := by omega
      obtain ⟨b, off, rfl, hlb, ⟨p0, p1, p2⟩, _⟩ := HI.out.1 k (by rw [HN.out.1]; exact hlt)
      have HO := HP.out.col k (by rw [HN.out.1]; exact hlt)
      have hzs : s.size ≤ 700 := by
        rw [size_bt HK.out, List.length_append]
        have := HLC.out k (by omega)
        have := HP0.out
        omega
      have HJ : Hid (∀ s' : ByteArray, bt s' = bt s ++ (if 0 < k then [44, 32] else []) ++ colL (nthC cs k) → bt s' = bt nm ++ [40] ++ joinL (fun j => colL (nthC cs j)) (k + 1)) := fun s' h => by rw [h, HK.out, joinL]; simp
      generalize nthC cs k = xk at *
      obtain ⟨kx, t, nx⟩ := xk
      simp only at HO p0 p1 p2
      have q0 := (hbl.cell (p := ⟨b, off + k * 3, none⟩) hlb).trans p0
      have q1 := (hbl.cell (p := ⟨b, off + k * 3 + 1, none⟩) hlb).trans p1
      have HQ2 : Hid (∀ w', Below V0.heap.size V0 w' → w'.cell? ⟨b, off + k * 3 + 2, none⟩ = some (.bool nx)) := fun w' hb => (hb.cell (p := ⟨b, off + k * 3 + 2, none⟩) hlb).trans p2
      obtain ⟨tk, rfl⟩ := Int.eq_ofNat_of_zero_le (show 0 ≤ t by omega)
      have ht5 : tk < 5 := by omega
      have ht5I : (tk : Int) < 5 := by omega
      have hl := wordY_len tk
      obtain ⟨sA, hA, A1⟩ : ∃ sA : ByteArray, bt sA = bt s ++ (if 0 < k then [44, 32] else []) ∧ (0 < k → ∀ w, (Op.stringOp .add s ⟨#[44, 32]⟩).run Tryz.prog w = .ok (.string sA) w) ∧ (¬ 0 < k → sA = s) := by
        by_cases h0 : 0 < k
        · obtain ⟨sA, eA, AA⟩ := addE s ⟨#[44, 32]⟩ (by show _ + 2 ≤ _; omega)
          exact ⟨sA, by rw [eA, if_pos h0]; rfl, fun _ => AA, fun h => absurd h0 h⟩
        · exact ⟨s, by rw [if_neg h0]; simp, fun h => absurd h h0, fun _ => rfl⟩
      have zA : sA.size ≤ 702 := by
        have h1 := size_bt hA
        rw [List.length_append, bt_size] at h1
        have : (if 0 < k then [(44 : UInt8), 32] else []).length ≤ 2 := by split <;> simp
        omega
      obtain ⟨s1, e1, P1⟩ := addE kx ⟨#[32]⟩ (by show _ + 1 ≤ _; omega)
      have z1 := size_bt e1
      rw [List.length_append, bt_size, bt_size] at z1
      change s1.size = kx.size + 1 at z1
      obtain ⟨s2, e2, P2⟩ := addE s1 (tx (wordY tk)) (by rw [tx_size]; omega)
      have z2 := size_bt e2
      rw [List.length_append, bt_size, bt_tx] at z2
      obtain ⟨s3, e3, P3⟩ := addE sA s2 (by omega)
      have z3 := size_bt e3
      rw [List.length_append, bt_size, bt_size] at z3
      obtain ⟨s4, e4, P4⟩ := addE s3 ⟨#[32, 110, 117, 108, 108]⟩ (by show _ + 5 ≤ _; omega)
      have HE : Hid ((nx = false → bt s3 = bt s ++ (if 0 < k then [44, 32] else []) ++ colL (kx, (tk : Int), nx)) ∧ (nx = true → bt s4 = bt s ++ (if 0 < k then [44, 32] else []) ++ colL (kx, (tk : Int), nx))) :=
        ⟨fun h => by rw [e3, hA, e2, e1, bt_tx]; unfold colL; rw [h]; simp [nulL, bt], fun h => by rw [e4, e3, hA, e2, e1, bt_tx]; unfold colL; rw [h]; simp [nulL, bt]⟩
      have hPL : StW V0 w.heap.size (.slice (some ⟨b, off, none⟩) n cc) b (off + k * 3) kx (tk : Int) wr.drew := ⟨x1, q0, q1, Nat.lt_of_lt_of_le hwl hbl.size, Nat.lt_of_lt_of_le hlb hbl.size, hbl.drew⟩
      clear hA zA e1 z1 e2 z2 e3 z3 e4 hzs hl HK HO
      generalize hwy : tx (wordY tk) = wy at *
      have HWY : Hid (tx (wordY tk) = wy) := hwy
      clear hwy
      by_cases h0 : 0 < k
      · have h0I : (0 : Int) < (k : Int) := by omega
        have AA := A1.1 h0
        clear A1 q0 q1 p0 p1 p2
        go_wp2_with fail
        refine wp_region_held_drew (S := (StW V0 w.heap.size (.slice (some ⟨b, off, none⟩) n cc) b (off + k * 3) kx (tk : Int))) (by kernel_rfl) ?_ (fun hHeld => ?_)
        · (try dsimp only)
          exact hPL
        refine wpAnyH_take (i := 0) (oi := { dst := some 21, op := Go.Op.move (Go.Operand.tmp 3), type := 9, pos := "l09_schema.go:274", after := #[], guard := none }) (v := ?_) rfl (by kernel_rfl) (by kernel_rfl) (by kernel_rfl) (fun _ _ _ h => h) (Or.inl ⟨by rfl, ?_⟩) (by assumption) ?_
        rotate_left
        · intro w hSw
          (try dsimp only at hSw)
          go_simp
          first | done | with_reducible rfl
        simp only [Act.put, List.setIfInBounds_toArray, List.set_cons_zero, List.set_cons_succ]
        refine wpAnyH_take (i := 1) (oi := { dst := some 22, op := Go.Op.fieldAddr 32 (Go.Operand.tmp 1) 1, type := 0, pos := "l09_schema.go:274", after := #[], guard := none }) (v := ?_) rfl (by kernel_rfl) (by kernel_rfl) (by kernel_rfl) (fun _ _ _ h => h) (Or.inl ⟨by rfl, ?_⟩) (by assumption) ?_
        rotate_left
        · intro w hSw
          (try dsimp only at hSw)
          go_simp
          first | done | with_reducible rfl
        simp only [Act.put, List.setIfInBounds_toArray, List.set_cons_zero, List.set_cons_succ]
        refine wpAnyH_take (i := 2) (oi := { dst := some 23, op := Go.Op.load 29 (Go.Operand.tmp 22), type := 29, pos := "l09_schema.go:274", after := #[{ on := 1, ground := Go.Ground.data }], guard := none }) (v := ?_) rfl (by kernel_rfl) (by kernel_rfl) (by kernel_rfl) (fun _ _ _ h => h) (Or.inl ⟨by rfl, ?_⟩) (by assumption) ?_
        rotate_left
        · intro w hSw
          (try dsimp only at hSw)
          go_simp
          first | done | with_reducible rfl
        simp only [Act.put, List.setIfInBounds_toArray, List.set_cons_zero, List.set_cons_succ]
        refine wpAnyH_take (i := 3) (oi := { dst := some 24, op := Go.Op.move (Go.Operand.tmp 4), type := 3, pos := "l09_schema.go:274", after := #[], guard := none }) (v := ?_) rfl (by kernel_rfl) (by kernel_rfl) (by kernel_rfl) (fun _ _ _ h => h) (Or.inl ⟨by rfl, ?_⟩) (by assumption) ?_
        rotate_left
        · intro w hSw
          (try dsimp only at hSw)
          go_simp
          first | done | with_reducible rfl
        simp only [Act.put, List.setIfInBounds_toArray, List.set_cons_zero, List.set_cons_succ]
        refine wpAnyH_take (i := 4) (oi := { dst := some 25, op := Go.Op.indexAddr 29 (Go.Operand.tmp 23) (Go.Operand.tmp 24), type := 0, pos := "l09_schema.go:274", after := #[{ on := 2, ground := Go.Ground.data }, { on := 3, ground := Go.Ground.data }], guard := none }) (v := ?_) rfl (by kernel_rfl) (by kernel_rfl) (by kernel_rfl) (fun _ _ _ h => h) (Or.inl ⟨by rfl, ?_⟩) (by assumption) ?_
        rotate_left
        · intro w hSw
          (try dsimp only at hSw)
          go_simp
          first | done | with_reducible rfl
        simp only [Act.put, List.setIfInBounds_toArray, List.set_cons_zero, List.set_cons_succ]
        refine wpAnyH_take (i := 5) (oi := { dst := some 26, op := Go.Op.fieldAddr 52 (Go.Operand.tmp 25) 0, type := 0, pos := "l09_schema.go:274", after := #[{ on := 4, ground := Go.Ground.data }], guard := none }) (v := ?_) rfl (by kernel_rfl) (by kernel_rfl) (by kernel_rfl) (fun _ _ _ h => h) (Or.inl ⟨by rfl, ?_⟩) (by assumption) ?_
        rotate_left
        · intro w hSw
          (try dsimp only at hSw)
          go_simp
          first | done | with_reducible rfl
        simp only [Act.put, List.setIfInBounds_toArray, List.set_cons_zero, List.set_cons_succ]
        refine wpAnyH_take (i := 6) (oi := { dst := some 27, op := Go.Op.load 9 (Go.Operand.tmp 26), type := 9, pos := "l09_schema.go:274", after := #[{ on := 5, ground := Go.Ground.data }], guard := none }) (v := ?_) rfl (by kernel_rfl) (by kernel_rfl) (by kernel_rfl) (fun _ _ _ h => h) (Or.inl ⟨by rfl, ?_⟩) (by assumption) ?_
        rotate_left
        · intro w hSw
          (try dsimp only at hSw)
          go_simp
          first | done | with_reducible rfl
        simp only [Act.put, List.setIfInBounds_toArray, List.set_cons_zero, List.set_cons_succ]
        refine wpAnyH_take (i := 7) (oi := { dst := some 28, op := Go.Op.binOp Go.BinOp.add 9 (Go.Operand.tmp 27) (Go.Operand.const (Go.Value.string { data := #[32] })) 9, type := 9, pos := "l09_schema.go:274", after := #[{ on := 6, ground := Go.Ground.data }], guard := none }) (v := ?_) rfl (by kernel_rfl) (by kernel_rfl) (by kernel_rfl) (fun _ _ _ h => h) (Or.inl ⟨by rfl, ?_⟩) (by assumption) ?_
        rotate_left
        · intro w hSw
          (try dsimp only at hSw)
          go_simp
          first | done | with_reducible rfl
        simp only [Act.put, List.setIfInBounds_toArray, List.set_cons_zero, List.set_cons_succ]
        refine wpAnyH_take (i := 9) (oi := { dst := some 30, op := Go.Op.fieldAddr 32 (Go.Operand.tmp 1) 1, type := 0, pos := "l09_schema.go:274", after := #[], guard := none }) (v := ?_) rfl (by kernel_rfl) (by kernel_rfl) (by kernel_rfl) (fun _ _ _ h => h) (Or.inl ⟨by rfl, ?_⟩) (by assumption) ?_
        rotate_left
        · intro w hSw
          (try dsimp only at hSw)
          go_simp
          first | done | with_reducible rfl
        simp only [Act.put, List.setIfInBounds_toArray, List.set_cons_zero, List.set_cons_succ]
        refine wpAnyH_take (i := 10) (oi := { dst := some 31, op := Go.Op.load 29 (Go.Operand.tmp 30), type := 29, pos := "l09_schema.go:274", after := #[{ on := 9, ground := Go.Ground.data }], guard := none }) (v := ?_) rfl (by kernel_rfl) (by kernel_rfl) (by kernel_rfl) (fun _ _ _ h => h) (Or.inl ⟨by rfl, ?_⟩) (by assumption) ?_
        rotate_left
        · intro w hSw
          (try dsimp only at hSw)
          go_simp
          first | done | with_reducible rfl
        simp only [Act.put, List.setIfInBounds_toArray, List.set_cons_zero, List.set_cons_succ]
        refine wpAnyH_take (i := 11) (oi := { dst := some 32, op := Go.Op.move (Go.Operand.tmp 4), type := 3, pos := "l09_schema.go:274", after := #[], guard := none }) (v := ?_) rfl (by kernel_rfl) (by kernel_rfl) (by kernel_rfl) (fun _ _ _ h => h) (Or.inl ⟨by rfl, ?_⟩) (by assumption) ?_
        rotate_left
        · intro w hSw
          (try dsimp only at hSw)
          go_simp
          first | done | with_reducible rfl
        simp only [Act.put, List.setIfInBounds_toArray, List.set_cons_zero, List.set_cons_succ]
        refine wpAnyH_take (i := 12) (oi := { dst := some 33, op := Go.Op.indexAddr 29 (Go.Operand.tmp 31) (Go.Operand.tmp 32), type := 0, pos := "l09_schema.go:274", after := #[{ on := 10, ground := Go.Ground.data }, { on := 11, ground := Go.Ground.data }], guard := none }) (v := ?_) rfl (by kernel_rfl) (by kernel_rfl) (by kernel_rfl) (fun _ _ _ h => h) (Or.inl ⟨by rfl, ?_⟩) (by assumption) ?_
        rotate_left
        · intro w hSw
          (try dsimp only at hSw)
          go_simp
          first | done | with_reducible rfl
        simp only [Act.put, List.setIfInBounds_toArray, List.set_cons_zero, List.set_cons_succ]
        refine wpAnyH_take (i := 13) (oi := { dst := some 34, op := Go.Op.fieldAddr 52 (Go.Operand.tmp 33) 1, type := 0, pos := "l09_schema.go:274", after := #[{ on := 12, ground := Go.Ground.data }], guard := none }) (v := ?_) rfl (by kernel_rfl) (by kernel_rfl) (by kernel_rfl) (fun _ _ _ h => h) (Or.inl ⟨by rfl, ?_⟩) (by assumption) ?_
        rotate_left
        · intro w hSw
          (try dsimp only at hSw)
          go_simp
          first | done | with_reducible rfl
        simp only [Act.put, List.setIfInBounds_toArray, List.set_cons_zero, List.set_cons_succ]
        refine wpAnyH_take (i := 14) (oi := { dst := some 35, op := Go.Op.load 3 (Go.Operand.tmp 34), type := 3, pos := "l09_schema.go:274", after := #[{ on := 13, ground := Go.Ground.data }], guard := none }) (v := ?_) rfl (by kernel_rfl) (by kernel_rfl) (by kernel_rfl) (fun _ _ _ h => h) (Or.inl ⟨by rfl, ?_⟩) (by assumption) ?_
        rotate_left
        · intro w hSw
          (try dsimp only at hSw)
          go_simp
          first | done | with_reducible rfl
        simp only [Act.put, List.setIfInBounds_toArray, List.set_cons_zero, List.set_cons_succ]
        refine wpAnyH_ready (rs := [8]) (by kernel_rfl) (by simp) ?_
        refine AllReadyH.cons (o := { dst := some 29, op := Go.Op.call { callee := Go.Callee.value (Go.Operand.func 32), args := #[], argTypes := #[] }, type := 71, pos := "l09_schema.go:274", after := #[], guard := none }) rfl (fun K hK => ?_) AllReadyH.nil
        go_simp
        go_at_call 32
        refine (l09Types_at tk ht5 _).mono ?_
        rintro e wA ⟨g, rfl, hg, hb⟩
        rw [HWY.out] at hg
        refine hK.out _ _ ?_ (fun hHeld2 => ?_)
        · (try dsimp only)
          exact StW.keep (by assumption) hb
        clear hK K hHeld
        have hHeld := hHeld2
        clear hHeld2
        (try simp only [Act.put, List.setIfInBounds_toArray, List.set_cons_zero, List.set_cons_succ])
        refine wpAnyH_take (i := 15) (oi := { dst := some 36, op := Go.Op.indexAddr 71 (Go.Operand.tmp 29) (Go.Operand.tmp 35), type := 0, pos := "l09_schema.go:274", after := #[{ on := 8, ground := Go.Ground.data }, { on := 14, ground := Go.Ground.data }], guard := none }) (v := ?_) rfl (by kernel_rfl) (by kernel_rfl) (by kernel_rfl) (fun _ _ _ h => h) (Or.inl ⟨by rfl, ?_⟩) (by assumption) ?_
        rotate_left
        · intro w hSw
          (try dsimp only at hSw)
          go_simp
          first | done | with_reducible rfl
        simp only [Act.put, List.setIfInBounds_toArray, List.set_cons_zero, List.set_cons_succ]
        refine wpAnyH_ready (rs := [16]) (by kernel_rfl) (by simp) ?_
        refine AllReadyH.cons (o := { dst := some 37, op := Go.Op.load 9 (Go.Operand.tmp 36), type := 9, pos := "l09_schema.go:274", after := #[{ on := 15, ground := Go.Ground.data }], guard := none }) rfl (fun K hK => ?_) AllReadyH.nil
        go_simp
        refine hK.out _ _ ?_ (fun hHeld2 => ?_)
        · (try dsimp only)
          exact (by assumption)
        clear hK K hHeld
        have hHeld := hHeld2
        clear hHeld2
        (try simp only [Act.put, List.setIfInBounds_toArray, List.set_cons_zero, List.set_cons_succ])
        refine wpAnyH_take (i := 17) (oi := { dst := some 38, op := Go.Op.binOp Go.BinOp.add 9 (Go.Operand.tmp 28) (Go.Operand.tmp 37) 9, type := 9, pos := "l09_schema.go:274", after := #[{ on := 7, ground := Go.Ground.data }, { on := 16, ground := Go.Ground.data }], guard := none }) (v := ?_) rfl (by kernel_rfl) (by kernel_rfl) (by kernel_rfl) (fun _ _ _ h => h) (Or.inl ⟨by rfl, ?_⟩) (by assumption) ?_
        rotate_left
        · intro w hSw
          (try dsimp only at hSw)
          go_simp
          first | done | with_reducible rfl
        simp only [Act.put, List.setIfInBounds_toArray, List.set_cons_zero, List.set_cons_succ]
        refine wpAnyH_take (i := 18) (oi := { dst := some 39, op := Go.Op.binOp Go.BinOp.add 9 (Go.Operand.tmp 21) (Go.Operand.tmp 38) 9, type := 9, pos := "l09_schema.go:274", after := #[{ on := 0, ground := Go.Ground.data }, { on := 17, ground := Go.Ground.data }], guard := none }) (v := ?_) rfl (by kernel_rfl) (by kernel_rfl) (by kernel_rfl) (fun _ _ _ h => h) (Or.inl ⟨by rfl, ?_⟩) (by assumption) ?_
        rotate_left
        · intro w hSw
          (try dsimp only at hSw)
          go_simp
          first | done | with_reducible rfl
        simp only [Act.put, List.setIfInBounds_toArray, List.set_cons_zero, List.set_cons_succ]
        refine wpAnyH_take (i := 19) (oi := { dst := some 3, op := Go.Op.assign (Go.Operand.tmp 39), type := 9, pos := "l09_schema.go:274", after := #[{ on := 18, ground := Go.Ground.data }, { on := 8, ground := Go.Ground.chain }, { on := 0, ground := Go.Ground.phase }, { on := 1, ground := Go.Ground.phase }, { on := 2, ground := Go.Ground.phase }, { on := 3, ground := Go.Ground.phase }, { on := 4, ground := Go.Ground.phase }, { on := 5, ground := Go.Ground.phase }, { on := 6, ground := Go.Ground.phase }, { on := 7, ground := Go.Ground.phase }, { on := 8, ground := Go.Ground.phase }, { on := 9, ground := Go.Ground.phase }, { on := 10, ground := Go.Ground.phase }, { on := 11, ground := Go.Ground.phase }, { on := 12, ground := Go.Ground.phase }, { on := 13, ground := Go.Ground.phase }, { on := 14, ground := Go.Ground.phase }, { on := 15, ground := Go.Ground.phase }, { on := 16, ground := Go.Ground.phase }, { on := 17, ground := Go.Ground.phase }, { on := 18, ground := Go.Ground.phase }], guard := none }) (v := ?_) rfl (by kernel_rfl) (by kernel_rfl) (by kernel_rfl) (fun _ _ _ h => h) (Or.inl ⟨by rfl, ?_⟩) (by assumption) ?_
        rotate_left
        · intro w hSw
          (try dsimp only at hSw)
          go_simp
          first | done | with_reducible rfl
        simp only [Act.put, List.setIfInBounds_toArray, List.set_cons_zero, List.set_cons_succ]
        refine wpAnyH_done (by kernel_rfl) ?_ _
        have y1 := hHeld.1
        have y2 := HQ2.out _ hHeld.2.2.2.2.2
        have HBw : Hid (Below V0.heap.size V0 wA) := hHeld.2.2.2.2.2
        clear hHeld HQ2 hg
        cases nx with
        | true =>
          have HE4 : Hid (bt s4 = _) := HJ.out s4 (HE.out.2 rfl)
          clear HE HJ
          go_wp2
          go_roundw
          case rel => exact ⟨k + 1, s4, by omega, by go_num, rfl, HE4.out, HBw.out⟩
          case measure => simp [intOf]; omega
        | false =>
          have HE4 : Hid (bt s3 = _) := HJ.out s3 (HE.out.1 rfl)
          clear HE HJ
          go_wp2
          go_roundw
          case rel => exact ⟨k + 1, s3, by omega, by go_num, rfl, HE4.out, HBw.out⟩
          case measure => simp [intOf]; omega
      · have h0I : ¬ (0 : Int) < (k : Int) := by omega
        have hAs := A1.2 h0
        subst hAs
        clear A1 q0 q1 p0 p1 p2
        go_wp2_with fail
        refine wp_region_held_drew (S := (StW V0 w.heap.size (.slice (some ⟨b, off, none⟩) n cc) b (off + k * 3) kx (tk : Int))) (by kernel_rfl) ?_ (fun hHeld => ?_)
        · (try dsimp only)
          exact hPL
        refine wpAnyH_take (i := 0) (oi := { dst := some 21, op := Go.Op.move (Go.Operand.tmp 3), type := 9, pos := "l09_schema.go:274", after := #[], guard := none }) (v := ?_) rfl (by kernel_rfl) (by kernel_rfl) (by kernel_rfl) (fun _ _ _ h => h) (Or.inl ⟨by rfl, ?_⟩) (by assumption) ?_
        rotate_left
        · intro w hSw
          (try dsimp only at hSw)
          go_simp
          first | done | with_reducible rfl
        simp only [Act.put, List.setIfInBounds_toArray, List.set_cons_zero, List.set_cons_succ]
        refine wpAnyH_take (i := 1) (oi := { dst := some 22, op := Go.Op.fieldAddr 32 (Go.Operand.tmp 1) 1, type := 0, pos := "l09_schema.go:274", after := #[], guard := none }) (v := ?_) rfl (by kernel_rfl) (by kernel_rfl) (by kernel_rfl) (fun _ _ _ h => h) (Or.inl ⟨by rfl, ?_⟩) (by assumption) ?_
        rotate_left
        · intro w hSw
          (try dsimp only at hSw)
          go_simp
          first | done | with_reducible rfl
        simp only [Act.put, List.setIfInBounds_toArray, List.set_cons_zero, List.set_cons_succ]
        refine wpAnyH_take (i := 2) (oi := { dst := some 23, op := Go.Op.load 29 (Go.Operand.tmp 22), type := 29, pos := "l09_schema.go:274", after := #[{ on := 1, ground := Go.Ground.data }], guard := none }) (v := ?_) rfl (by kernel_rfl) (by kernel_rfl) (by kernel_rfl) (fun _ _ _ h => h) (Or.inl ⟨by rfl, ?_⟩) (by assumption) ?_
        rotate_left
        · intro w hSw
          (try dsimp only at hSw)
          go_simp
          first | done | with_reducible rfl
        simp only [Act.put, List.setIfInBounds_toArray, List.set_cons_zero, List.set_cons_succ]
        refine wpAnyH_take (i := 3) (oi := { dst := some 24, op := Go.Op.move (Go.Operand.tmp 4), type := 3, pos := "l09_schema.go:274", after := #[], guard := none }) (v := ?_) rfl (by kernel_rfl) (by kernel_rfl) (by kernel_rfl) (fun _ _ _ h => h) (Or.inl ⟨by rfl, ?_⟩) (by assumption) ?_
        rotate_left
        · intro w hSw
          (try dsimp only at hSw)
          go_simp
          first | done | with_reducible rfl
        simp only [Act.put, List.setIfInBounds_toArray, List.set_cons_zero, List.set_cons_succ]
        refine wpAnyH_take (i := 4) (oi := { dst := some 25, op := Go.Op.indexAddr 29 (Go.Operand.tmp 23) (Go.Operand.tmp 24), type := 0, pos := "l09_schema.go:274", after := #[{ on := 2, ground := Go.Ground.data }, { on := 3, ground := Go.Ground.data }], guard := none }) (v := ?_) rfl (by kernel_rfl) (by kernel_rfl) (by kernel_rfl) (fun _ _ _ h => h) (Or.inl ⟨by rfl, ?_⟩) (by assumption) ?_
        rotate_left
        · intro w hSw
          (try dsimp only at hSw)
          go_simp
          first | done | with_reducible rfl
        simp only [Act.put, List.setIfInBounds_toArray, List.set_cons_zero, List.set_cons_succ]
        refine wpAnyH_take (i := 5) (oi := { dst := some 26, op := Go.Op.fieldAddr 52 (Go.Operand.tmp 25) 0, type := 0, pos := "l09_schema.go:274", after := #[{ on := 4, ground := Go.Ground.data }], guard := none }) (v := ?_) rfl (by kernel_rfl) (by kernel_rfl) (by kernel_rfl) (fun _ _ _ h => h) (Or.inl ⟨by rfl, ?_⟩) (by assumption) ?_
        rotate_left
        · intro w hSw
          (try dsimp only at hSw)
          go_simp
          first | done | with_reducible rfl
        simp only [Act.put, List.setIfInBounds_toArray, List.set_cons_zero, List.set_cons_succ]
        refine wpAnyH_take (i := 6) (oi := { dst := some 27, op := Go.Op.load 9 (Go.Operand.tmp 26), type := 9, pos := "l09_schema.go:274", after := #[{ on := 5, ground := Go.Ground.data }], guard := none }) (v := ?_) rfl (by kernel_rfl) (by kernel_rfl) (by kernel_rfl) (fun _ _ _ h => h) (Or.inl ⟨by rfl, ?_⟩) (by assumption) ?_
        rotate_left
        · intro w hSw
          (try dsimp only at hSw)
          go_simp
          first | done | with_reducible rfl
        simp only [Act.put, List.setIfInBounds_toArray, List.set_cons_zero, List.set_cons_succ]
        refine wpAnyH_take (i := 7) (oi := { dst := some 28, op := Go.Op.binOp Go.BinOp.add 9 (Go.Operand.tmp 27) (Go.Operand.const (Go.Value.string { data := #[32] })) 9, type := 9, pos := "l09_schema.go:274", after := #[{ on := 6, ground := Go.Ground.data }], guard := none }) (v := ?_) rfl (by kernel_rfl) (by kernel_rfl) (by kernel_rfl) (fun _ _ _ h => h) (Or.inl ⟨by rfl, ?_⟩) (by assumption) ?_
        rotate_left
        · intro w hSw
          (try dsimp only at hSw)
          go_simp
          first | done | with_reducible rfl
        simp only [Act.put, List.setIfInBounds_toArray, List.set_cons_zero, List.set_cons_succ]
        refine wpAnyH_take (i := 9) (oi := { dst := some 30, op := Go.Op.fieldAddr 32 (Go.Operand.tmp 1) 1, type := 0, pos := "l09_schema.go:274", after := #[], guard := none }) (v := ?_) rfl (by kernel_rfl) (by kernel_rfl) (by kernel_rfl) (fun _ _ _ h => h) (Or.inl ⟨by rfl, ?_⟩) (by assumption) ?_
        rotate_left
        · intro w hSw
          (try dsimp only at hSw)
          go_simp
          first | done | with_reducible rfl
        simp only [Act.put, List.setIfInBounds_toArray, List.set_cons_zero, List.set_cons_succ]
        refine wpAnyH_take (i := 10) (oi := { dst := some 31, op := Go.Op.load 29 (Go.Operand.tmp 30), type := 29, pos := "l09_schema.go:274", after := #[{ on := 9, ground := Go.Ground.data }], guard := none }) (v := ?_) rfl (by kernel_rfl) (by kernel_rfl) (by kernel_rfl) (fun _ _ _ h => h) (Or.inl ⟨by rfl, ?_⟩) (by assumption) ?_
        rotate_left
        · intro w hSw
          (try dsimp only at hSw)
          go_simp
          first | done | with_reducible rfl
        simp only [Act.put, List.setIfInBounds_toArray, List.set_cons_zero, List.set_cons_succ]
        refine wpAnyH_take (i := 11) (oi := { dst := some 32, op := Go.Op.move (Go.Operand.tmp 4), type := 3, pos := "l09_schema.go:274", after := #[], guard := none }) (v := ?_) rfl (by kernel_rfl) (by kernel_rfl) (by kernel_rfl) (fun _ _ _ h => h) (Or.inl ⟨by rfl, ?_⟩) (by assumption) ?_
        rotate_left
        · intro w hSw
          (try dsimp only at hSw)
          go_simp
          first | done | with_reducible rfl
        simp only [Act.put, List.setIfInBounds_toArray, List.set_cons_zero, List.set_cons_succ]
        refine wpAnyH_take (i := 12) (oi := { dst := some 33, op := Go.Op.indexAddr 29 (Go.Operand.tmp 31) (Go.Operand.tmp 32), type := 0, pos := "l09_schema.go:274", after := #[{ on := 10, ground := Go.Ground.data }, { on := 11, ground := Go.Ground.data }], guard := none }) (v := ?_) rfl (by kernel_rfl) (by kernel_rfl) (by kernel_rfl) (fun _ _ _ h => h) (Or.inl ⟨by rfl, ?_⟩) (by assumption) ?_
        rotate_left
        · intro w hSw
          (try dsimp only at hSw)
          go_simp
          first | done | with_reducible rfl
        simp only [Act.put, List.setIfInBounds_toArray, List.set_cons_zero, List.set_cons_succ]
        refine wpAnyH_take (i := 13) (oi := { dst := some 34, op := Go.Op.fieldAddr 52 (Go.Operand.tmp 33) 1, type := 0, pos := "l09_schema.go:274", after := #[{ on := 12, ground := Go.Ground.data }], guard := none }) (v := ?_) rfl (by kernel_rfl) (by kernel_rfl) (by kernel_rfl) (fun _ _ _ h => h) (Or.inl ⟨by rfl, ?_⟩) (by assumption) ?_
        rotate_left
        · intro w hSw
          (try dsimp only at hSw)
          go_simp
          first | done | with_reducible rfl
        simp only [Act.put, List.setIfInBounds_toArray, List.set_cons_zero, List.set_cons_succ]
        refine wpAnyH_take (i := 14) (oi := { dst := some 35, op := Go.Op.load 3 (Go.Operand.tmp 34), type := 3, pos := "l09_schema.go:274", after := #[{ on := 13, ground := Go.Ground.data }], guard := none }) (v := ?_) rfl (by kernel_rfl) (by kernel_rfl) (by kernel_rfl) (fun _ _ _ h => h) (Or.inl ⟨by rfl, ?_⟩) (by assumption) ?_
        rotate_left
        · intro w hSw
          (try dsimp only at hSw)
          go_simp
          first | done | with_reducible rfl
        simp only [Act.put, List.setIfInBounds_toArray, List.set_cons_zero, List.set_cons_succ]
        refine wpAnyH_ready (rs := [8]) (by kernel_rfl) (by simp) ?_
        refine AllReadyH.cons (o := { dst := some 29, op := Go.Op.call { callee := Go.Callee.value (Go.Operand.func 32), args := #[], argTypes := #[] }, type := 71, pos := "l09_schema.go:274", after := #[], guard := none }) rfl (fun K hK => ?_) AllReadyH.nil
        go_simp
        go_at_call 32
        refine (l09Types_at tk ht5 _).mono ?_
        rintro e wA ⟨g, rfl, hg, hb⟩
        rw [HWY.out] at hg
        refine hK.out _ _ ?_ (fun hHeld2 => ?_)
        · (try dsimp only)
          exact StW.keep (by assumption) hb
        clear hK K hHeld
        have hHeld := hHeld2
        clear hHeld2
        (try simp only [Act.put, List.setIfInBounds_toArray, List.set_cons_zero, List.set_cons_succ])
        refine wpAnyH_take (i := 15) (oi := { dst := some 36, op := Go.Op.indexAddr 71 (Go.Operand.tmp 29) (Go.Operand.tmp 35), type := 0, pos := "l09_schema.go:274", after := #[{ on := 8, ground := Go.Ground.data }, { on := 14, ground := Go.Ground.data }], guard := none }) (v := ?_) rfl (by kernel_rfl) (by kernel_rfl) (by kernel_rfl) (fun _ _ _ h => h) (Or.inl ⟨by rfl, ?_⟩) (by assumption) ?_
        rotate_left
        · intro w hSw
          (try dsimp only at hSw)
          go_simp
          first | done | with_reducible rfl
        simp only [Act.put, List.setIfInBounds_toArray, List.set_cons_zero, List.set_cons_succ]
        refine wpAnyH_ready (rs := [16]) (by kernel_rfl) (by simp) ?_
        refine AllReadyH.cons (o := { dst := some 37, op := Go.Op.load 9 (Go.Operand.tmp 36), type := 9, pos := "l09_schema.go:274", after := #[{ on := 15, ground := Go.Ground.data }], guard := none }) rfl (fun K hK => ?_) AllReadyH.nil
        go_simp
        refine hK.out _ _ ?_ (fun hHeld2 => ?_)
        · (try dsimp only)
          exact (by assumption)
        clear hK K hHeld
        have hHeld := hHeld2
        clear hHeld2
        (try simp only [Act.put, List.setIfInBounds_toArray, List.set_cons_zero, List.set_cons_succ])
        refine wpAnyH_take (i := 17) (oi := { dst := some 38, op := Go.Op.binOp Go.BinOp.add 9 (Go.Operand.tmp 28) (Go.Operand.tmp 37) 9, type := 9, pos := "l09_schema.go:274", after := #[{ on := 7, ground := Go.Ground.data }, { on := 16, ground := Go.Ground.data }], guard := none }) (v := ?_) rfl (by kernel_rfl) (by kernel_rfl) (by kernel_rfl) (fun _ _ _ h => h) (Or.inl ⟨by rfl, ?_⟩) (by assumption) ?_
        rotate_left
        · intro w hSw
          (try dsimp only at hSw)
          go_simp
          first | done | with_reducible rfl
        simp only [Act.put, List.setIfInBounds_toArray, List.set_cons_zero, List.set_cons_succ]
        refine wpAnyH_take (i := 18) (oi := { dst := some 39, op := Go.Op.binOp Go.BinOp.add 9 (Go.Operand.tmp 21) (Go.Operand.tmp 38) 9, type := 9, pos := "l09_schema.go:274", after := #[{ on := 0, ground := Go.Ground.data }, { on := 17, ground := Go.Ground.data }], guard := none }) (v := ?_) rfl (by kernel_rfl) (by kernel_rfl) (by kernel_rfl) (fun _ _ _ h => h) (Or.inl ⟨by rfl, ?_⟩) (by assumption) ?_
        rotate_left
        · intro w hSw
          (try dsimp only at hSw)
          go_simp
          first | done | with_reducible rfl
        simp only [Act.put, List.setIfInBounds_toArray, List.set_cons_zero, List.set_cons_succ]
        refine wpAnyH_take (i := 19) (oi := { dst := some 3, op := Go.Op.assign (Go.Operand.tmp 39), type := 9, pos := "l09_schema.go:274", after := #[{ on := 18, ground := Go.Ground.data }, { on := 8, ground := Go.Ground.chain }, { on := 0, ground := Go.Ground.phase }, { on := 1, ground := Go.Ground.phase }, { on := 2, ground := Go.Ground.phase }, { on := 3, ground := Go.Ground.phase }, { on := 4, ground := Go.Ground.phase }, { on := 5, ground := Go.Ground.phase }, { on := 6, ground := Go.Ground.phase }, { on := 7, ground := Go.Ground.phase }, { on := 8, ground := Go.Ground.phase }, { on := 9, ground := Go.Ground.phase }, { on := 10, ground := Go.Ground.phase }, { on := 11, ground := Go.Ground.phase }, { on := 12, ground := Go.Ground.phase }, { on := 13, ground := Go.Ground.phase }, { on := 14, ground := Go.Ground.phase }, { on := 15, ground := Go.Ground.phase }, { on := 16, ground := Go.Ground.phase }, { on := 17, ground := Go.Ground.phase }, { on := 18, ground := Go.Ground.phase }], guard := none }) (v := ?_) rfl (by kernel_rfl) (by kernel_rfl) (by kernel_rfl) (fun _ _ _ h => h) (Or.inl ⟨by rfl, ?_⟩) (by assumption) ?_
        rotate_left
        · intro w hSw
          (try dsimp only at hSw)
          go_simp
          first | done | with_reducible rfl
        simp only [Act.put, List.setIfInBounds_toArray, List.set_cons_zero, List.set_cons_succ]
        refine wpAnyH_done (by kernel_rfl) ?_ _
        have y1 := hHeld.1
        have y2 := HQ2.out _ hHeld.2.2.2.2.2
        have HBw : Hid (Below V0.heap.size V0 wA) := hHeld.2.2.2.2.2
        clear hHeld HQ2 hg
        cases nx with
        | true =>
          have HE4 : Hid (bt s4 = _) := HJ.out s4 (HE.out.2 rfl)
          clear HE HJ
          go_wp2
          go_roundw
          case rel => exact ⟨k + 1, s4, by omega, by go_num, rfl, HE4.out, HBw.out⟩
          case measure => simp [intOf]; omega
        | false =>
          have HE4 : Hid (bt s3 = _) := HJ.out s3 (HE.out.1 rfl)
          clear HE HJ
          go_wp2
          go_roundw
          case rel => exact ⟨k + 1, s3, by omega, by go_num, rfl, HE4.out, HBw.out⟩
          case measure => simp [intOf]; omega
    · have e : k = n := by omega
      subst e
      have hzs : s.size ≤ 700 := by
        rw [size_bt HK.out, List.length_append]
        have := HLC.out k (Nat.le_refl _)
        have := HP0.out
        omega
      have x2 : wr.cell? ⟨w.heap.size, 2, none⟩ = some (.int .i64 (kk : Int)) := slab_cell (HBox.out _ hbl)
      have HTL : Hid (∀ s' : ByteArray, bt s' = (bt s ++ ([41, 32, 107, 101, 121, 32] ++ digL kk)) ++ idxsL cs xs m → bt s' = tabL nm cs (kk : Int) xs) := fun s' h => by rw [h, HT.out, HK.out]
      obtain ⟨d1, e1, D1⟩ := addE ⟨#[41, 32, 107, 101, 121, 32]⟩ (tx (digL kk)) (by rw [tx_size, digL_len]; show 6 + 1 ≤ _; omega)
      have z1 := size_bt e1
      rw [List.length_append, bt_tx, digL_len] at z1
      change d1.size = 6 + 1 at z1
      obtain ⟨d2, e2, D2⟩ := addE s d1 (by omega)
      have z2 := size_bt e2
      rw [List.length_append, bt_size, bt_size] at z2
      have HD2 : Hid (bt d2 = bt s ++ ([41, 32, 107, 101, 121, 32] ++ digL kk)) := by show _ = _; rw [e2, e1]; rfl
      have HZ2 : Hid (d2.size ≤ 710) := by show _ ≤ _; omega
      have hdig := fun wx => l00Digits_small kk hkk wx
      clear e1 e2 z1 z2 hzs HK HT HLC HP0 HS0 c0 N0
      generalize tx (digL kk) = sd at *
      go_wp2_with fail
      refine (hdig _).mono ?_
      rintro e wB ⟨rfl, bB⟩
      have HB5 : Hid (Below V0.heap.size V0 wB) := below_step hbl (Nat.le_refl _) bB
      clear hdig x1 x2 bB hbl
      go_wp2
      go_loopw [3, 5] (fun so i wr => ∃ (k : Nat) (s : ByteArray), k ≤ m ∧ i = .int .i64 k ∧ so = .string s ∧ Hid (bt s = bt d2 ++ idxsL cs xs k) ∧ Below V0.heap.size V0 wr) (fun _ i _ => m - (intOf i).toNat)
      case atStart => exact ⟨0, d2, by omega, rfl, rfl, by show _ = _; simp [idxsL], HB5.out⟩
      case round =>
        obtain ⟨q, t, hq, rfl, rfl, HK, hbl⟩ := hrel
        have x3 : wr.cell? ⟨w.heap.size, 3, none⟩ = some (.slice xa m xc) := slab_cell (HBox.out _ hbl)
        by_cases hlt : q < m
        · have hltI : (q : Int) < (m : Int) := by omega
          obtain ⟨b', off', ia, ic, rfl, hlb, ⟨p0, p1⟩, hri, _⟩ := HI.out.2 q (by rw [HN.out.2]; exact hlt)
          have HX := HP.out.idx (k := q) (by rw [HN.out.2]; exact hlt)
          have hzt : t.size ≤ 710 + 2400 := by
            have h1 := HLX.out q (by omega)
            have h2 := HZ2.out
            have h3 : q * 600 ≤ 4 * 600 := Nat.mul_le_mul (by omega) (Nat.le_refl _)
            rw [size_bt HK.out, List.length_append, bt_size]
            omega
          have HJ : Hid (∀ s' : ByteArray, bt s' = bt t ++ idxL cs (nthX xs q) → bt s' = bt d2 ++ idxsL cs xs (q + 1)) := fun s' h => by rw [h, HK.out, idxsL, List.append_assoc]
          generalize nthX xs q = xq at *
          obtain ⟨xn, is⟩ := xq
          simp only at HX p0 p1 hri
          have HXh : Hid (xn.size ≤ 40 ∧ is.length ≤ 8 ∧ ∀ j, j < is.length → 0 ≤ nthI is j ∧ (nthI is j).toNat < cs.length ∧ (nthC cs (nthI is j).toNat).1.size ≤ 40) := HX
          have hx40 := HX.1
          have q0 := (hbl.cell (p := ⟨b', off' + q * 2, none⟩) hlb).trans p0
          obtain ⟨r1, f1, F1⟩ := addE ⟨#[32, 105, 110, 100, 101, 120, 32]⟩ xn (by show 7 + _ ≤ _; omega)
          have z1 := size_bt f1
          rw [List.length_append, bt_size, bt_size] at z1
          change r1.size = 7 + xn.size at z1
          obtain ⟨r2, f2, F2⟩ := addE r1 ⟨#[40]⟩ (by show _ + 1 ≤ _; omega)
          have z2 := size_bt f2
          rw [List.length_append, bt_size, bt_size] at z2
          change r2.size = r1.size + 1 at z2
          obtain ⟨r3, f3, F3⟩ := addE t r2 (by omega)
          have z3 := size_bt f3
          rw [List.length_append, bt_size, bt_size] at z3
          have HZ3 : Hid (r3.size ≤ 4000) := by show _ ≤ _; omega
          have HR3 : Hid (bt r3 = bt t ++ ([32, 105, 110, 100, 101, 120, 32] ++ bt xn ++ [40])) := by show _ = _; rw [f3, f2, f1]; rfl
          have HPX : Hid (b' < V0.heap.size ∧ V0.cell? ⟨b', off' + q * 2 + 1, none⟩ = some (.slice ia is.length ic) ∧ RowI V0 ia is) := ⟨hlb, p1, hri⟩
          clear z1 z2 z3 f1 f2 f3 hzt HK HX p0 p1 hri
          generalize hL : is.length = ln at *
          have HLn : Hid (is.length = ln) := hL
          clear hL
          go_wp2
          go_loopw [3, 6] (fun so i wi => ∃ (j : Nat) (u : ByteArray), j ≤ ln ∧ i = .int .i64 j ∧ so = .string u ∧ Hid (bt u = bt r3 ++ joinL (fun j => bt (nthC cs (nthI is j).toNat).1) j) ∧ Below V0.heap.size V0 wi) (fun _ i _ => ln - (intOf i).toNat)
          case atStart => exact ⟨0, r3, by omega, rfl, rfl, by show _ = _; simp [joinL], hbl⟩
          case round =>
            obtain ⟨j, u, hj, rfl, rfl, HKi, hbi⟩ := hrel
            clear x3 q0
            have x3 : wr.cell? ⟨w.heap.size, 3, none⟩ = some (.slice (some ⟨b', off', none⟩) m xc) := slab_cell (HBox.out _ hbi)
            have q1 := (hbi.cell (p := ⟨b', off' + q * 2 + 1, none⟩) HPX.out.1).trans HPX.out.2.1
            by_cases hjl : j < ln
            · have hln8 : ln ≤ 8 := HXh.out.2.1
              have hjlI : (j : Int) < (ln : Int) := by omega
              have x1 : wr.cell? ⟨w.heap.size, 1, none⟩ = some (.slice ca k cc) := slab_cell (HBox.out _ hbi)
              have HXj := HXh.out.2.2 j hjl
              obtain ⟨bi, oi, rfl, hlbi, w0⟩ := HPX.out.2.2 j (by rw [HLn.out]; exact hjl)
              have i0 := (hbi.cell (p := ⟨bi, oi + j, none⟩) hlbi).trans w0
              have hzu : u.size ≤ 4500 := by
                have h1 := joinL_len (fun j => bt (nthC cs (nthI is j).toNat).1) 40 j (fun i hi => by rw [bt_size]; exact (HXh.out.2.2 i (by omega)).2.2)
                have h2 := HZ3.out
                have h3 : j * 42 ≤ 8 * 42 := Nat.mul_le_mul (by have := HXh.out.2.1; omega) (Nat.le_refl _)
                rw [size_bt HKi.out, List.length_append, bt_size]
                omega
              have HJj : Hid (∀ s' : ByteArray, bt s' = bt u ++ (if 0 < j then [44, 32] else []) ++ bt (nthC cs (nthI is j).toNat).1 → bt s' = bt r3 ++ joinL (fun j => bt (nthC cs (nthI is j).toNat).1) (j + 1)) := fun s' h => by rw [h, HKi.out, joinL]; simp
              generalize nthI is j = z at *
              obtain ⟨zn, rfl⟩ := Int.eq_ofNat_of_zero_le HXj.1
              rw [Int.toNat_natCast] at HXj HJj
              have hzn : zn < k := by rw [← HN.out.1]; exact HXj.2.1
              have hznI : (zn : Int) < (k : Int) := by omega
              obtain ⟨b, off, rfl, hlbc, ⟨c0, _, _⟩, _⟩ := HI.out.1 zn HXj.2.1
              have k0 := (hbi.cell (p := ⟨b, off + zn * 3, none⟩) hlbc).trans c0
              have hcs := HXj.2.2
              generalize (nthC cs zn).1 = cn at *
              obtain ⟨sA, hA, A1⟩ : ∃ sA : ByteArray, bt sA = bt u ++ (if 0 < j then [44, 32] else []) ∧ (0 < j → ∀ w, (Op.stringOp .add u ⟨#[44, 32]⟩).run Tryz.prog w = .ok (.string sA) w) ∧ (¬ 0 < j → sA = u) := by
                by_cases h0 : 0 < j
                · obtain ⟨sA, eA, AA⟩ := addE u ⟨#[44, 32]⟩ (by show _ + 2 ≤ _; omega)
                  exact ⟨sA, by rw [eA, if_pos h0]; rfl, fun _ => AA, fun h => absurd h0 h⟩
                · exact ⟨u, by rw [if_neg h0]; simp, fun h => absurd h h0, fun _ => rfl⟩
              have zA : sA.size ≤ 4502 := by
                have h1 := size_bt hA
                rw [List.length_append, bt_size] at h1
                have : (if 0 < j then [(44 : UInt8), 32] else []).length ≤ 2 := by split <;> simp
                omega
              obtain ⟨sB, eB, BB⟩ := addE sA cn (by omega)
              have HE : Hid (bt sB = bt r3 ++ joinL (fun j => bt (nthC cs (nthI is j).toNat).1) (j + 1)) := HJj.out sB (by rw [eB, hA])
              have HBi : Hid (Below V0.heap.size V0 wr) := hbi
              clear hA zA eB hzu HJj HKi HXj hcs w0 c0 hbi
              by_cases h0 : 0 < j
              · have h0I : (0 : Int) < (j : Int) := by omega
                have AA := A1.1 h0
                clear A1
                go_wp2_with fail
                go_quiet (fail)
                go_wp2
                go_roundw
                case rel => exact ⟨j + 1, sB, by omega, by go_num, rfl, HE.out, below_drewN HBi.out _⟩
                case measure => simp [intOf]; omega
              · have h0I : ¬ (0 : Int) < (j : Int) := by omega
                have hAs := A1.2 h0
                subst hAs
                clear A1
                go_wp2_with fail
                go_quiet (fail)
                go_wp2
                go_roundw
                case rel => exact ⟨j + 1, sB, by omega, by go_num, rfl, HE.out, below_drewN HBi.out _⟩
                case measure => simp [intOf]; omega
            · have e : j = ln := by omega
              subst e
              have hzu : u.size ≤ 4500 := by
                have h1 := joinL_len (fun j => bt (nthC cs (nthI is j).toNat).1) 40 j (fun i hi => by rw [bt_size]; exact (HXh.out.2.2 i hi).2.2)
                have h2 := HZ3.out
                have h3 : j * 42 ≤ 8 * 42 := Nat.mul_le_mul (by have := HXh.out.2.1; omega) (Nat.le_refl _)
                rw [size_bt HKi.out, List.length_append, bt_size]
                omega
              obtain ⟨v1, g1, G1⟩ := addE u ⟨#[41]⟩ (by show _ + 1 ≤ _; omega)
              have HE : Hid (bt v1 = bt d2 ++ idxsL cs xs (q + 1)) := HJ.out v1 (by rw [g1, HKi.out, HR3.out]; unfold idxL; rw [HLn.out]; simp [bt])
              clear g1 HKi hzu
              go_wp2
              go_roundw
              case rel => exact ⟨q + 1, v1, by omega, by go_num, rfl, HE.out, hbi⟩
              case measure => simp [intOf]; omega
        · have e : q = m := by omega
          subst e
          have HE : Hid (bt t = tabL nm cs (kk : Int) xs) := HTL.out t (by rw [HK.out, HD2.out])
          have HBw : Hid (Below w.heap.size w wr) := HA0.out.trans (hbl.mono HA0.out.size)
          go_wp2
          go_ret
          exact ⟨t, rfl, HE.out, HBw.out⟩
end Go.Proofs.YtkegckfanehgfaaGreatDoor
