/- impl's text of a table (stage 9). -/
import Derived.Test.YtkegckfanehgfaaGreatDoorTtE
namespace Go.Proofs.YtkegckfanehgfaaGreatDoor
open Go.RowKit

theorem digL_len (k : Nat) : (digL k).length = 1 := rfl
theorem idxL_len (cs : List TC) (x : TX) (h1 : x.1.size ≤ 40) (h2 : x.2.length ≤ 8) (h3 : ∀ j, j < x.2.length → (nthC cs (nthI x.2 j).toNat).1.size ≤ 40) : (idxL cs x).length ≤ 600 := by
  unfold idxL
  have := joinL_len (fun j => bt (nthC cs (nthI x.2 j).toNat).1) 40 x.2.length (fun j hj => by rw [bt_size]; exact h3 j hj)
  have : x.2.length * 42 ≤ 8 * 42 := Nat.mul_le_mul h2 (Nat.le_refl _)
  rw [List.length_append, List.length_append, List.length_append, List.length_append, bt_size]
  show 7 + _ + 1 + _ + 1 ≤ _
  omega
theorem idxsL_len {nm : ByteArray} {cs : List TC} {key : Int} {xs : List TX} (h : TabP nm cs key xs) : ∀ k, k ≤ xs.length → (idxsL cs xs k).length ≤ k * 600
  | 0, _ => by simp [idxsL]
  | k + 1, hk => by
    have h1 := idxsL_len h k (by omega)
    have g := h.idx (k := k) (by omega)
    have h2 := idxL_len cs (nthX xs k) g.1 g.2.1 (fun j hj => (g.2.2 j hj).2.2)
    rw [idxsL, List.length_append, Nat.add_mul]
    omega
theorem colsL_len {nm : ByteArray} {cs : List TC} {key : Int} {xs : List TX} (h : TabP nm cs key xs) : ∀ k, k ≤ cs.length → (joinL (fun j => colL (nthC cs j)) k).length ≤ 600 := fun k hk => by
  have := joinL_len (fun j => colL (nthC cs j)) 60 k (fun j hj => colL_len _ (h.col j (by omega)).1)
  have : k * 62 ≤ 8 * 62 := Nat.mul_le_mul (by have := h.2.1; omega) (Nat.le_refl _)
  omega

set_option maxRecDepth 100000 in
set_option maxHeartbeats 8000000 in
theorem implText_any (nm : ByteArray) (ca xa : Option Addr) (cc xc : Nat) (cs : List TC) (key : Int) (xs : List TX) (w : World) (hC : RowC w ca cs) (hX : RowX w xa xs) (hs : nm.size ≤ maxLen) (lc : cs.length ≤ 1048576) (lx : xs.length ≤ 1048576) (hz : ∀ i, i < xs.length → SmallX (nthX xs i)) (kc : cs.length ≤ cc) (kx : xs.length ≤ xc) (hW : Wrd w) :
    Calls Tryz.prog 7 #[TbV nm (.slice ca cs.length cc) key (.slice xa xs.length xc)] w fun e w' => e = .returned (retT nm cs key xs) ∧ Below w.heap.size w w' := by
  have HR : Hid (RowC w ca cs ∧ RowX w xa xs ∧ Wrd w) := ⟨hC, hX, hW⟩
  obtain ⟨V0, hV0⟩ : ∃ V0, w.alloc (.cells #[.string nm, .slice ca cs.length cc, .int .i64 key, .slice xa xs.length xc] 32) = V0 := ⟨_, rfl⟩
  have A0 : Below w.heap.size w V0 := hV0 ▸ (Below.refl _ _).alloc (Nat.le_refl _) _
  have XA : Hid (V0.heap[w.heap.size]? = some (.cells #[.string nm, .slice ca cs.length cc, .int .i64 key, .slice xa xs.length xc] 32 (0, 0))) := (hV0 ▸ heap_new' _ _ _ rfl : V0.heap[w.heap.size]? = _)
  have c0 : V0.cell? ⟨w.heap.size, 0, none⟩ = some (.string nm) := slab_cell XA.out
  have c1 : V0.cell? ⟨w.heap.size, 1, none⟩ = some (.slice ca cs.length cc) := slab_cell XA.out
  have c2 : V0.cell? ⟨w.heap.size, 2, none⟩ = some (.int .i64 key) := slab_cell XA.out
  have c3 : V0.cell? ⟨w.heap.size, 3, none⟩ = some (.slice xa xs.length xc) := slab_cell XA.out
  have hcall := implTableOK_any nm ca xa cc xc cs key xs V0 (hC.below A0) (hX.below A0) hs lc lx hz kc kx
  clear hC hX hW hs lc lx hz kc kx
  go_enter Tryz.func7, Tryz.ntmps7
  go_wp2_with fail
  refine hcall.mono ?_
  rintro e W1 ⟨rfl, b1⟩
  have B1 : Below w.heap.size w W1 := below_step A0 (Nat.le_refl _) b1
  have XB : Hid (W1.heap[w.heap.size]? = some (.cells #[.string nm, .slice ca cs.length cc, .int .i64 key, .slice xa xs.length xc] 32 (0, 0))) := (b1.block _ (slab_lt XA.out)).trans XA.out
  clear hcall c0 c1 c2 c3 A0 b1 XA hV0 V0
  by_cases hP : TabP nm cs key xs
  case neg =>
    rw [← asB_false hP]
    have HE : Hid (retT nm cs key xs = _) := retT_false hP
    clear hP
    go_wp2
    go_ret2
    exact ⟨ret_val HE.out.symm, B1⟩
  rw [← asB_true hP]
  have HP : Hid (TabP nm cs key xs) := hP
  have HI : Hid (RowC W1 ca cs ∧ RowX W1 xa xs ∧ Wrd W1) := ⟨HR.out.1.below B1, HR.out.2.1.below B1, HR.out.2.2.below B1⟩
  have HB1 : Hid (Below w.heap.size w W1) := B1
  have hn8 := hP.2.1
  have hm4 := hP.2.2.1
  have hk1 := hP.2.2.2.1
  have hk8 := hP.2.2.2.2.1
  have hns : nm.size ≤ 40 := givenB_size hP.1
  have HL : Hid ((bt nm ++ [40] ++ joinL (fun j => colL (nthC cs j)) cs.length ++ [41] ++ ([32, 107, 101, 121, 32] ++ digL key.toNat)).length ≤ 2000) := by
    show _ ≤ _
    have := colsL_len hP cs.length (Nat.le_refl _)
    rw [List.length_append, List.length_append, List.length_append, List.length_append, List.length_append, bt_size, digL_len]
    show _ + 1 + _ + 1 + (5 + 1) ≤ _
    omega
  obtain ⟨kk, rfl⟩ := Int.eq_ofNat_of_zero_le (show 0 ≤ key by omega)
  rw [Int.toNat_natCast] at HL
  have hkk : kk < 10 := by omega
  have hwl : w.heap.size < W1.heap.size := slab_lt XB.out
  obtain ⟨W2, hW2⟩ : ∃ W2, W1.alloc (.cells #[.pointer none, .slice none 0 0] 45) = W2 := ⟨_, rfl⟩
  have B2 : Below W1.heap.size W1 W2 := hW2 ▸ (Below.refl _ _).alloc (Nat.le_refl _) _
  have hF : Bd W1.heap.size W1.heap.size [] W2 := hW2 ▸ Lib.fresh_isBuilder 45 5 W1
  have HBox : Hid (∀ w', Below W1.heap.size W1 w' → w'.heap[w.heap.size]? = some (.cells #[.string nm, .slice ca cs.length cc, .int .i64 (kk : Int), .slice xa xs.length xc] 32 (0, 0))) := fun w' hb => (hb.block _ hwl).trans XB.out
  have y0 : W1.cell? ⟨w.heap.size, 0, none⟩ = some (.string nm) := slab_cell XB.out
  have y1 : W1.cell? ⟨w.heap.size, 1, none⟩ = some (.slice ca cs.length cc) := slab_cell XB.out
  have x0 : W2.cell? ⟨w.heap.size, 0, none⟩ = some (.string nm) := slab_cell (HBox.out _ B2)
  clear hP B1 XB HR
  go_wp2_with fail
  refine (bd_string W1.heap.size W1.heap.size [] nm W2 hF (by simp) (by omega) B2.size).mono ?_
  rintro e W3 ⟨v3, rfl, h3, b3, o3⟩
  have B3 := B2.trans b3
  have x1 : W3.cell? ⟨w.heap.size, 1, none⟩ = some (.slice ca cs.length cc) := slab_cell (HBox.out _ B3)
  rw [List.nil_append] at h3
  clear o3 hF B2 b3 x0 hW2 W2
  go_wp2_with fail
  refine (listCol_any W1 W1.heap.size (bt nm) ca cc cs W3 HI.out.1 HI.out.2.2 B3 h3 (by rw [bt_size]; omega) hn8 HP.out.col).mono ?_
  rintro e W4 ⟨rfl, h4, b4⟩
  have B4 := B3.trans b4
  have x2 : W4.cell? ⟨w.heap.size, 2, none⟩ = some (.int .i64 (kk : Int)) := slab_cell (HBox.out _ B4)
  clear h3 B3 b4 x1
  have hit := fun wx => Tryz.strconv_Itoa_small kk (by omega) wx
  rw [itoa_dig hkk] at hit
  obtain ⟨s1, e1, A1⟩ := addE ⟨#[32, 107, 101, 121, 32]⟩ (tx (digL kk)) (by rw [tx_size, digL_len]; show 5 + 1 ≤ _; omega)
  have z1 := size_bt e1
  rw [List.length_append, bt_tx, digL_len] at z1
  have HS1 : Hid (bt s1 = [32, 107, 101, 121, 32] ++ digL kk) := e1
  have HLa := HL.out
  rw [List.length_append] at HLa
  have HJ : Hid ((bt nm ++ [40] ++ joinL (fun j => colL (nthC cs j)) cs.length ++ [41]).length ≤ 2000) := by show _ ≤ _; omega
  clear e1 HLa
  change ∀ wx, Calls Tryz.prog 19 #[.int .i64 (kk : Int)] wx fun e w' => e = .returned (.string (tx (digL kk))) ∧ w' = wx at hit
  generalize tx (digL kk) = sd at *
  go_wp2_with fail
  refine (hit _).mono ?_
  rintro e w' ⟨rfl, hq⟩
  obtain rfl := hq.symm
  clear hq hit
  go_wp2_with fail
  refine (bd_string W1.heap.size W1.heap.size _ s1 W4 h4 (by have := HJ.out; omega) (by rw [z1]; show 5 + 1 ≤ _; omega) B4.size).mono ?_
  rintro e W5 ⟨v5, rfl, h5, b5, o5⟩
  have B5 := B4.trans b5
  have H5 : Hid (Bd W1.heap.size W1.heap.size (bt nm ++ [40] ++ joinL (fun j => colL (nthC cs j)) cs.length ++ [41] ++ ([32, 107, 101, 121, 32] ++ digL kk)) W5) := h5.eq (by rw [HS1.out])
  have x3 : W5.cell? ⟨w.heap.size, 3, none⟩ = some (.slice xa xs.length xc) := slab_cell (HBox.out _ B5)
  clear o5 h4 B4 b5 h5 x2 A1 z1 HS1 HJ
  have HT : Hid (tabL nm cs (kk : Int) xs = (bt nm ++ [40] ++ joinL (fun j => colL (nthC cs j)) cs.length ++ [41] ++ ([32, 107, 101, 121, 32] ++ digL kk)) ++ idxsL cs xs xs.length) := by show _ = _; unfold tabL; rw [Int.toNat_natCast]; simp
  generalize (bt nm ++ [40] ++ joinL (fun j => colL (nthC cs j)) cs.length ++ [41] ++ ([32, 107, 101, 121, 32] ++ digL kk)) = pl at *
  generalize hN : xs.length = m at *
  have HN : Hid (xs.length = m) := hN
  clear hN hk1 hk8 hns hn8 hkk
  have H5' : Hid (Bd W1.heap.size W1.heap.size (pl ++ idxsL cs xs 0) W5) := H5.out.eq (by simp [idxsL])
  have HQ : Hid (Below W1.heap.size W1 W5) := B5
  have HY : Hid (W1.cell? ⟨w.heap.size, 1, none⟩ = some (.slice ca cs.length cc) ∧ RowC W1 ca cs ∧ w.heap.size < W1.heap.size) := ⟨y1, HI.out.1, hwl⟩
  clear H5 B5 y0 y1
  go_wp2
  go_loopw [24] (fun i wr => ∃ k : Nat, k ≤ m ∧ i = .int .i64 k ∧ Hid (Bd W1.heap.size W1.heap.size (pl ++ idxsL cs xs k) wr) ∧ Below W1.heap.size W5 wr) (fun i _ => m - (intOf i).toNat)
  case atStart => exact ⟨0, by omega, rfl, H5'.out, Below.refl _ _⟩
  case round =>
    obtain ⟨k, hk, rfl, HK, hbl⟩ := hrel
    have HB : Hid (Below W1.heap.size W1 wr) := HQ.out.trans hbl
    by_cases hlt : k < m
    · have hltI : (k : Int) < (m : Int) := by omega
      have hbw := HK.out.lt
      obtain ⟨b', off, ia, ic, rfl, hlb, ⟨p0, p1⟩, hri, _⟩ := HI.out.2.1 k (by rw [HN.out]; exact hlt)
      have q0 := (HB.out.cell (p := ⟨b', off + k * 2, none⟩) hlb).trans p0
      have q1 := (HB.out.cell (p := ⟨b', off + k * 2 + 1, none⟩) hlb).trans p1
      have HX := HP.out.idx (k := k) (by rw [HN.out]; exact hlt)
      have HLk : Hid ((pl ++ idxsL cs xs k).length ≤ 10000) := by
        have h1 := idxsL_len HP.out k (by rw [HN.out]; omega)
        have h2 := HL.out
        show _ ≤ _
        rw [List.length_append]
        have : k * 600 ≤ 4 * 600 := Nat.mul_le_mul (by omega) (Nat.le_refl _)
        omega
      have HJ : Hid (pl ++ idxsL cs xs (k + 1) = (pl ++ idxsL cs xs k) ++ idxL cs (nthX xs k)) := by show _ = _; rw [idxsL, List.append_assoc]
      generalize hk1 : pl ++ idxsL cs xs (k + 1) = lk1 at *
      have HK1 : Hid (pl ++ idxsL cs xs (k + 1) = lk1) := hk1
      clear hk1 p0 p1
      generalize pl ++ idxsL cs xs k = lk at *
      generalize nthX xs k = xk at *
      obtain ⟨xn, is⟩ := xk
      simp only at q0 q1 hri HX
      obtain ⟨s2, e2, A2⟩ := addE ⟨#[32, 105, 110, 100, 101, 120, 32]⟩ xn (by show 7 + _ ≤ _; have := HX.1; omega)
      have z2 := size_bt e2
      rw [List.length_append, bt_size, bt_size] at z2
      have HE2 : Hid (bt s2 = [32, 105, 110, 100, 101, 120, 32] ++ bt xn) := e2
      obtain ⟨W6, hW6⟩ : ∃ W6, wr.alloc (.cells #[.string xn, .slice ia is.length ic] 57) = W6 := ⟨_, rfl⟩
      have B6 : Below wr.heap.size wr W6 := hW6 ▸ (Below.refl _ _).alloc (Nat.le_refl _) _
      have X6 : W6.heap[wr.heap.size]? = some (.cells #[.string xn, .slice ia is.length ic] 57 (0, 0)) := (hW6 ▸ heap_new' _ _ _ rfl : W6.heap[wr.heap.size]? = _)
      have x60 : W6.cell? ⟨wr.heap.size, 0, none⟩ = some (.string xn) := slab_cell X6
      have HB6 : Hid (Below W1.heap.size W1 W6) := below_step HB.out (Nat.le_refl _) B6
      have HBl6 : Hid (Below W1.heap.size W5 W6) := below_step hbl HQ.out.size B6
      have HK6 := HK.out.below B6
      have HS6 : W1.heap.size ≤ W6.heap.size := HB6.out.size
      clear e2 HK hbl HB B6
      go_wp2_with fail
      refine (bd_string W1.heap.size W1.heap.size lk s2 W6 HK6 (by have := HLk.out; omega) (by rw [z2]; show 7 + _ ≤ _; have := HX.1; omega) HS6).mono ?_
      rintro e w7 ⟨v7, rfl, h7, b7, o7⟩
      have X7 := o7 _ _ X6 (by intro e; have := Option.some.inj e; omega) (by intro c fz e; cases e)
      have x71 : w7.cell? ⟨wr.heap.size, 1, none⟩ = some (.slice ia is.length ic) := slab_cell X7
      have B7 := HB6.out.trans b7
      have HBl7 : Hid (Below W1.heap.size W5 w7) := HBl6.out.trans b7
      clear X6 X7 x60 HB6 HBl6 HK6 HS6 o7 b7 hW6 A2 q0 q1
      go_wp2_with fail
      refine (listInt_any W1 W1.heap.size (lk ++ bt s2) ia ic is cs ca cc w.heap.size w7 hri HY.out B7 h7 (by rw [List.length_append, bt_size, z2]; have := HLk.out; have := HX.1; show _ + (7 + _) ≤ _; omega) HX.2.1 HX.2.2).mono ?_
      rintro e w8 ⟨rfl, h8, b8⟩
      have HK8 : Hid (Bd W1.heap.size W1.heap.size lk1 w8) := h8.eq (by rw [HJ.out, HE2.out]; unfold idxL; simp)
      have HB8 : Hid (Below W1.heap.size W5 w8) := HBl7.out.trans b8
      clear h7 h8 b8 HBl7 B7 x71 HX hri
      go_wp2
      go_roundw
      case rel => exact ⟨k + 1, by omega, by go_num, HK1.out ▸ HK8.out, HB8.out⟩
      case measure => simp [intOf]; omega
    · have e : k = m := by omega
      subst e
      have HFB : Hid (Below w.heap.size w wr) := HB1.out.trans (HB.out.mono HB1.out.size)
      have hS : W1.heap.size ≤ wr.heap.size := HB.out.size
      go_wp2_with fail
      refine (Tryz.Builder_String_any W1.heap.size W1.heap.size _ wr HK.out hS).mono ?_
      rintro e w9 ⟨rfl, b9⟩
      have HF9 : Hid (Below w.heap.size w w9) := HFB.out.trans (b9.mono HB1.out.size)
      have HE : Hid (retT nm cs (kk : Int) xs = .tuple #[.string ⟨(pl ++ idxsL cs xs k).toArray⟩, .int .i64 0]) := retT_true HP.out (by rw [HT.out]; rfl)
      clear b9 HK HFB
      generalize (⟨(pl ++ idxsL cs xs k).toArray⟩ : ByteArray) = sr at *
      go_wp2
      go_ret2
      exact ⟨ret_val HE.out.symm, HF9.out⟩
end Go.Proofs.YtkegckfanehgfaaGreatDoor
