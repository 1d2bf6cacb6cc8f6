/- impl's IndexKey (stage 9). -/
import Derived.Test.YtepkdodicglilaaGreatDoorIkC
namespace Go.Proofs.YtepkdodicglilaaGreatDoor
open Go.RowKit

theorem text_row {vs : List V3} (h : ∀ v ∈ vs, okV3 v = true) : ∀ i, i < vs.length → (nthV vs i).2.2.size ≤ maxLen := fun _ hi => text_ok (h _ (nth_mem hi))
set_option maxRecDepth 100000 in
set_option maxHeartbeats 4000000 in
theorem implIndexKey_any (nm : ByteArray) (ca xa : Option Addr) (cc xc : Nat) (cs : List TC) (key : Int) (xs : List TX) (ix : Int) (a : Option Addr) (cap : Nat) (vs : List V3) (tb : Bool) (w : World) (hC : RowC w ca cs) (hX : RowX w xa xs) (hV : RowV w a vs) (lc : cs.length ≤ 1048576) (_ : xs.length ≤ 1048576) (lv : vs.length ≤ 1048576) (hcap : vs.length ≤ cap) (hkey : tb = true → KeyH cs key xs) (hT : TabAns 56 w (TbA4 nm (.slice ca cs.length cc) key (.slice xa xs.length xc)) tb) (hg : ErrT w) :
    Calls Tryz.prog 22 #[TbA4 nm (.slice ca cs.length cc) key (.slice xa xs.length xc), .int .i64 ix, .slice a vs.length cap] w fun e w' => ∃ a2 c, e = .returned (.tuple #[.slice a2 (ikB tb cs key xs vs ix).length c, .int .i64 (ikC tb cs vs ix xs.length)]) ∧ NewB w.heap.size a2 (ikB tb cs key xs vs ix).length ∧ OwnB w' a2 (ikB tb cs key xs vs ix).length (byteVal (ikB tb cs key xs vs ix)) ∧ Below w.heap.size w w' := by
  obtain ⟨W0, hW0⟩ : ∃ W0, w.alloc (.cells #[.string nm, .slice ca cs.length cc, .int .i64 key, .slice xa xs.length xc] 34) = W0 := ⟨_, rfl⟩
  have B0 : Below w.heap.size w W0 := hW0 ▸ (Below.refl _ _).alloc (Nat.le_refl _) _
  have XB : Hid (W0.heap[w.heap.size]? = some (.cells #[.string nm, .slice ca cs.length cc, .int .i64 key, .slice xa xs.length xc] 34 (0, 0))) := (hW0 ▸ heap_new' _ _ _ rfl : W0.heap[w.heap.size]? = _)
  have l0 : w.heap.size < W0.heap.size := by rw [← hW0]; simp
  have C0 : Hid (∀ {w1 : World}, Below W0.heap.size W0 w1 → w1.cell? ⟨w.heap.size, 0, none⟩ = some (.string nm) ∧ w1.cell? ⟨w.heap.size, 1, none⟩ = some (.slice ca cs.length cc) ∧ w1.cell? ⟨w.heap.size, 2, none⟩ = some (.int .i64 key) ∧ w1.cell? ⟨w.heap.size, 3, none⟩ = some (.slice xa xs.length xc)) := fun {w1} b => by
    have e : w1.heap[w.heap.size]? = _ := (b.block _ l0).trans XB.out
    exact ⟨slab_cell e, slab_cell e, slab_cell e, slab_cell e⟩
  obtain ⟨q0, q1, q2, q3⟩ := C0.out (Below.refl _ _)
  have HK := checkRow_any nm ca cc cs key (.slice xa xs.length xc) a cap vs tb W0 (hC.below B0) (hV.below B0) lc lv (fun w1 b => hT w1 (B0.trans (b.mono B0.size)))
  have HG : Hid (∀ W, Below w.heap.size w W → ErrT W) := fun W b => hg.below b hg.2
  have HCO : Hid ((codeE (crowE tb cs vs)).getD 0 = (crow tb cs vs).1) := (crowE_code tb cs vs).1
  obtain ⟨E, hE⟩ : ∃ E, crowE tb cs vs = E := ⟨_, rfl⟩
  rw [hE] at HK HCO
  clear hE
  by_cases hz : (crow tb cs vs).1 = 0
  · obtain ⟨htb, hok, hlen⟩ := crow_ok hz
    rw [hz] at HCO
    by_cases hin : 0 ≤ ix ∧ ix < xs.length
    · obtain ⟨p, rfl⟩ : ∃ p : Nat, ix = (p : Int) := ⟨ix.toNat, by omega⟩
      have hpl : p < xs.length := by omega
      have hplI : (p : Int) < (xs.length : Int) := by omega
      have hp0 : ¬ (p : Int) < 0 := by omega
      have hCc : ikC tb cs vs (p : Int) xs.length = 0 := by unfold ikC; rw [if_pos hz, if_pos ⟨by omega, by omega⟩]
      have hB : ikB tb cs key xs vs (p : Int) = encKey (pick (nthX xs p).2 vs) ++ encKey (vs.take key.toNat) := by unfold ikB; rw [if_pos hCc]; rfl
      obtain ⟨⟨hk1, hk2⟩, hjj⟩ := hkey htb
      obtain ⟨hj8, hjr⟩ := hjj p hpl
      obtain ⟨k0, rfl, hk⟩ : ∃ k0 : Nat, key = (k0 : Int) ∧ k0 ≤ vs.length := ⟨key.toNat, by omega, by omega⟩
      rw [show ((k0 : Int)).toNat = k0 from rfl] at hB
      have h8 := (okRow_all hok).1
      have hallP : ∀ v ∈ pick (nthX xs p).2 vs, okV3 v = true := pick_ok (fun k hk => by have := hjr k hk; omega) (okRow_all hok).2
      have hokP : okRow (pick (nthX xs p).2 vs) = true := okRow_mk (by rw [pick_len]; exact hj8) hallP
      have hokT := okRow_take hok k0
      have e1 : (vs.take k0).length = k0 := by rw [List.length_take]; omega
      obtain ⟨ib, io, ia, ic, rfl, hlb, ⟨i0, i1⟩, hI, _⟩ := (hX.below B0) p hpl
      have HKB : Hid (∀ W, Below w.heap.size w W → Calls Tryz.prog 39 #[.slice a k0 cap] W fun e w' => ∃ g c, e = .returned (.tuple #[.slice (some ⟨g, 0, none⟩) (encKey (vs.take k0)).length c, .int .i64 0]) ∧ W.heap.size ≤ g ∧ OwnB w' (some ⟨g, 0, none⟩) (encKey (vs.take k0)).length (byteVal (encKey (vs.take k0))) ∧ Below W.heap.size W w') := fun W b => by
        have := implKeyBytes_ok a cap (vs.take k0) W ((hV.below b).take k0) hokT
        rw [e1] at this
        exact this
      have HKP : Hid (∀ W v, OwnV W W0.heap.size v (pick (nthX xs p).2 vs) → Calls Tryz.prog 39 #[v] W fun e w' => ∃ g c, e = .returned (.tuple #[.slice (some ⟨g, 0, none⟩) (encKey (pick (nthX xs p).2 vs)).length c, .int .i64 0]) ∧ W.heap.size ≤ g ∧ OwnB w' (some ⟨g, 0, none⟩) (encKey (pick (nthX xs p).2 vs)).length (byteVal (encKey (pick (nthX xs p).2 vs))) ∧ Below W.heap.size W w') := fun W v ho => by
        obtain ⟨a2, c2, rfl, hrow⟩ := ho.row (text_row hallP)
        exact implKeyBytes_ok a2 c2 _ W hrow hokP
      have HR : Hid (∀ W, Below W0.heap.size W0 W → RowI W ia (nthX xs p).2 ∧ RowV W a vs) := fun W b => ⟨hI.below b, (hV.below B0).below b⟩
      have HIR : Hid (∀ k, k < (nthX xs p).2.length → 0 ≤ nthI (nthX xs p).2 k ∧ nthI (nthX xs p).2 k < vs.length) := fun k hk => by have := hjr k hk; omega
      have HBL : Hid (BytesL (encKey (pick (nthX xs p).2 vs)) ∧ BytesL (encKey (vs.take k0)) ∧ BytesL (encKey (pick (nthX xs p).2 vs) ++ encKey (vs.take k0)) ∧ (encKey (pick (nthX xs p).2 vs)).length ≤ 2048 ∧ (encKey (vs.take k0)).length ≤ 2048) :=
        ⟨encKey_bytes hokP, encKey_bytes hokT, fun x hx => by
          rcases List.mem_append.1 hx with h | h
          · exact encKey_bytes hokP x h
          · exact encKey_bytes hokT x h, Nat.le_trans (encKey_short hokP) (by omega), Nat.le_trans (encKey_short hokT) (by omega)⟩
      have hcapk : k0 ≤ cap := by omega
      have hCX : Hid (W0.cell? ⟨ib, io + p * 2 + 1, none⟩ = some (.slice ia (nthX xs p).2.length ic) ∧ ib < W0.heap.size) := ⟨i1, hlb⟩
      rw [hB, hCc]
      obtain ⟨m, hm⟩ : ∃ m, (nthX xs p).2.length = m := ⟨_, rfl⟩
      obtain ⟨n, hn⟩ : ∃ n, vs.length = n := ⟨_, rfl⟩
      have HN : Hid ((nthX xs p).2.length = m ∧ vs.length = n) := ⟨hm, hn⟩
      rw [hm] at hCX hj8
      rw [hn] at hk hcap h8 HK ⊢
      clear hm hn hz hC hX hV hT hB hCc hkey hok htb hlen hjj hjr hallP hokP hokT e1 i0 i1 hI hg hk1 hk2 hin
      generalize (nthX xs p).2 = is at *
      generalize encKey (vs.take k0) = kT at *
      obtain ⟨kP, hkP⟩ : ∃ kP, encKey (pick is vs) = kP := ⟨_, rfl⟩
      rw [hkP] at HKP HBL ⊢
      clear hkP
      go_enter Tryz.func22, Tryz.ntmps22
      go_wp2_with fail
      refine HK.mono ?_
      rintro e w1 ⟨rfl, b1⟩
      have B1 := B0.trans (b1.mono B0.size)
      clear HK q0 q1 q2 q3
      have hcd := codeIn_any E w1 (HG.out _ B1)
      rw [HCO.out] at hcd
      go_wp2_with fail
      refine hcd.mono ?_
      rintro e w2 ⟨rfl, b2⟩
      have B02 : Below W0.heap.size W0 w2 := b1.trans (b2.mono b1.size)
      have B2 := B1.trans (b2.mono B1.size)
      obtain ⟨q0, q1, q2, q3⟩ := C0.out B02
      have i1 : w2.cell? ⟨ib, io + p * 2 + 1, none⟩ = some (.slice ia m ic) := (B02.cell (p := ⟨ib, io + p * 2 + 1, none⟩) hCX.out.2).trans hCX.out.1
      have O0 : Hid (OwnV w2 W0.heap.size (.slice none 0 0) (pick (is.take 0) vs)) := OwnV.nil _ _
      clear hcd b1 b2
      have hd1 : decide ((p : Int) < 0) = false := by simp
      have hd2 : decide (xs.length ≤ p) = false := by simp; omega
      go_wp2
      go_loopw [9, 39] (fun o i wr => ∃ k : Nat, k ≤ m ∧ i = .int .i64 k ∧ Hid (OwnV wr W0.heap.size o (pick (is.take k) vs)) ∧ Below W0.heap.size W0 wr) (fun _ i _ => m - (intOf i).toNat)
      case atStart => exact ⟨0, by omega, rfl, O0, B02⟩
      case round =>
        obtain ⟨k, hk2, rfl, HO, hbl⟩ := hrel
        clear q0 q1 q2 q3 i1 O0
        have BR := B0.trans (hbl.mono B0.size)
        obtain ⟨q0, q1, q2, q3⟩ := C0.out hbl
        by_cases hlt : k < m
        · have hltI : (k : Int) < (m : Int) := by omega
          have hkl : k < is.length := by rw [HN.out.1]; exact hlt
          obtain ⟨jb, jo, rfl, hlb2, hci⟩ := (HR.out _ hbl).1 k hkl
          obtain ⟨r, hr⟩ : ∃ r : Nat, nthI is k = (r : Int) := ⟨(nthI is k).toNat, by have := (HIR.out k hkl).1; omega⟩
          have hrn : r < n := by have := (HIR.out k hkl).2; rw [HN.out.2] at this; omega
          have hrnI : (r : Int) < (n : Int) := by omega
          have HPS : Hid (pick (is.take (k + 1)) vs = pick (is.take k) vs ++ [nthV vs r]) := pick_snoc hkl hr
          obtain ⟨vb, vo, e', hlb', ⟨d0, d1, d2⟩, hsz⟩ := (HR.out _ hbl).2 r (by rw [HN.out.2]; exact hrn)
          cases e'
          rw [hr] at hci
          have hpl2 : (pick (is.take k) vs).length ≤ 8 := by rw [pick_len, List.length_take]; omega
          have AL : Below wr.heap.size wr (wr.alloc (.cells #[.int .i64 (nthV vs r).1, .int .i64 (nthV vs r).2.1, .string (nthV vs r).2.2] 59)) := (Below.refl _ _).alloc (Nat.le_refl _) _
          obtain ⟨v', w', hr3, o, g⟩ := app_V u9 (pick (is.take k) vs) [nthV vs r] _ W0.heap.size wr.heap.size 0 1 (HO.out.below AL) (by simp; omega) (oneV wr (nthV vs r) hsz) (Nat.le_trans hbl.size AL.size)
          have HO' : Hid (OwnV w' W0.heap.size v' (pick (is.take (k + 1)) vs)) := by show OwnV _ _ _ _; rw [HPS.out]; exact o
          have hB : Below W0.heap.size W0 w' := grownV (below_step hbl (Nat.le_refl _) AL) (Nat.le_trans hbl.size AL.size) (HO.out.below AL) g
          have hr' : Sem.run Tryz.prog (Builtin.append_ #[36, 36] 36 #[u9, .slice (some ⟨wr.heap.size, 0, none⟩) 1 1]) (wr.alloc (.cells #[.int .i64 (nthV vs r).1, .int .i64 (nthV vs r).2.1, .string (nthV vs r).2.2] 59)) = .ok v' w' := hr3
          clear o g HO hbl AL hr3 HPS hr hsz BR hpl2
          generalize nthV vs r = x at *
          obtain ⟨kx, nx, tx⟩ := x
          simp only at d0 d1 d2 hr'
          go_wp2_with (at_builtin; refine Lib.wpList_append_run _ rfl _ _ _ _ rfl _ _ rfl rfl _ _ hr' ?_)
          go_roundw
          case rel => exact ⟨k + 1, by omega, by go_num, HO', hB⟩
          case measure => simp [intOf]; omega
        · obtain rfl : k = m := by omega
          have HO2 : OwnV wr W0.heap.size u9 (pick is vs) := by have := HO.out; rw [List.take_of_length_le (by rw [HN.out.1]; exact Nat.le_refl _)] at this; exact this
          have HP := HKP.out wr u9 HO2
          clear HO HO2 HKP
          go_wp2_with fail
          refine HP.mono ?_
          rintro e w3 ⟨g3, c3, rfl, hg3, OP, b3⟩
          have L3 : Hid (g3 < w3.heap.size ∨ kP.length = 0) := by
            rcases OP with h | ⟨g, cur, lo, hi, e, hh, _⟩
            · exact .inr h
            · cases e; exact .inl (slab_lt hh)
          have HOP : Hid (ReadB w3 (some ⟨g3, 0, none⟩) kP.length (byteVal kP)) := OP.read
          have B03 : Below W0.heap.size W0 w3 := hbl.trans (b3.mono hbl.size)
          have B3 := B0.trans (B03.mono B0.size)
          clear q0 q1 q2 q3 HP OP b3 hbl BR
          obtain ⟨q0, q1, q2, q3⟩ := C0.out B03
          go_wp2_with fail
          refine (HKB.out _ B3).mono ?_
          rintro e w4 ⟨g4, c4, rfl, hg4, OT, b4⟩
          have HPT : Hid (ReadB w4 (some ⟨g3, 0, none⟩) kP.length (byteVal kP) ∧ ReadB w4 (some ⟨g4, 0, none⟩) kT.length (byteVal kT)) := ⟨HOP.out.below b4, OT.read⟩
          have B4 := B3.trans (b4.mono B3.size)
          clear q0 q1 q2 q3 OT b4 HOP
          obtain ⟨W4, hW4⟩ : ∃ W4, w4.alloc (.cells #[.slice (some ⟨g3, 0, none⟩) kP.length c3, .slice (some ⟨g4, 0, none⟩) kT.length c4] 41) = W4 := ⟨_, rfl⟩
          have A4 : Below w4.heap.size w4 W4 := hW4 ▸ (Below.refl _ _).alloc (Nat.le_refl _) _
          have X4 : W4.heap[w4.heap.size]? = some (.cells #[.slice (some ⟨g3, 0, none⟩) kP.length c3, .slice (some ⟨g4, 0, none⟩) kT.length c4] 41 (0, 0)) := hW4 ▸ heap_new' _ _ _ rfl
          have HC4 := concatB_any w4.heap.size g3 0 c3 g4 0 c4 kP kT W4 (slab_cell X4) (slab_cell X4) (slab_lt X4) HBL.out.1 HBL.out.2.1 (HPT.out.1.below A4) (HPT.out.2.below A4) HBL.out.2.2.2.1 HBL.out.2.2.2.2
          have B5 := B4.trans (A4.mono B4.size)
          clear X4 HPT A4
          go_wp2_with fail
          refine HC4.mono ?_
          rintro e w5 ⟨u, rfl, OU, b5⟩
          have B6 := B5.trans (b5.mono B5.size)
          obtain ⟨a5, c5, rfl, hnb, hob⟩ := OU.bytes HBL.out.2.2.1
          have HF : Hid (NewB w.heap.size a5 (kP ++ kT).length ∧ OwnB w5 a5 (kP ++ kT).length (byteVal (kP ++ kT)) ∧ Below w.heap.size w w5) := ⟨hnb.mono B5.size, hob, B6⟩
          clear HC4 OU b5 hnb hob B6 B5 B4 B3 B03
          go_wp2
          go_ret2
          exact ⟨a5, c5, by rw [List.length_append]; rfl, HF.out.1, HF.out.2.1, HF.out.2.2⟩
    · have hCc : ikC tb cs vs ix xs.length = 4 := by unfold ikC; rw [if_pos hz, if_neg hin]
      have hB : ikB tb cs key xs vs ix = [] := by unfold ikB; rw [hCc]; rfl
      rw [hB, hCc]
      clear hz hC hX hV hT hB hCc hkey hok htb hlen hg
      generalize vs.length = lvn at *
      by_cases hng : ix < 0
      · go_enter Tryz.func22, Tryz.ntmps22
        go_wp2_with fail
        refine HK.mono ?_
        rintro e w1 ⟨rfl, b1⟩
        have B1 := B0.trans (b1.mono B0.size)
        clear HK q0 q1 q2 q3
        have hcd := codeIn_any E w1 (HG.out _ B1)
        rw [HCO.out] at hcd
        go_wp2_with fail
        refine hcd.mono ?_
        rintro e w2 ⟨rfl, b2⟩
        have B2 := B1.trans (b2.mono B1.size)
        obtain ⟨q0, q1, q2, q3⟩ := C0.out (b1.trans (b2.mono b1.size))
        clear hcd b1 b2
        go_wp2
        go_ret2
        exact ⟨none, 0, rfl, .inl ⟨rfl, rfl⟩, .inl rfl, B2⟩
      · have hge : ¬ ix < (xs.length : Int) := by omega
        have hge2 : (xs.length : Int) ≤ ix := by omega
        go_enter Tryz.func22, Tryz.ntmps22
        go_wp2_with fail
        refine HK.mono ?_
        rintro e w1 ⟨rfl, b1⟩
        have B1 := B0.trans (b1.mono B0.size)
        clear HK q0 q1 q2 q3
        have hcd := codeIn_any E w1 (HG.out _ B1)
        rw [HCO.out] at hcd
        go_wp2_with fail
        refine hcd.mono ?_
        rintro e w2 ⟨rfl, b2⟩
        have B2 := B1.trans (b2.mono B1.size)
        obtain ⟨q0, q1, q2, q3⟩ := C0.out (b1.trans (b2.mono b1.size))
        clear hcd b1 b2
        go_wp2
        go_ret2
        exact ⟨none, 0, rfl, .inl ⟨rfl, rfl⟩, .inl rfl, B2⟩
  · have hCc : ikC tb cs vs ix xs.length = (crow tb cs vs).1 := by unfold ikC; rw [if_neg hz]
    have hB : ikB tb cs key xs vs ix = [] := by unfold ikB; rw [hCc, if_neg hz]
    rw [hB, hCc]
    obtain ⟨cd, hcd0⟩ : ∃ cd, (crow tb cs vs).1 = cd := ⟨_, rfl⟩
    rw [hcd0] at HCO hz ⊢
    have hzb : (cd != 0) = true := by simpa using hz
    clear hC hX hV hT hg hB hCc hkey hcd0
    generalize vs.length = lvn at *
    go_enter Tryz.func22, Tryz.ntmps22
    go_wp2_with fail
    refine HK.mono ?_
    rintro e w1 ⟨rfl, b1⟩
    have B1 := B0.trans (b1.mono B0.size)
    clear HK q0 q1 q2 q3
    have hcd := codeIn_any E w1 (HG.out _ B1)
    rw [HCO.out] at hcd
    go_wp2_with fail
    refine hcd.mono ?_
    rintro e w2 ⟨rfl, b2⟩
    have B2 := B1.trans (b2.mono B1.size)
    clear hcd b1 b2 hz
    go_wp2
    go_ret2
    exact ⟨none, 0, rfl, .inl ⟨rfl, rfl⟩, .inl rfl, B2⟩
end Go.Proofs.YtepkdodicglilaaGreatDoor
