/- impl's checkRow and CheckRow (stage 11). -/
import Derived.Test.YtepkdodicglilaaGreatDoorCrC
namespace Go.Proofs.YtepkdodicglilaaGreatDoor
open Go.RowKit

/-- What stands while impl looks at a cell. -/
abbrev StJ (W : World) (nb : Nat) (c : TC) (b2 o2 : Nat) (v : V3) (w' : World) : Prop := CellC w' nb 0 c ∧ CellV w' b2 o2 v ∧ nb < w'.heap.size ∧ b2 < w'.heap.size ∧ Below W.heap.size W w'
theorem StJ.keep {W : World} {nb : Nat} {c : TC} {b2 o2 : Nat} {v : V3} {w1 w2 : World} (h : StJ W nb c b2 o2 v w1) (hb : Below w1.heap.size w1 w2) : StJ W nb c b2 o2 v w2 :=
  ⟨h.1.below h.2.2.1 hb, h.2.1.below h.2.2.2.1 hb, Nat.lt_of_lt_of_le h.2.2.1 hb.size, Nat.lt_of_lt_of_le h.2.2.2.1 hb.size, below_step h.2.2.2.2 (Nat.le_refl _) hb⟩
set_option maxRecDepth 100000 in
set_option maxHeartbeats 4000000 in
theorem checkRow_any (nm : ByteArray) (ca : Option Addr) (cc : Nat) (cs : List TC) (key : Int) (xv : Value) (a : Option Addr) (cap : Nat) (vs : List V3) (tb : Bool) (w : World) (hC : RowC w ca cs) (hV : RowV w a vs) (lc : cs.length ≤ 1048576) (lv : vs.length ≤ 1048576) (hT : TabAns 56 w (TbA4 nm (.slice ca cs.length cc) key xv) tb) :
    Calls Tryz.prog 32 #[TbA4 nm (.slice ca cs.length cc) key xv, .slice a vs.length cap] w fun e w' => e = .returned (erV (crowE tb cs vs)) ∧ Below w.heap.size w w' := by
  have HC : Hid (RowC w ca cs ∧ RowV w a vs) := ⟨hC, hV⟩
  have HV : Hid (vs.length ≤ 4096 → ∀ w1, Below w.heap.size w w1 → Calls Tryz.prog 57 #[.slice a vs.length cap] w1 fun e w' => e = .returned (.bool (okRow vs)) ∧ Below w1.heap.size w1 w') := fun h w1 b => rowOK_any a cap vs w1 (hV.below b) h
  have HT : Hid (TabAns 56 w (TbA4 nm (.slice ca cs.length cc) key xv) tb) := hT
  clear hC hV hT
  obtain ⟨n, hn⟩ : ∃ m, cs.length = m := ⟨_, rfl⟩
  obtain ⟨m, hm⟩ : ∃ m, vs.length = m := ⟨_, rfl⟩
  have HN : Hid (cs.length = n ∧ vs.length = m) := ⟨hn, hm⟩
  have HP : Hid (crowE tb cs vs = if 4096 < m then .code 2 else if (tb && okRow vs) = true then (if m ≠ n then .code 12 else if (rowF cs vs 0).1 = 0 then .nil else .col (rowF cs vs 0).2 (.code (rowF cs vs 0).1)) else .code 1) := by show _ = _; rw [← hm, ← hn]; rfl
  rw [hn] at HT lc ⊢
  rw [hm] at HV lv ⊢
  clear hn hm
  obtain ⟨W0, hW0⟩ : ∃ W0, w.alloc (.cells #[.string nm, .slice ca n cc, .int .i64 key, xv] 34) = W0 := ⟨_, rfl⟩
  have B0 : Below w.heap.size w W0 := hW0 ▸ (Below.refl _ _).alloc (Nat.le_refl _) _
  have XB : Hid (W0.heap[w.heap.size]? = some (.cells #[.string nm, .slice ca n cc, .int .i64 key, xv] 34 (0, 0))) := (hW0 ▸ heap_new' _ _ _ rfl : W0.heap[w.heap.size]? = _)
  have l0 : w.heap.size < W0.heap.size := by rw [← hW0]; simp
  have C0 : Hid (∀ {w1 : World}, Below W0.heap.size W0 w1 → w1.cell? ⟨w.heap.size, 0, none⟩ = some (.string nm) ∧ w1.cell? ⟨w.heap.size, 1, none⟩ = some (.slice ca n cc) ∧ w1.cell? ⟨w.heap.size, 2, none⟩ = some (.int .i64 key) ∧ w1.cell? ⟨w.heap.size, 3, none⟩ = some xv) := fun {w1} b => by
    have e : w1.heap[w.heap.size]? = _ := (b.block _ l0).trans XB.out
    exact ⟨slab_cell e, slab_cell e, slab_cell e, slab_cell e⟩
  obtain ⟨q0, q1, q2, q3⟩ := C0.out (Below.refl _ _)
  by_cases h1 : 4096 < m
  · have HQ : Hid (crowE tb cs vs = .code 2) := by show _ = _; rw [HP.out, if_pos h1]
    have h1I : (4096 : Int) < (m : Int) := by omega
    go_enter Tryz.func32, Tryz.ntmps32
    go_wp2
    go_ret
    exact ⟨by rw [HQ.out]; rfl, B0⟩
  have HP2 : Hid (crowE tb cs vs = if (tb && okRow vs) = true then (if m ≠ n then .code 12 else if (rowF cs vs 0).1 = 0 then .nil else .col (rowF cs vs 0).2 (.code (rowF cs vs 0).1)) else .code 1) := by show _ = _; rw [HP.out, if_neg h1]
  have h1I : ¬ (4096 : Int) < (m : Int) := by omega
  have HV2 : Hid (∀ w1, Below w.heap.size w w1 → Calls Tryz.prog 57 #[.slice a m cap] w1 fun e w' => e = .returned (.bool (okRow vs)) ∧ Below w1.heap.size w1 w') := HV.out (by omega)
  clear HP h1 HV
  go_enter Tryz.func32, Tryz.ntmps32
  go_wp2_with fail
  refine (HT.out _ B0).mono ?_
  rintro e w1 ⟨rfl, b1⟩
  have B1 := B0.trans (b1.mono B0.size)
  clear q0 q1 q2 q3
  obtain ⟨q0, q1, q2, q3⟩ := C0.out b1
  cases tb with
  | false =>
    have HQ : Hid (crowE false cs vs = .code 1) := by show _ = _; rw [HP2.out]; rfl
    go_wp2
    go_ret
    exact ⟨by rw [HQ.out]; rfl, B1⟩
  | true =>
    go_wp2_with fail
    refine (HV2.out _ B1).mono ?_
    rintro e w2 ⟨rfl, b2⟩
    have B2 := B1.trans (b2.mono B1.size)
    have bb := b1.trans (b2.mono b1.size)
    clear q0 q1 q2 q3
    obtain ⟨q0, q1, q2, q3⟩ := C0.out bb
    have HP3 : Hid (crowE true cs vs = if okRow vs = true then (if m ≠ n then .code 12 else if (rowF cs vs 0).1 = 0 then .nil else .col (rowF cs vs 0).2 (.code (rowF cs vs 0).1)) else .code 1) := HP2.out
    clear HP2 HV2
    generalize okRow vs = ov at *
    cases ov with
    | false =>
      have HQ : Hid (crowE true cs vs = .code 1) := HP3.out
      go_wp2
      go_ret
      exact ⟨by rw [HQ.out]; rfl, B2⟩
    | true =>
      have HP4 : Hid (crowE true cs vs = if m ≠ n then .code 12 else if (rowF cs vs 0).1 = 0 then .nil else .col (rowF cs vs 0).2 (.code (rowF cs vs 0).1)) := HP3.out
      clear HP3
      by_cases hmn : m = n
      · subst hmn
        have HQ : Hid (crowE true cs vs = if (rowF cs vs 0).1 = 0 then .nil else .col (rowF cs vs 0).2 (.code (rowF cs vs 0).1)) := by show _ = _; rw [HP4.out, if_neg (by simp)]
        clear HP4
        have BB : Hid (Below W0.heap.size W0 w2) := bb
        clear bb b1 b2 B1
        go_wp2
        go_loopw [34] (fun i wr => ∃ k : Nat, k ≤ m ∧ i = .int .i64 k ∧ Hid (∀ j, j < k → ccV (nthC cs j) (nthV vs j) = 0) ∧ Below w2.heap.size w2 wr) (fun i _ => m - (intOf i).toNat)
        case atStart => exact ⟨0, by omega, rfl, fun i hi => by omega, Below.refl _ _⟩
        case round =>
          obtain ⟨k, hk, rfl, HA, hbl⟩ := hrel
          have hB := B2.trans (hbl.mono B2.size)
          clear q0 q1 q2 q3
          by_cases hlt : k < m
          · obtain ⟨b1, o1, rfl, hlb1, ⟨p0, p1, p2⟩, _⟩ := (HC.out.1.below hB) k (by rw [HN.out.1]; exact hlt)
            obtain ⟨b2, o2, rfl, hlb2, hc2, _⟩ := (HC.out.2.below hB) k (by rw [HN.out.2]; exact hlt)
            have HH : Hid (ccV (nthC cs k) (nthV vs k) ≠ 0 → rowF cs vs 0 = (ccV (nthC cs k) (nthV vs k), (k : Int))) := fun h => by
              have := rowF_hit k cs vs 0 HA.out (by rw [HN.out.1]; exact hlt) (by rw [HN.out.2]; exact hlt) h
              rwa [Int.zero_add] at this
            have HA' : Hid (ccV (nthC cs k) (nthV vs k) = 0 → ∀ j, j < k + 1 → ccV (nthC cs j) (nthV vs j) = 0) := fun h j hj => by
              by_cases e : j = k
              · rw [e]; exact h
              · exact HA.out j (by omega)
            clear HA
            generalize nthC cs k = x at *
            generalize nthV vs k = y at *
            have hltI : (k : Int) < (m : Int) := by omega
            obtain ⟨nx, tx, ux⟩ := x
            obtain ⟨ky, ny, ty⟩ := y
            simp only at p0 p1 p2
            obtain ⟨W1, hW1⟩ : ∃ W1, wr.alloc (.cells #[.string nx, .int .i64 tx, .bool ux] 85) = W1 := ⟨_, rfl⟩
            have A1 : Below wr.heap.size wr W1 := hW1 ▸ (Below.refl _ _).alloc (Nat.le_refl _) _
            have XW : W1.heap[wr.heap.size]? = some (.cells #[.string nx, .int .i64 tx, .bool ux] 85 (0, 0)) := (hW1 ▸ heap_new' _ _ _ rfl : W1.heap[wr.heap.size]? = _)
            have hP : StJ w2 wr.heap.size (nx, tx, ux) b2 (o2 + k * 3) (ky, ny, ty) W1.drew := ⟨⟨slab_cell XW, slab_cell XW, slab_cell XW⟩, hc2.below hlb2 A1.drew, slab_lt XW, Nat.lt_of_lt_of_le hlb2 A1.size, (below_step hbl (Nat.le_refl _) A1).drew⟩
            clear hc2 XW A1 hbl hB
            go_wp2_with fail
            go_region_held3 (StJ w2 wr.heap.size (nx, tx, ux) b2 (o2 + k * 3) (ky, ny, ty)) (first | exact hP | exact StJ.keep (by assumption) hb) (first | (go_at_call 58; refine (cellCode_any nx tx ux ky ny ty _).mono ?_; rintro e wA ⟨rfl, hb⟩) | fail)
            rename_i hPL
            have hbl1 := hPL.2.2.2.2
            have hB1 := B2.trans (hbl1.mono B2.size)
            clear hP hPL
            by_cases hz : ccV (nx, tx, ux) (ky, ny, ty) = 0
            · have HT2 : Hid (∀ j, j < k + 1 → ccV (nthC cs j) (nthV vs j) = 0) := HA'.out hz
              clear HA' HH
              rw [hz]
              go_wp2
              go_roundw
              case rel => exact ⟨k + 1, by omega, by go_num, HT2, hbl1⟩
              case measure => simp [intOf]; omega
            · have HT2 : Hid (rowF cs vs 0 = (ccV (nx, tx, ux) (ky, ny, ty), (k : Int))) := HH.out hz
              have HZ : Hid (¬ ccV (nx, tx, ux) (ky, ny, ty) = 0) := hz
              clear HA' HH
              generalize ccV (nx, tx, ux) (ky, ny, ty) = q at *
              go_wp2
              go_ret
              exact ⟨by rw [HQ.out, HT2.out, if_neg HZ.out]; rfl, hB1⟩
          · obtain rfl : k = m := by omega
            have HF : Hid (rowF cs vs 0 = (0, 0)) := rowF_none cs vs 0 (by rw [HN.out.1, HN.out.2]) (by rw [HN.out.2]; exact HA.out)
            go_wp2
            go_ret
            exact ⟨by rw [HQ.out, HF.out]; rfl, hB⟩
      · have HQ : Hid (crowE true cs vs = .code 12) := by show _ = _; rw [HP4.out, if_pos hmn]
        have hmnI : ¬ (m : Int) = (n : Int) := by omega
        go_wp2
        go_ret
        exact ⟨by rw [HQ.out]; rfl, B2⟩

set_option maxRecDepth 100000 in
set_option maxHeartbeats 4000000 in
theorem implCheckRow_any (nm : ByteArray) (ca : Option Addr) (cc : Nat) (cs : List TC) (key : Int) (xv : Value) (a : Option Addr) (cap : Nat) (vs : List V3) (tb : Bool) (w : World) (hC : RowC w ca cs) (hV : RowV w a vs) (lc : cs.length ≤ 1048576) (lv : vs.length ≤ 1048576) (hT : TabAns 56 w (TbA4 nm (.slice ca cs.length cc) key xv) tb) (hg : ErrT w) :
    Calls Tryz.prog 11 #[TbA4 nm (.slice ca cs.length cc) key xv, .slice a vs.length cap] w fun e w' => e = .returned (.tuple #[.int .i64 (crow tb cs vs).1, .int .i64 (crow tb cs vs).2]) ∧ Below w.heap.size w w' := by
  obtain ⟨W0, hW0⟩ : ∃ W0, w.alloc (.cells #[.string nm, .slice ca cs.length cc, .int .i64 key, xv] 34) = W0 := ⟨_, rfl⟩
  have B0 : Below w.heap.size w W0 := hW0 ▸ (Below.refl _ _).alloc (Nat.le_refl _) _
  have HC := checkRow_any nm ca cc cs key xv a cap vs tb W0 (hC.below B0) (hV.below B0) lc lv (fun w1 b => hT w1 (B0.trans (b.mono B0.size)))
  have HG : Hid (∀ w1, Below w.heap.size w w1 → ErrT w1) := fun w1 b => hg.below b hg.2
  have HE : Hid ((codeE (crowE tb cs vs)).getD 0 = (crow tb cs vs).1 ∧ ((colE (crowE tb cs vs)).map (·.1)).getD 0 = (crow tb cs vs).2) := crowE_code tb cs vs
  have XB : W0.heap[w.heap.size]? = some (.cells #[.string nm, .slice ca cs.length cc, .int .i64 key, xv] 34 (0, 0)) := (hW0 ▸ heap_new' _ _ _ rfl : W0.heap[w.heap.size]? = _)
  have q0 : W0.cell? ⟨w.heap.size, 0, none⟩ = some (.string nm) := slab_cell XB
  have q1 : W0.cell? ⟨w.heap.size, 1, none⟩ = some (.slice ca cs.length cc) := slab_cell XB
  have q2 : W0.cell? ⟨w.heap.size, 2, none⟩ = some (.int .i64 key) := slab_cell XB
  have q3 : W0.cell? ⟨w.heap.size, 3, none⟩ = some xv := slab_cell XB
  clear hC hV hT hg XB
  go_enter Tryz.func11, Tryz.ntmps11
  go_wp2_with fail
  refine HC.mono ?_
  rintro e w1 ⟨rfl, b1⟩
  have B1 := B0.trans (b1.mono B0.size)
  clear HC
  go_wp2_with fail
  refine (codeIn_any _ w1 (HG.out _ B1)).mono ?_
  rintro e w2 ⟨rfl, b2⟩
  have B2 := B1.trans (b2.mono B1.size)
  go_wp2_with fail
  refine (columnIn_any _ w2 (HG.out _ B2)).mono ?_
  rintro e w3 ⟨rfl, b3⟩
  have B3 := B2.trans (b3.mono B2.size)
  rw [HE.out.1, HE.out.2]
  go_wp2
  go_ret2
  exact ⟨rfl, B3⟩
end Go.Proofs.YtepkdodicglilaaGreatDoor
