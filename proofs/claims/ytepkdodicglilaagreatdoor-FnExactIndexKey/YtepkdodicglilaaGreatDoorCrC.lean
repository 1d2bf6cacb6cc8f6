/- Both CheckRow: the table's own answer is a parameter (stage 11). -/
import Derived.Test.YtepkdodicglilaaGreatDoorCrB
import Derived.Test.YtepkdodicglilaaGreatDoorAsD
namespace Go.Proofs.YtepkdodicglilaaGreatDoor
open Go.RowKit

/-- A row's code and the column at fault; tb says whether the table is right. -/
def crow (tb : Bool) (cs : List TC) (vs : List V3) : Int × Int := if 4096 < vs.length then (2, 0) else if (tb && okRow vs) = true then rowR cs vs else (1, 0)
/-- A row's fault as an error. -/
def crowE (tb : Bool) (cs : List TC) (vs : List V3) : Er :=
  if 4096 < vs.length then .code 2 else if (tb && okRow vs) = true then (if vs.length ≠ cs.length then .code 12 else if (rowF cs vs 0).1 = 0 then .nil else .col (rowF cs vs 0).2 (.code (rowF cs vs 0).1)) else .code 1
/-- A table as a value. -/
abbrev TbA4 (nm : ByteArray) (c : Value) (key : Int) (x : Value) : Value := .agg #[.string nm, c, .int .i64 key, x]
theorem rowF_zero : ∀ (cs : List TC) (vs : List V3) (i : Int), (rowF cs vs i).1 = 0 → rowF cs vs i = (0, 0)
  | c :: cs, v :: vs, i, h => by
    by_cases hc : ccV c v = 0
    · have e : rowF (c :: cs) (v :: vs) i = rowF cs vs (i + 1) := if_pos hc
      rw [e] at h ⊢
      exact rowF_zero cs vs (i + 1) h
    · have e : rowF (c :: cs) (v :: vs) i = (ccV c v, i) := if_neg hc
      rw [e] at h
      exact absurd h hc
  | [], _, _, _ => by unfold rowF; rfl
  | _ :: _, [], _, _ => by unfold rowF; rfl
theorem crowE_code (tb : Bool) (cs : List TC) (vs : List V3) : (codeE (crowE tb cs vs)).getD 0 = (crow tb cs vs).1 ∧ ((colE (crowE tb cs vs)).map (·.1)).getD 0 = (crow tb cs vs).2 := by
  unfold crowE crow
  by_cases h1 : 4096 < vs.length
  · rw [if_pos h1, if_pos h1]; exact ⟨rfl, rfl⟩
  rw [if_neg h1, if_neg h1]
  by_cases h2 : (tb && okRow vs) = true
  · rw [if_pos h2, if_pos h2]
    unfold rowR
    by_cases h3 : vs.length ≠ cs.length
    · rw [if_pos h3, if_pos h3]; exact ⟨rfl, rfl⟩
    rw [if_neg h3, if_neg h3]
    by_cases h4 : (rowF cs vs 0).1 = 0
    · rw [if_pos h4, rowF_zero _ _ _ h4]; exact ⟨rfl, rfl⟩
    · rw [if_neg h4]; exact ⟨rfl, rfl⟩
  · rw [if_neg h2, if_neg h2]; exact ⟨rfl, rfl⟩
/-- What TableOK answers of this table in later worlds. -/
abbrev TabAns (f : FuncId) (w : World) (v : Value) (tb : Bool) : Prop := ∀ w1, Below w.heap.size w w1 → Calls Tryz.prog f #[v] w1 fun e w' => e = .returned (.bool tb) ∧ Below w1.heap.size w1 w'
set_option maxRecDepth 100000 in
set_option maxHeartbeats 4000000 in
theorem specCheckRow_any (nm : ByteArray) (ca : Option Addr) (cc : Nat) (cs : List TC) (key : Int) (xv : Value) (a : Option Addr) (cap : Nat) (vs : List V3) (tb : Bool) (w : World) (hC : RowC w ca cs) (hV : RowV w a vs) (lc : cs.length ≤ 1048576) (lv : vs.length ≤ 1048576) (hT : TabAns 26 w (TbA4 nm (.slice ca cs.length cc) key xv) tb) :
    Calls Tryz.prog 8 #[TbA4 nm (.slice ca cs.length cc) key xv, .slice a vs.length cap] w fun e w' => e = .returned (.tuple #[.int .i64 (crow tb cs vs).1, .int .i64 (crow tb cs vs).2]) ∧ Below w.heap.size w w' := by
  have HR : Hid (∀ w1, Below w.heap.size w w1 → Calls Tryz.prog 28 #[TbA4 nm (.slice ca cs.length cc) key xv, .slice a vs.length cap] w1 fun e w' => e = .returned (.tuple #[.int .i64 (rowR cs vs).1, .int .i64 (rowR cs vs).2]) ∧ Below w1.heap.size w1 w') := fun w1 b => l09Row_any nm ca cc cs key xv a cap vs w1 (hC.below b) (hV.below b) lc lv
  have HV : Hid (∀ w1, Below w.heap.size w w1 → Calls Tryz.prog 27 #[.slice a vs.length cap] w1 fun e w' => e = .returned (.bool (okRow vs)) ∧ Below w1.heap.size w1 w') := fun w1 b => l01Row_any a cap vs w1 (hV.below b) lv
  have HT : Hid (TabAns 26 w (TbA4 nm (.slice ca cs.length cc) key xv) tb) := hT
  clear hC hV hT lc
  obtain ⟨n, hn⟩ : ∃ m, cs.length = m := ⟨_, rfl⟩
  obtain ⟨m, hm⟩ : ∃ m, vs.length = m := ⟨_, rfl⟩
  have HP : Hid (crow tb cs vs = if 4096 < m then (2, 0) else if (tb && okRow vs) = true then rowR cs vs else (1, 0)) := by show _ = _; rw [← hm]; rfl
  rw [hn] at HT HR ⊢
  rw [hm] at HV HR lv ⊢
  clear hn hm
  obtain ⟨W0, hW0⟩ : ∃ W0, w.alloc (.cells #[.string nm, .slice ca n cc, .int .i64 key, xv] 34) = W0 := ⟨_, rfl⟩
  have B0 : Below w.heap.size w W0 := hW0 ▸ (Below.refl _ _).alloc (Nat.le_refl _) _
  have XB : Hid (W0.heap[w.heap.size]? = some (.cells #[.string nm, .slice ca n cc, .int .i64 key, xv] 34 (0, 0))) := (hW0 ▸ heap_new' _ _ _ rfl : W0.heap[w.heap.size]? = _)
  have l0 : w.heap.size < W0.heap.size := by rw [← hW0]; simp
  have c0 : ∀ {w1 : World}, Below W0.heap.size W0 w1 → w1.cell? ⟨w.heap.size, 0, none⟩ = some (.string nm) ∧ w1.cell? ⟨w.heap.size, 1, none⟩ = some (.slice ca n cc) ∧ w1.cell? ⟨w.heap.size, 2, none⟩ = some (.int .i64 key) ∧ w1.cell? ⟨w.heap.size, 3, none⟩ = some xv := fun {w1} b => by
    have e : w1.heap[w.heap.size]? = _ := (b.block _ l0).trans XB.out
    exact ⟨slab_cell e, slab_cell e, slab_cell e, slab_cell e⟩
  have C0 : Hid (∀ {w1 : World}, Below W0.heap.size W0 w1 → w1.cell? ⟨w.heap.size, 0, none⟩ = some (.string nm) ∧ w1.cell? ⟨w.heap.size, 1, none⟩ = some (.slice ca n cc) ∧ w1.cell? ⟨w.heap.size, 2, none⟩ = some (.int .i64 key) ∧ w1.cell? ⟨w.heap.size, 3, none⟩ = some xv) := c0
  clear c0
  obtain ⟨q0, q1, q2, q3⟩ := C0.out (Below.refl _ _)
  by_cases h1 : 4096 < m
  · have HQ : Hid (crow tb cs vs = (2, 0)) := by show _ = _; rw [HP.out, if_pos h1]
    have h1I : (4096 : Int) < (m : Int) := by omega
    go_enter Tryz.func8, Tryz.ntmps8
    go_wp2
    go_ret2
    exact ⟨by rw [HQ.out]; rfl, B0⟩
  have HP2 : Hid (crow tb cs vs = if (tb && okRow vs) = true then rowR cs vs else (1, 0)) := by show _ = _; rw [HP.out, if_neg h1]
  have h1I : ¬ (4096 : Int) < (m : Int) := by omega
  clear HP h1
  go_enter Tryz.func8, Tryz.ntmps8
  go_wp2_with fail
  refine (HT.out _ B0).mono ?_
  rintro e w1 ⟨rfl, b1⟩
  have B1 := B0.trans (b1.mono B0.size)
  clear q0 q1 q2 q3
  obtain ⟨q0, q1, q2, q3⟩ := C0.out b1
  cases tb with
  | false =>
    have HQ : Hid (crow false cs vs = (1, 0)) := by show _ = _; rw [HP2.out]; rfl
    go_wp2
    go_ret2
    exact ⟨by rw [HQ.out]; rfl, B1⟩
  | true =>
    go_wp2_with fail
    refine (HV.out _ B1).mono ?_
    rintro e w2 ⟨rfl, b2⟩
    have B2 := B1.trans (b2.mono B1.size)
    have bb := b1.trans (b2.mono b1.size)
    clear q0 q1 q2 q3
    obtain ⟨q0, q1, q2, q3⟩ := C0.out bb
    have HP3 : Hid (crow true cs vs = if okRow vs = true then rowR cs vs else (1, 0)) := HP2.out
    generalize okRow vs = ov at *
    cases ov with
    | false =>
      have HQ : Hid (crow true cs vs = (1, 0)) := HP3.out
      go_wp2
      go_ret2
      exact ⟨by rw [HQ.out]; rfl, B2⟩
    | true =>
      have HQ : Hid (crow true cs vs = rowR cs vs) := HP3.out
      go_wp2_with fail
      refine (HR.out _ B2).mono ?_
      rintro e w3 ⟨rfl, b3⟩
      have B3 := B2.trans (b3.mono B2.size)
      generalize rowR cs vs = rr at *
      go_wp2
      go_ret2
      exact ⟨by rw [HQ.out]; rfl, B3⟩
end Go.Proofs.YtepkdodicglilaaGreatDoor
