/- What writes make of entries: the specification's merge (stage 8). -/
import Derived.Test.YtlcgmifibekegaaEnA
namespace Go.Proofs.Ytlcgmifibekegaa
open Go.RowKit

/-- A write: its key, its value, whether the key is taken away. -/
abbrev TW3 : Type := ByteArray × ByteArray × Bool
def nthW (l : List TW3) (i : Nat) : TW3 := l.getD i (⟨#[]⟩, ⟨#[]⟩, false)
theorem nthW_get {l : List TW3} {k : Nat} (hk : k < l.length) : nthW l k = l[k] := by
  unfold nthW; rw [List.getD_eq_getElem?_getD, List.getElem?_eq_getElem hk]; rfl
abbrev CellW (w : World) (b o : Nat) (x : TW3) : Prop := w.cell? ⟨b, o, none⟩ = some (.string x.1) ∧ w.cell? ⟨b, o + 1, none⟩ = some (.string x.2.1) ∧ w.cell? ⟨b, o + 2, none⟩ = some (.bool x.2.2)
def RowW (w : World) (a : Option Addr) (l : List TW3) : Prop := ∀ i, i < l.length → ∃ b off, a = some ⟨b, off, none⟩ ∧ b < w.heap.size ∧ CellW w b (off + i * 3) (nthW l i)
theorem RowW.below {w w' : World} {a : Option Addr} {l : List TW3} (h : RowW w a l) (hb : Below w.heap.size w w') : RowW w' a l := fun i hi => by
  obtain ⟨b, off, e, hlt, hc⟩ := h i hi
  exact ⟨b, off, e, Nat.lt_of_lt_of_le hlt hb.size, (hb.cell (p := ⟨b, off + i * 3, none⟩) hlt).trans hc.1, (hb.cell (p := ⟨b, off + i * 3 + 1, none⟩) hlt).trans hc.2.1, (hb.cell (p := ⟨b, off + i * 3 + 2, none⟩) hlt).trans hc.2.2⟩
def oneW (x : TW3) : List TY := if x.2.2 = true then [] else [(x.1, x.2.1)]
/-- Entries with writes over them. -/
def overV : List TY → List TW3 → List TY
  | l, [] => l
  | [], x :: ws => oneW x ++ overV [] ws
  | e :: l, x :: ws => if Op.bytesLess e.1.toList x.1.toList = true then e :: overV l (x :: ws) else if (e.1.toList == x.1.toList) = true then oneW x ++ overV l ws else oneW x ++ overV (e :: l) ws
termination_by l ws => l.length + ws.length
theorem overV_nil (l : List TY) : overV l [] = l := by cases l <;> rw [overV]
theorem overV_none (x : TW3) (ws : List TW3) : overV [] (x :: ws) = oneW x ++ overV [] ws := by rw [overV]
theorem overV_less {e : TY} {l : List TY} {x : TW3} {ws : List TW3} (h : Op.bytesLess e.1.toList x.1.toList = true) : overV (e :: l) (x :: ws) = e :: overV l (x :: ws) := by rw [overV, if_pos h]
theorem overV_same {e : TY} {l : List TY} {x : TW3} {ws : List TW3} (h : Op.bytesLess e.1.toList x.1.toList = false) (h2 : (e.1.toList == x.1.toList) = true) : overV (e :: l) (x :: ws) = oneW x ++ overV l ws := by rw [overV, if_neg (by rw [h]; decide), if_pos h2]
theorem overV_more {e : TY} {l : List TY} {x : TW3} {ws : List TW3} (h : Op.bytesLess e.1.toList x.1.toList = false) (h2 : (e.1.toList == x.1.toList) = false) : overV (e :: l) (x :: ws) = oneW x ++ overV (e :: l) ws := by rw [overV, if_neg (by rw [h]; decide), if_neg (by rw [h2]; decide)]
theorem oneW_len (x : TW3) : (oneW x).length ≤ 1 := by unfold oneW; split <;> simp
theorem overV_len : ∀ (m : Nat) (l : List TY) (ws : List TW3), l.length + ws.length ≤ m → (overV l ws).length ≤ l.length + ws.length
  | m, l, [], _ => by rw [overV_nil]; simp
  | 0, l, x :: ws, h => by simp at h
  | m + 1, [], x :: ws, h => by
    rw [overV_none, List.length_append]
    have := oneW_len x
    have ih := overV_len m [] ws (by simp at h ⊢; omega)
    simp at ih ⊢; omega
  | m + 1, e :: l, x :: ws, h => by
    have hx := oneW_len x
    cases h1 : Op.bytesLess e.1.toList x.1.toList with
    | true =>
      rw [overV_less h1]
      have ih := overV_len m l (x :: ws) (by simp at h ⊢; omega)
      simp at ih ⊢; omega
    | false =>
      cases h2 : (e.1.toList == x.1.toList) with
      | true =>
        rw [overV_same h1 h2, List.length_append]
        have ih := overV_len m l ws (by simp at h ⊢; omega)
        simp; omega
      | false =>
        rw [overV_more h1 h2, List.length_append]
        have ih := overV_len m (e :: l) ws (by simp at h ⊢; omega)
        simp at ih ⊢; omega
theorem drop_cons {α : Type} {l : List α} {i : Nat} (h : i < l.length) : l.drop i = l[i] :: l.drop (i + 1) := List.drop_eq_getElem_cons h
theorem info61 : (Try.prog.info? 61).map (fun i => (i.zero, i.size, i.bytes)) = some (some (.agg #[.string ⟨#[]⟩, .string ⟨#[]⟩]), 2, 32) := by kernel_rfl
theorem ownY_of {w : World} {B n : Nat} {v : Value} {l : List TY} (h : w.ownsRow B 61 2 v n (cellsY l)) : OwnY w B v l := by
  have e := h.1
  rw [cellsY_len] at e
  obtain rfl : n = l.length := by omega
  exact h
theorem app_ent (v : Value) (l : List TY) (w : World) (B : Nat) (h : OwnY w B v l) (hl : l.length ≤ 4194304) (p : TY) (g : Nat) (hg : w.heap[g]? = some (.cells #[.string p.1, .string p.2] 61 (0, 0))) (hB : B ≤ w.heap.size) :
    ∃ v' w', (Builtin.append_ #[37, 37] 37 #[v, .slice (some ⟨g, 0, none⟩) 1 1]).run Try.prog w = .ok v' w' ∧ OwnY w' B v' (l ++ [p]) ∧ w.grownBy w' v.ownBlock := by
  obtain ⟨i0, hi, hz0, hz1, hz2⟩ := info_parts info61
  obtain ⟨v', w', hrun, r1, r2, _⟩ := run_append_own (P := Try.prog) w B 37 37 61 i0 (.agg #[.string ⟨#[]⟩, .string ⟨#[]⟩]) 2 32 Try.underlying37 hi hz0 hz1 hz2 rfl (by decide) v l.length (cellsY l) h ⟨g, 0, none⟩ 1 1 [.string p.1, .string p.2] rfl (fun j u hj => by
    match j, hj with
    | 0, hj => simp at hj; subst hj; rw [add_plain, slab_cell hg]; rfl
    | 1, hj => simp at hj; subst hj; rw [add_plain, slab_cell hg]; rfl) (by intro u hu; simp at hu; rcases hu with rfl | rfl <;> rfl) (by unfold maxLen; omega) (by omega) hB
  exact ⟨v', w', hrun, ownY_of (by rw [cellsY_snoc]; exact r1), r2⟩

set_option maxRecDepth 100000 in
set_option maxHeartbeats 8000000 in
theorem l07Over_any (a a' : Option Addr) (cap cap' : Nat) (l : List TY) (ws : List TW3) (w : World) (h : RowY w a l) (h' : RowW w a' ws) (hl : l.length ≤ 1048576) (hl' : ws.length ≤ 1048576) :
    Calls Try.prog 128 #[.slice a l.length cap, .slice a' ws.length cap'] w fun e w' => ∃ v, e = .returned v ∧ OwnY w' w.heap.size v (overV l ws) ∧ Below w.heap.size w w' := by
  have HR : Hid (RowY w a l ∧ RowW w a' ws) := ⟨h, h'⟩
  have HV : Hid ((overV l ws).length ≤ l.length + ws.length) := overV_len _ l ws (Nat.le_refl _)
  clear h h'
  obtain ⟨n, hn⟩ : ∃ n, l.length = n := ⟨_, rfl⟩
  obtain ⟨m, hm⟩ : ∃ m, ws.length = m := ⟨_, rfl⟩
  have HL : Hid (l.length = n ∧ ws.length = m) := ⟨hn, hm⟩
  rw [hn] at hl HV ⊢
  rw [hm] at hl' HV ⊢
  clear hn hm
  obtain ⟨i0, hI, hz0, hz1, hz2⟩ := info_parts info61
  have O0 : OwnY (w.alloc (.cells #[] 61)) w.heap.size (.slice (some ⟨w.heap.size, 0, none⟩) 0 0) [] := OwnY.made w w.heap.size (Nat.le_refl _)
  have B0 : Below w.heap.size w (w.alloc (.cells #[] 61)) := (Below.refl _ _).alloc (Nat.le_refl _) _
  go_enter Try.func128, Try.ntmps128
  go_wp2
  go_loopw [5, 6, 7] (fun v y x wr => ∃ (i j : Nat) (pre : List TY), i ≤ n ∧ j ≤ m ∧ x = .int .i64 i ∧ y = .int .i64 j ∧ OwnY wr w.heap.size v pre ∧ Hid (pre ++ overV (l.drop i) (ws.drop j) = overV l ws) ∧ Below w.heap.size w wr) (fun _ y x _ => (n - (intOf x).toNat) + (m - (intOf y).toNat))
  case atStart => exact ⟨0, 0, [], by omega, by omega, rfl, rfl, O0, by show _ = _; simp, B0⟩
  case round =>
    clear O0 B0
    obtain ⟨i, j, pre, hi, hj, rfl, rfl, hO, HI, hbl⟩ := hrel
    have HO : Hid (OwnY wr w.heap.size u5 pre) := hO
    have hpl : pre.length ≤ 2097152 := by
      have h1 := HV.out
      rw [← HI.out, List.length_append] at h1
      omega
    have hsz : w.heap.size ≤ wr.heap.size := hbl.size
    have hwi : IntKind.i64.wrap (i : Int) = (i : Int) := wrap_nat (by omega)
    have hwj : IntKind.i64.wrap (j : Int) = (j : Int) := wrap_nat (by omega)
    clear hO
    by_cases hjm : j < m
    · have hjI : (j : Int) < (m : Int) := by omega
      have hje : ((j : Int) == (m : Int)) = false := by simp; omega
      obtain ⟨b', off', rfl, hlb', ⟨q0', q1', q2'⟩⟩ := (HR.out.2.below hbl) j (by rw [HL.out.2]; exact hjm)
      have HDJ : Hid (ws.drop j = nthW ws j :: ws.drop (j + 1)) := by show _ = _; rw [nthW_get (by rw [HL.out.2]; exact hjm)]; exact drop_cons _
      generalize nthW ws j = x at *
      obtain ⟨xk, xv, xg⟩ := x
      simp only at q0' q1' q2'
      by_cases hin : i < n
      · have hiI : (i : Int) < (n : Int) := by omega
        have hid : decide ((i : Int) < (n : Int)) = true := decide_eq_true hiI
        obtain ⟨b, off, rfl, hlb, ⟨q0, q1⟩⟩ := (HR.out.1.below hbl) i (by rw [HL.out.1]; exact hin)
        have HDI : Hid (l.drop i = nthY l i :: l.drop (i + 1)) := by show _ = _; rw [nthY_get (by rw [HL.out.1]; exact hin)]; exact drop_cons _
        generalize nthY l i = e at *
        obtain ⟨ek, ev⟩ := e
        simp only at q0 q1
        have hP : Hid (wr.drew.cell? ⟨b, off + i * 2, none⟩ = some (.string ek) ∧ wr.drew.cell? ⟨b', off' + j * 3, none⟩ = some (.string xk) ∧ Below wr.heap.size wr wr.drew) := ⟨q0, q0', (Below.refl _ _).drew⟩
        cases hless : Op.bytesLess ek.toList xk.toList with
        | true =>
          have HE : Hid ((pre ++ [(ek, ev)]) ++ overV (l.drop (i + 1)) (ws.drop j) = overV l ws) := by show _ = _; rw [List.append_assoc, ← HI.out, HDI.out, HDJ.out, overV_less hless]; rfl
          go_wp2_with fail
          refine wp_region_class (C := fun w' => w'.cell? ⟨b, off + i * 2, none⟩ = some (.string ek) ∧ w'.cell? ⟨b', off' + j * 3, none⟩ = some (.string xk) ∧ Below wr.heap.size wr w') (by kernel_rfl) (by kernel_rfl) hP.out ?_
          repeat (first | go_big_quiet_skip | (go_big_quiet_want; apply Exists.intro; refine ⟨?_, ?_⟩; (focus (intro w' hw'; obtain ⟨m0, m1, m2⟩ := hw'; go_simp; with_reducible rfl)); (try simp only [Act.put, List.setIfInBounds_toArray, List.set_cons_zero, List.set_cons_succ]); go_big_quiet_on))
          refine wpQuiet_nil ?_
          intro w2 hw2
          have HB2 : Hid (Below wr.heap.size wr w2) := hw2.2.2
          have B2 : Hid (Below w.heap.size w w2) := below_step hbl (Nat.le_refl _) HB2.out
          have HO2 : Hid (OwnY w2 w.heap.size u5 pre) := HO.out.below HB2.out
          have x0 : w2.cell? ⟨b, off + i * 2, none⟩ = some (.string ek) := hw2.1
          have x1 : w2.cell? ⟨b, off + i * 2 + 1, none⟩ = some (.string ev) := (HB2.out.cell (p := ⟨b, off + i * 2 + 1, none⟩) hlb).trans q1
          have hlb2 : b < w2.heap.size := Nat.lt_of_lt_of_le hlb HB2.out.size
          have hsz2 : w.heap.size ≤ w2.heap.size := B2.out.size
          clear hw2 HB2 hP q0 q1 q0' q1' q2' HDI HDJ hless
          go_wp2_with (at_builtin; refine wpList_append_own _ rfl _ _ 37 rfl w.heap.size 61 i0 (.agg #[.string ⟨#[]⟩, .string ⟨#[]⟩]) 2 32 Try.underlying37 hI hz0 hz1 hz2 rfl (by decide) _ _ _ rfl (HO2.out.alloc _) ⟨w2.heap.size, 0, none⟩ 1 1 [.string ek, .string ev] rfl rfl ?m0 ?m4 ?m1 ?m2 ?m3 ?_)
          case m0 => exact cell_two_new _ _ _ _
          case m4 => intro u hu; simp at hu; rcases hu with rfl | rfl <;> rfl
          case m1 => unfold maxLen; omega
          case m2 => omega
          case m3 => first | omega | (simp; omega)
          intro v' w3 ho3 g3 _
          have HO3 : Hid (OwnY w3 w.heap.size v' (pre ++ [(ek, ev)])) := OwnY.snoc (p := (ek, ev)) ho3
          have B3 : Hid (Below w.heap.size w w3) := own_belowX (B2.out.alloc (by omega) _) (by simp; omega) (HO2.out.alloc _) g3
          clear ho3 g3
          go_wp2
          go_roundw
          case rel => exact ⟨i + 1, j, pre ++ [(ek, ev)], by omega, by omega, by go_num, rfl, HO3.out, HE, B3.out⟩
          case measure => simp [intOf]; omega
        | false =>
          go_wp2_with fail
          refine wp_region_class (C := fun w' => w'.cell? ⟨b, off + i * 2, none⟩ = some (.string ek) ∧ w'.cell? ⟨b', off' + j * 3, none⟩ = some (.string xk) ∧ Below wr.heap.size wr w') (by kernel_rfl) (by kernel_rfl) hP.out ?_
          repeat (first | go_big_quiet_skip | (go_big_quiet_want; apply Exists.intro; refine ⟨?_, ?_⟩; (focus (intro w' hw'; obtain ⟨m0, m1, m2⟩ := hw'; go_simp; with_reducible rfl)); (try simp only [Act.put, List.setIfInBounds_toArray, List.set_cons_zero, List.set_cons_succ]); go_big_quiet_on))
          refine wpQuiet_nil ?_
          intro wA hwA
          have HBA : Hid (Below wr.heap.size wr wA) := hwA.2.2
          have hPA : Hid (wA.drew.cell? ⟨b, off + i * 2, none⟩ = some (.string ek) ∧ wA.drew.cell? ⟨b', off' + j * 3, none⟩ = some (.string xk) ∧ Below wr.heap.size wr wA.drew) := ⟨hwA.1, hwA.2.1, HBA.out.drew⟩
          clear hwA hP
          cases heq : (ek.toList == xk.toList) with
          | true =>
            have HS : Hid (overV (l.drop i) (ws.drop j) = oneW (xk, xv, xg) ++ overV (l.drop (i + 1)) (ws.drop (j + 1))) := by show _ = _; rw [HDI.out, HDJ.out, overV_same hless heq]
            go_wp2_with fail
            refine wp_region_class (C := fun w' => w'.cell? ⟨b, off + i * 2, none⟩ = some (.string ek) ∧ w'.cell? ⟨b', off' + j * 3, none⟩ = some (.string xk) ∧ Below wr.heap.size wr w') (by kernel_rfl) (by kernel_rfl) hPA.out ?_
            repeat (first | go_big_quiet_skip | (go_big_quiet_want; apply Exists.intro; refine ⟨?_, ?_⟩; (focus (intro w' hw'; obtain ⟨m0, m1, m2⟩ := hw'; go_simp; with_reducible rfl)); (try simp only [Act.put, List.setIfInBounds_toArray, List.set_cons_zero, List.set_cons_succ]); go_big_quiet_on))
            refine wpQuiet_nil ?_
            intro w2 hw2
            have HB2 : Hid (Below wr.heap.size wr w2) := hw2.2.2
            clear hw2 hPA HBA HDI HDJ hless heq q0 q1
            have B2 : Hid (Below w.heap.size w w2) := below_step hbl (Nat.le_refl _) HB2.out
            have HO2 : Hid (OwnY w2 w.heap.size u5 pre) := HO.out.below HB2.out
            have x0 : w2.cell? ⟨b', off' + j * 3, none⟩ = some (.string xk) := (HB2.out.cell (p := ⟨b', off' + j * 3, none⟩) hlb').trans q0'
            have x1 : w2.cell? ⟨b', off' + j * 3 + 1, none⟩ = some (.string xv) := (HB2.out.cell (p := ⟨b', off' + j * 3 + 1, none⟩) hlb').trans q1'
            have x2 : w2.cell? ⟨b', off' + j * 3 + 2, none⟩ = some (.bool xg) := (HB2.out.cell (p := ⟨b', off' + j * 3 + 2, none⟩) hlb').trans q2'
            have hlb2 : b' < w2.heap.size := Nat.lt_of_lt_of_le hlb' HB2.out.size
            have hsz2 : w.heap.size ≤ w2.heap.size := B2.out.size
            cases xg with
            | true =>
              have HE : Hid (pre ++ overV (l.drop (i + 1)) (ws.drop (j + 1)) = overV l ws) := by show _ = _; rw [← HI.out, HS.out]; rfl
              clear HB2 HS
              go_wp2
              go_roundw
              case rel => exact ⟨i + 1, j + 1, pre, by omega, by omega, by go_num, by go_num, HO2.out, HE, B2.out⟩
              case measure => simp [intOf]; omega
            | false =>
              have HE : Hid ((pre ++ [(xk, xv)]) ++ overV (l.drop (i + 1)) (ws.drop (j + 1)) = overV l ws) := by show _ = _; rw [List.append_assoc, ← HI.out, HS.out]; rfl
              have bA : Below w2.heap.size w2 (w2.drew.alloc (.cells #[.string xk, .string xv] 61)) := ((Below.refl _ _).drew).alloc (Nat.le_refl _) _
              have hOA : OwnY (w2.drew.alloc (.cells #[.string xk, .string xv] 61)) w.heap.size u5 pre := HO2.out.below bA
              obtain ⟨v', w3, hrun, o3, g3⟩ := app_ent u5 pre _ w.heap.size hOA (by omega) (xk, xv) w2.heap.size (heap_new' _ _ _ rfl) (by have := bA.size; omega)
              have HO3 : Hid (OwnY w3 w.heap.size v' (pre ++ [(xk, xv)])) := o3
              have HB3 : Hid (Below w.heap.size w w3) := own_belowX (B2.out.trans (bA.mono hsz2)) (by have := bA.size; omega) hOA g3
              have hwj : IntKind.i64.wrap (j : Int) = (j : Int) := wrap_nat (by omega)
              clear bA hOA o3 g3 HB2 HS
              go_wp2_with fail
              go_region_law (first | (refine step_append_run (by rfl) _ _ _ _ (by rfl) _ _ (by rfl) (by rfl) _ _ hrun ?_))
              all_goals
                go_wp2
                go_roundw
                case rel => exact ⟨i + 1, j + 1, pre ++ [(xk, xv)], by omega, by omega, by go_num, by go_num, HO3.out, HE, HB3.out⟩
                case measure => simp [intOf]; omega
          | false =>
            have HS : Hid (overV (l.drop i) (ws.drop j) = oneW (xk, xv, xg) ++ overV (l.drop i) (ws.drop (j + 1))) := by show _ = _; rw [HDJ.out]; rw [HDI.out, overV_more hless heq]
            go_wp2_with fail
            refine wp_region_class (C := fun w' => w'.cell? ⟨b, off + i * 2, none⟩ = some (.string ek) ∧ w'.cell? ⟨b', off' + j * 3, none⟩ = some (.string xk) ∧ Below wr.heap.size wr w') (by kernel_rfl) (by kernel_rfl) hPA.out ?_
            repeat (first | go_big_quiet_skip | (go_big_quiet_want; apply Exists.intro; refine ⟨?_, ?_⟩; (focus (intro w' hw'; obtain ⟨m0, m1, m2⟩ := hw'; go_simp; with_reducible rfl)); (try simp only [Act.put, List.setIfInBounds_toArray, List.set_cons_zero, List.set_cons_succ]); go_big_quiet_on))
            refine wpQuiet_nil ?_
            intro w2 hw2
            have HB2 : Hid (Below wr.heap.size wr w2) := hw2.2.2
            clear hw2 hPA HBA HDI HDJ hless heq q0 q1
            have B2 : Hid (Below w.heap.size w w2) := below_step hbl (Nat.le_refl _) HB2.out
            have HO2 : Hid (OwnY w2 w.heap.size u5 pre) := HO.out.below HB2.out
            have x0 : w2.cell? ⟨b', off' + j * 3, none⟩ = some (.string xk) := (HB2.out.cell (p := ⟨b', off' + j * 3, none⟩) hlb').trans q0'
            have x1 : w2.cell? ⟨b', off' + j * 3 + 1, none⟩ = some (.string xv) := (HB2.out.cell (p := ⟨b', off' + j * 3 + 1, none⟩) hlb').trans q1'
            have x2 : w2.cell? ⟨b', off' + j * 3 + 2, none⟩ = some (.bool xg) := (HB2.out.cell (p := ⟨b', off' + j * 3 + 2, none⟩) hlb').trans q2'
            have hlb2 : b' < w2.heap.size := Nat.lt_of_lt_of_le hlb' HB2.out.size
            have hsz2 : w.heap.size ≤ w2.heap.size := B2.out.size
            cases xg with
            | true =>
              have HE : Hid (pre ++ overV (l.drop (i)) (ws.drop (j + 1)) = overV l ws) := by show _ = _; rw [← HI.out, HS.out]; rfl
              clear HB2 HS
              go_wp2
              go_roundw
              case rel => exact ⟨i, j + 1, pre, by omega, by omega, rfl, by go_num, HO2.out, HE, B2.out⟩
              case measure => simp [intOf]; omega
            | false =>
              have HE : Hid ((pre ++ [(xk, xv)]) ++ overV (l.drop (i)) (ws.drop (j + 1)) = overV l ws) := by show _ = _; rw [List.append_assoc, ← HI.out, HS.out]; rfl
              have bA : Below w2.heap.size w2 (w2.drew.alloc (.cells #[.string xk, .string xv] 61)) := ((Below.refl _ _).drew).alloc (Nat.le_refl _) _
              have hOA : OwnY (w2.drew.alloc (.cells #[.string xk, .string xv] 61)) w.heap.size u5 pre := HO2.out.below bA
              obtain ⟨v', w3, hrun, o3, g3⟩ := app_ent u5 pre _ w.heap.size hOA (by omega) (xk, xv) w2.heap.size (heap_new' _ _ _ rfl) (by have := bA.size; omega)
              have HO3 : Hid (OwnY w3 w.heap.size v' (pre ++ [(xk, xv)])) := o3
              have HB3 : Hid (Below w.heap.size w w3) := own_belowX (B2.out.trans (bA.mono hsz2)) (by have := bA.size; omega) hOA g3
              have hwj : IntKind.i64.wrap (j : Int) = (j : Int) := wrap_nat (by omega)
              clear bA hOA o3 g3 HB2 HS
              go_wp2_with fail
              go_region_law (first | (refine step_append_run (by rfl) _ _ _ _ (by rfl) _ _ (by rfl) (by rfl) _ _ hrun ?_))
              all_goals
                go_wp2
                go_roundw
                case rel => exact ⟨i, j + 1, pre ++ [(xk, xv)], by omega, by omega, rfl, by go_num, HO3.out, HE, HB3.out⟩
                case measure => simp [intOf]; omega
      · have hiI : ¬ (i : Int) < (n : Int) := by omega
        have hid : decide ((i : Int) < (n : Int)) = false := decide_eq_false hiI
        have HS : Hid (overV (l.drop i) (ws.drop j) = oneW (xk, xv, xg) ++ overV (l.drop i) (ws.drop (j + 1))) := by
          show _ = _
          have e0 : l.drop i = [] := List.drop_eq_nil_of_le (by rw [HL.out.1]; omega)
          rw [e0, HDJ.out, overV_none]
        have hP : Hid (wr.drew.cell? ⟨b', off' + j * 3, none⟩ = some (.string xk) ∧ Below wr.heap.size wr wr.drew) := ⟨q0', (Below.refl _ _).drew⟩
        go_wp2_with fail
        refine wp_region_class (C := fun w' => w'.cell? ⟨b', off' + j * 3, none⟩ = some (.string xk) ∧ Below wr.heap.size wr w') (by kernel_rfl) (by kernel_rfl) hP.out ?_
        repeat (first | go_big_quiet_skip | (go_big_quiet_want; apply Exists.intro; refine ⟨?_, ?_⟩; (focus (intro w' hw'; obtain ⟨m1, m2⟩ := hw'; go_simp; with_reducible rfl)); (try simp only [Act.put, List.setIfInBounds_toArray, List.set_cons_zero, List.set_cons_succ]); go_big_quiet_on))
        refine wpQuiet_nil ?_
        intro wA hwA
        have hPA : Hid (wA.drew.cell? ⟨b', off' + j * 3, none⟩ = some (.string xk) ∧ Below wr.heap.size wr wA.drew) := ⟨hwA.1, hwA.2.drew⟩
        clear hwA hP
        go_wp2_with fail
        refine wp_region_class (C := fun w' => w'.cell? ⟨b', off' + j * 3, none⟩ = some (.string xk) ∧ Below wr.heap.size wr w') (by kernel_rfl) (by kernel_rfl) hPA.out ?_
        repeat (first | go_big_quiet_skip | (go_big_quiet_want; apply Exists.intro; refine ⟨?_, ?_⟩; (focus (intro w' hw'; obtain ⟨m1, m2⟩ := hw'; go_simp; with_reducible rfl)); (try simp only [Act.put, List.setIfInBounds_toArray, List.set_cons_zero, List.set_cons_succ]); go_big_quiet_on))
        refine wpQuiet_nil ?_
        intro w2 hw2
        have HB2 : Hid (Below wr.heap.size wr w2) := hw2.2
        clear hw2 hPA HDJ
        have B2 : Hid (Below w.heap.size w w2) := below_step hbl (Nat.le_refl _) HB2.out
        have HO2 : Hid (OwnY w2 w.heap.size u5 pre) := HO.out.below HB2.out
        have x0 : w2.cell? ⟨b', off' + j * 3, none⟩ = some (.string xk) := (HB2.out.cell (p := ⟨b', off' + j * 3, none⟩) hlb').trans q0'
        have x1 : w2.cell? ⟨b', off' + j * 3 + 1, none⟩ = some (.string xv) := (HB2.out.cell (p := ⟨b', off' + j * 3 + 1, none⟩) hlb').trans q1'
        have x2 : w2.cell? ⟨b', off' + j * 3 + 2, none⟩ = some (.bool xg) := (HB2.out.cell (p := ⟨b', off' + j * 3 + 2, none⟩) hlb').trans q2'
        have hlb2 : b' < w2.heap.size := Nat.lt_of_lt_of_le hlb' HB2.out.size
        have hsz2 : w.heap.size ≤ w2.heap.size := B2.out.size
        cases xg with
        | true =>
          have HE : Hid (pre ++ overV (l.drop (i)) (ws.drop (j + 1)) = overV l ws) := by show _ = _; rw [← HI.out, HS.out]; rfl
          clear HB2 HS
          go_wp2
          go_roundw
          case rel => exact ⟨i, j + 1, pre, by omega, by omega, rfl, by go_num, HO2.out, HE, B2.out⟩
          case measure => simp [intOf]; omega
        | false =>
          have HE : Hid ((pre ++ [(xk, xv)]) ++ overV (l.drop (i)) (ws.drop (j + 1)) = overV l ws) := by show _ = _; rw [List.append_assoc, ← HI.out, HS.out]; rfl
          have bA : Below w2.heap.size w2 (w2.drew.alloc (.cells #[.string xk, .string xv] 61)) := ((Below.refl _ _).drew).alloc (Nat.le_refl _) _
          have hOA : OwnY (w2.drew.alloc (.cells #[.string xk, .string xv] 61)) w.heap.size u5 pre := HO2.out.below bA
          obtain ⟨v', w3, hrun, o3, g3⟩ := app_ent u5 pre _ w.heap.size hOA (by omega) (xk, xv) w2.heap.size (heap_new' _ _ _ rfl) (by have := bA.size; omega)
          have HO3 : Hid (OwnY w3 w.heap.size v' (pre ++ [(xk, xv)])) := o3
          have HB3 : Hid (Below w.heap.size w w3) := own_belowX (B2.out.trans (bA.mono hsz2)) (by have := bA.size; omega) hOA g3
          have hwj : IntKind.i64.wrap (j : Int) = (j : Int) := wrap_nat (by omega)
          clear bA hOA o3 g3 HB2 HS
          go_wp2_with fail
          go_region_law (first | (refine step_append_run (by rfl) _ _ _ _ (by rfl) _ _ (by rfl) (by rfl) _ _ hrun ?_))
          all_goals
            go_wp2
            go_roundw
            case rel => exact ⟨i, j + 1, pre ++ [(xk, xv)], by omega, by omega, rfl, by go_num, HO3.out, HE, HB3.out⟩
            case measure => simp [intOf]; omega
    · have hjI : ¬ (j : Int) < (m : Int) := by omega
      have hje : ((j : Int) == (m : Int)) = true := by simp; omega
      have HDJ : Hid (ws.drop j = []) := List.drop_eq_nil_of_le (by rw [HL.out.2]; omega)
      by_cases hin : i < n
      · have hiI : (i : Int) < (n : Int) := by omega
        obtain ⟨b, off, rfl, hlb, ⟨q0, q1⟩⟩ := (HR.out.1.below hbl) i (by rw [HL.out.1]; exact hin)
        have HDI : Hid (l.drop i = nthY l i :: l.drop (i + 1)) := by show _ = _; rw [nthY_get (by rw [HL.out.1]; exact hin)]; exact drop_cons _
        generalize nthY l i = e at *
        obtain ⟨ek, ev⟩ := e
        simp only at q0 q1
        have HE : Hid ((pre ++ [(ek, ev)]) ++ overV (l.drop (i + 1)) (ws.drop j) = overV l ws) := by show _ = _; rw [List.append_assoc, ← HI.out, HDI.out, HDJ.out, overV_nil, overV_nil]; rfl
        have hP : Hid (Below wr.heap.size wr wr.drew) := (Below.refl _ _).drew
        go_wp2_with fail
        refine wp_region_class (C := fun w' => Below wr.heap.size wr w') (by kernel_rfl) (by kernel_rfl) hP.out ?_
        repeat (first | go_big_quiet_skip | (go_big_quiet_want; apply Exists.intro; refine ⟨?_, ?_⟩; (focus (intro w' hw'; obtain m2 := hw'; go_simp; with_reducible rfl)); (try simp only [Act.put, List.setIfInBounds_toArray, List.set_cons_zero, List.set_cons_succ]); go_big_quiet_on))
        refine wpQuiet_nil ?_
        intro w2 hw2
        have HB2 : Hid (Below wr.heap.size wr w2) := hw2
        have B2 : Hid (Below w.heap.size w w2) := below_step hbl (Nat.le_refl _) HB2.out
        have HO2 : Hid (OwnY w2 w.heap.size u5 pre) := HO.out.below HB2.out
        have x0 : w2.cell? ⟨b, off + i * 2, none⟩ = some (.string ek) := (HB2.out.cell (p := ⟨b, off + i * 2, none⟩) hlb).trans q0
        have x1 : w2.cell? ⟨b, off + i * 2 + 1, none⟩ = some (.string ev) := (HB2.out.cell (p := ⟨b, off + i * 2 + 1, none⟩) hlb).trans q1
        have hlb2 : b < w2.heap.size := Nat.lt_of_lt_of_le hlb HB2.out.size
        have hsz2 : w.heap.size ≤ w2.heap.size := B2.out.size
        clear hw2 HB2 hP q0 q1 HDI HDJ
        go_wp2_with (at_builtin; refine wpList_append_own _ rfl _ _ 37 rfl w.heap.size 61 i0 (.agg #[.string ⟨#[]⟩, .string ⟨#[]⟩]) 2 32 Try.underlying37 hI hz0 hz1 hz2 rfl (by decide) _ _ _ rfl (HO2.out.alloc _) ⟨w2.heap.size, 0, none⟩ 1 1 [.string ek, .string ev] rfl rfl ?m0 ?m4 ?m1 ?m2 ?m3 ?_)
        case m0 => exact cell_two_new _ _ _ _
        case m4 => intro u hu; simp at hu; rcases hu with rfl | rfl <;> rfl
        case m1 => unfold maxLen; omega
        case m2 => omega
        case m3 => first | omega | (simp; omega)
        intro v' w3 ho3 g3 _
        have HO3 : Hid (OwnY w3 w.heap.size v' (pre ++ [(ek, ev)])) := OwnY.snoc (p := (ek, ev)) ho3
        have B3 : Hid (Below w.heap.size w w3) := own_belowX (B2.out.alloc (by omega) _) (by simp; omega) (HO2.out.alloc _) g3
        clear ho3 g3
        go_wp2
        go_roundw
        case rel => exact ⟨i + 1, j, pre ++ [(ek, ev)], by omega, by omega, by go_num, rfl, HO3.out, HE, B3.out⟩
        case measure => simp [intOf]; omega
      · have HE : Hid (pre = overV l ws) := by
          show _ = _
          have e0 : l.drop i = [] := List.drop_eq_nil_of_le (by rw [HL.out.1]; omega)
          rw [← HI.out, e0, HDJ.out, overV_nil, List.append_nil]
        have hiI : ¬ (i : Int) < (n : Int) := by omega
        go_wp2
        go_ret
        exact ⟨_, rfl, by rw [← HE.out]; exact HO.out, hbl⟩
end Go.Proofs.Ytlcgmifibekegaa
