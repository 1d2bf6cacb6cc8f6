/- The literal of a value, impl's (stage 1). -/
import Derived.Test.YtiimegahhnjjkaaDoorVtD
import Derived.Lib.AppendIntMem
import Derived.Lib.SplitLaws
namespace Go.Proofs.YtiimegahhnjjkaaDoor
open Go.RowKit

theorem idx_eq (l : List UInt8) : Lib.index (39 :: l) [39] = 0 := by simp [Lib.index]
theorem idx_ne (b : UInt8) (l : List UInt8) (h : b ≠ 39) : Lib.index (b :: l) [39] = if (Lib.index l [39] == -1) = true then -1 else Lib.index l [39] + 1 := by
  have h' : ¬ 39 = b := fun e => h e.symm
  rw [Lib.index]
  simp [h']
theorem rk_eq (k : Nat) (l : List UInt8) : Lib.replaceK [39] [39, 39] (k + 1) (39 :: l) = [39, 39] ++ Lib.replaceK [39] [39, 39] k l := by
  rw [Lib.replaceK, idx_eq]
  simp
theorem rk_ne (b : UInt8) (h : b ≠ 39) : ∀ (k : Nat) (l : List UInt8), Lib.replaceK [39] [39, 39] k (b :: l) = b :: Lib.replaceK [39] [39, 39] k l
  | 0, l => by rw [Lib.replaceK, Lib.replaceK]
  | k + 1, l => by
    rw [Lib.replaceK, idx_ne b l h]
    have hge := Lib.index_ge l [39]
    by_cases hm : Lib.index l [39] = -1
    · simp [hm, Lib.replaceK]
    · have hb : (Lib.index l [39] == -1) = false := by rw [beq_eq_false_iff_ne]; exact hm
      obtain ⟨i, hi⟩ := Int.eq_ofNat_of_zero_le (show 0 ≤ Lib.index l [39] by omega)
      have hc : ((Lib.index l [39] + 1) == -1) = false := by rw [beq_eq_false_iff_ne]; omega
      rw [hb]
      simp only [Bool.false_eq_true, if_false]
      rw [hc]
      simp only [Bool.false_eq_true, if_false]
      rw [Lib.replaceK, hb, hi]
      have e1 : ((i : Int) + 1).toNat = i + 1 := by omega
      rw [e1]
      simp
theorem quo_eq (l : List UInt8) : Lib.replaceAll l [39] [39, 39] = quoL l := by
  have key : ∀ l : List UInt8, Lib.replaceK [39] [39, 39] (Lib.count l [39]) l = quoL l := by
    intro l
    induction l with
    | nil => rw [Lib.count_one]; rfl
    | cons b l ih =>
      by_cases h : b = 39
      · subst h
        rw [Lib.count_cons_eq, Nat.add_comm, rk_eq, ih]
        unfold quoL
        rw [List.flatMap_cons, if_pos rfl]
      · rw [Lib.count_cons_ne b 39 l h, rk_ne b h, ih]
        unfold quoL
        rw [List.flatMap_cons, if_neg h]
        rfl
  unfold Lib.replaceAll Lib.replace Lib.replaceNum
  rw [if_neg (by decide), if_pos (.inl (by decide))]
  exact key l

/-- The library's table of powers, and its bound of a text, are there. -/
def Tb (w : World) : Prop := Lib.TabIs Tryd.prog w "internal/strconv.uint64pow10" .u64 Lib.pow10Tab ∧ ∃ m : Int, w.cell? ⟨1, 0, none⟩ = some (.int .i64 m)
theorem powAt : ∃ g, Tryd.prog.globalNamed "internal/strconv.uint64pow10" = some g ∧ g < 6 := ⟨0, by kernel_rfl, by decide⟩
theorem var_lt {P : Program} {w : World} {n : String} {g : Nat} {cs : Array Value} (hg : P.globalNamed n = some g) (h : w.var? P n = some cs) : g < w.heap.size := by
  unfold World.var? at h
  rw [hg] at h
  simp only [Option.bind_some] at h
  rcases Nat.lt_or_ge g w.heap.size with h1 | h1
  · exact h1
  · rw [Array.getElem?_eq_none h1] at h; cases h
theorem Tb.below {w w' : World} (h : Tb w) (hb : Below w.heap.size w w') : Tb w' := by
  obtain ⟨h1, m, h2⟩ := h
  obtain ⟨g, hg, _⟩ := powAt
  refine ⟨?_, m, (hb.cell (p := ⟨1, 0, none⟩) (World.block_lt_of_cell? w ⟨1, 0, none⟩ h2)).trans h2⟩
  have hl := var_lt hg h1
  unfold Lib.TabIs at h1 ⊢
  unfold World.var? at h1 ⊢
  rw [hg] at h1 ⊢
  simp only [Option.bind_some] at h1 ⊢
  rw [hb.block g hl]
  exact h1

/-- The literal of a value. -/
def litL (k n : Int) (t : ByteArray) : List UInt8 :=
  if k = 1 then (if n = 1 then [116, 114, 117, 101] else [102, 97, 108, 115, 101]) else if k = 2 then Lib.itoa n else if k = 3 then [39] ++ quoL (bt t) ++ [39] else if k = 4 then [120, 39] ++ hexL (bt t) ++ [39] else [110, 117, 108, 108]

theorem fmtB_any (b : Bool) (w : World) : Calls Tryd.prog 27 #[.bool b] w fun e w' => e = .returned (.string (if b then ⟨#[116, 114, 117, 101]⟩ else ⟨#[102, 97, 108, 115, 101]⟩)) ∧ Below w.heap.size w w' := by
  have hc : ∀ w, Calls Tryd.prog 33 #[.bool b] w fun e w' => e = .returned (.string (if b then ⟨#[116, 114, 117, 101]⟩ else ⟨#[102, 97, 108, 115, 101]⟩)) ∧ Below w.heap.size w w' := fun w => by
    cases b <;> (
      go_enter Tryd.func33, Tryd.ntmps33
      go_wp2
      go_ret
      exact ⟨rfl, Below.refl _ _⟩)
  generalize (if b = true then (⟨#[116, 114, 117, 101]⟩ : ByteArray) else ⟨#[102, 97, 108, 115, 101]⟩) = sb at *
  go_enter Tryd.func27, Tryd.ntmps27
  go_wp2_with fail
  refine (hc _).mono ?_
  rintro e w1 ⟨rfl, b1⟩
  go_wp2
  go_ret
  exact ⟨rfl, b1⟩
theorem below_grow' (w : World) (k : Nat) (os : Array Obj) : Below w.heap.size w (Sort.grow (w.drewN k) os) := Lib.below_grow _ w (Nat.le_refl _) k os

set_option maxRecDepth 100000 in
set_option maxHeartbeats 4000000 in
theorem literal_any (k n : Int) (t : ByteArray) (hok : okV k n t = true) (hr : Rg n) (w : World) (hT : Tb w) : Calls Tryd.prog 17 #[cellV k n t] w fun e w' => e = .returned (.string (tx (litL k n t))) ∧ Below w.heap.size w w' := by
  have hcell : cellV k n t = _ := if_pos hok
  rw [hcell]
  clear hcell
  by_cases k0 : k = 0
  · subst k0
    rw [if_pos rfl]
    have a1 : ∀ w, Sem.run Tryd.prog (Instr.typeAssert (.iface 60 (.agg #[])) 40 61 true) w = .ok (.tuple #[.bool false, .bool false]) w := fun w => by kernel_rfl
    have a2 : ∀ w, Sem.run Tryd.prog (Instr.typeAssert (.iface 60 (.agg #[])) 40 62 true) w = .ok (.tuple #[.int .i64 0, .bool false]) w := fun w => by kernel_rfl
    have a3 : ∀ w, Sem.run Tryd.prog (Instr.typeAssert (.iface 60 (.agg #[])) 40 63 true) w = .ok (.tuple #[.string ⟨#[]⟩, .bool false]) w := fun w => by kernel_rfl
    have a4 : ∀ w, Sem.run Tryd.prog (Instr.typeAssert (.iface 60 (.agg #[])) 40 64 true) w = .ok (.tuple #[.string ⟨#[]⟩, .bool false]) w := fun w => by kernel_rfl
    clear hok hr hT
    go_enter Tryd.func17, Tryd.ntmps17
    go_wp2
    go_ret
    exact ⟨rfl, Below.refl _ _⟩
  rw [if_neg k0]
  by_cases k1 : k = 1
  · subst k1
    rw [if_pos rfl]
    have a1 : ∀ w, Sem.run Tryd.prog (Instr.typeAssert (.iface 61 (.bool (n == 1))) 40 61 true) w = .ok (.tuple #[.bool (n == 1), .bool true]) w := fun w => by kernel_rfl
    have hc := fun w => fmtB_any (n == 1) w
    have HE : Hid ((if (n == 1) = true then (⟨#[116, 114, 117, 101]⟩ : ByteArray) else ⟨#[102, 97, 108, 115, 101]⟩) = tx (litL 1 n t)) := by
      show _ = _
      unfold litL
      rw [if_pos rfl]
      by_cases h : n = 1
      · rw [if_pos h, if_pos (by simp [h])]; rfl
      · rw [if_neg h, if_neg (by simp [h])]; rfl
    clear hok hr hT
    generalize (n == 1) = b at *
    generalize (if b = true then (⟨#[116, 114, 117, 101]⟩ : ByteArray) else ⟨#[102, 97, 108, 115, 101]⟩) = sb at *
    go_enter Tryd.func17, Tryd.ntmps17
    go_wp2_with fail
    refine (hc _).mono ?_
    rintro e w1 ⟨rfl, b1⟩
    go_wp2
    go_ret
    exact ⟨ret_val (congrArg Value.string HE.out), b1⟩
  rw [if_neg k1]
  by_cases k2 : k = 2
  · subst k2
    rw [if_pos rfl]
    have a1 : ∀ w, Sem.run Tryd.prog (Instr.typeAssert (.iface 62 (.int .i64 n)) 40 61 true) w = .ok (.tuple #[.bool false, .bool false]) w := fun w => by kernel_rfl
    have a2 : ∀ w, Sem.run Tryd.prog (Instr.typeAssert (.iface 62 (.int .i64 n)) 40 62 true) w = .ok (.tuple #[.int .i64 n, .bool true]) w := fun w => by kernel_rfl
    have hc : ∀ w, Tb w → Calls Tryd.prog 28 #[.int .i64 n] w fun e w' => e = .returned (.string (tx (Lib.itoa n))) ∧ ∃ k os, w' = Sort.grow (w.drewN k) os := fun w h => Tryd.strconv_Itoa n hr.1 hr.2 w h.1
    have HE : Hid (tx (Lib.itoa n) = tx (litL 2 n t)) := rfl
    clear hok hr
    generalize tx (Lib.itoa n) = sb at *
    go_enter Tryd.func17, Tryd.ntmps17
    go_wp2_with fail
    refine (hc _ hT).mono ?_
    rintro e w1 ⟨rfl, kq, os, rfl⟩
    have hb := below_grow' w kq os
    generalize Sort.grow (w.drewN kq) os = w1 at *
    go_wp2
    go_ret
    exact ⟨ret_val (congrArg Value.string HE.out), hb⟩
  rw [if_neg k2]
  have h60 : t.size ≤ 60 := by
    unfold okV at hok
    rw [if_neg k0, if_neg k1, if_neg k2] at hok
    split at hok
    · simp at hok; omega
    · cases hok
  by_cases k3 : k = 3
  · subst k3
    rw [if_pos rfl]
    have a1 : ∀ w, Sem.run Tryd.prog (Instr.typeAssert (.iface 63 (.string t)) 40 61 true) w = .ok (.tuple #[.bool false, .bool false]) w := fun w => by kernel_rfl
    have a2 : ∀ w, Sem.run Tryd.prog (Instr.typeAssert (.iface 63 (.string t)) 40 62 true) w = .ok (.tuple #[.int .i64 0, .bool false]) w := fun w => by kernel_rfl
    have a3 : ∀ w, Sem.run Tryd.prog (Instr.typeAssert (.iface 63 (.string t)) 40 63 true) w = .ok (.tuple #[.string t, .bool true]) w := fun w => by kernel_rfl
    obtain ⟨m, hm⟩ := hT.2
    have hcb := Lib.countB_le ⟨#[39]⟩ (by decide) t.size t (Nat.le_refl _)
    have hc : Calls Tryd.prog 29 #[.string t, .string ⟨#[39]⟩, .string ⟨#[39, 39]⟩] w fun e w' => e = .returned (.string (tx (quoL (bt t)))) ∧ Below w.heap.size w w' := by
      have h := Tryd.strings_ReplaceAll t ⟨#[39]⟩ ⟨#[39, 39]⟩ m w (by omega) hm (by decide) (by show _ + _ * 2 ≤ _; omega)
      have e : Lib.replaceAll t.data.toList (⟨#[39]⟩ : ByteArray).data.toList (⟨#[39, 39]⟩ : ByteArray).data.toList = quoL (bt t) := quo_eq (bt t)
      rw [e] at h
      exact h
    have hql := quoL_len (bt t)
    rw [bt_size] at hql
    obtain ⟨s1, e1, A1⟩ := addE ⟨#[39]⟩ (tx (quoL (bt t))) (by rw [tx_size]; show 1 + _ ≤ _; omega)
    have z1 := size_bt e1
    rw [List.length_append, bt_tx] at z1
    change s1.size = 1 + _ at z1
    obtain ⟨s2, e2, A2⟩ := addE s1 ⟨#[39]⟩ (by show _ + 1 ≤ _; omega)
    have HE : Hid (s2 = tx (litL 3 n t)) := eq_tx (by rw [e2, e1, bt_tx]; rfl)
    clear hok hr hT hm hcb hql e1 e2 z1
    generalize tx (quoL (bt t)) = sq at *
    go_enter Tryd.func17, Tryd.ntmps17
    go_wp2_with fail
    refine hc.mono ?_
    rintro e w1 ⟨rfl, b1⟩
    clear hc
    go_wp2
    go_ret
    exact ⟨ret_val (congrArg Value.string HE.out), b1⟩
  rw [if_neg k3]
  have k4 : k = 4 := by
    unfold okV at hok
    rw [if_neg k0, if_neg k1, if_neg k2] at hok
    by_cases h : k = 4
    · exact h
    · rw [if_neg (by omega)] at hok; cases hok
  subst k4
  have a1 : ∀ w, Sem.run Tryd.prog (Instr.typeAssert (.iface 64 (.string t)) 40 61 true) w = .ok (.tuple #[.bool false, .bool false]) w := fun w => by kernel_rfl
  have a2 : ∀ w, Sem.run Tryd.prog (Instr.typeAssert (.iface 64 (.string t)) 40 62 true) w = .ok (.tuple #[.int .i64 0, .bool false]) w := fun w => by kernel_rfl
  have a3 : ∀ w, Sem.run Tryd.prog (Instr.typeAssert (.iface 64 (.string t)) 40 63 true) w = .ok (.tuple #[.string ⟨#[]⟩, .bool false]) w := fun w => by kernel_rfl
  have a4 : ∀ w, Sem.run Tryd.prog (Instr.typeAssert (.iface 64 (.string t)) 40 64 true) w = .ok (.tuple #[.string t, .bool true]) w := fun w => by kernel_rfl
  have hc := hexOf_any t h60
  have hql := hexL_len (bt t)
  rw [bt_size] at hql
  obtain ⟨s1, e1, A1⟩ := addE ⟨#[120, 39]⟩ (tx (hexL (bt t))) (by rw [tx_size]; show 2 + _ ≤ _; omega)
  have z1 := size_bt e1
  rw [List.length_append, bt_tx] at z1
  change s1.size = 2 + _ at z1
  obtain ⟨s2, e2, A2⟩ := addE s1 ⟨#[39]⟩ (by show _ + 1 ≤ _; omega)
  have HE : Hid (s2 = tx (litL 4 n t)) := eq_tx (by rw [e2, e1, bt_tx]; rfl)
  clear hok hr hT hql e1 e2 z1
  generalize tx (hexL (bt t)) = sq at *
  go_enter Tryd.func17, Tryd.ntmps17
  go_wp2_with fail
  refine (hc _).mono ?_
  rintro e w1 ⟨rfl, b1⟩
  clear hc
  go_wp2
  go_ret
  exact ⟨ret_val (congrArg Value.string HE.out), b1⟩
theorem litL_len (k n : Int) (t : ByteArray) (hok : okV k n t = true) (hr : Rg n) : (litL k n t).length ≤ 150 := by
  unfold litL
  have h1 := hexL_len (bt t)
  have h2 := quoL_len (bt t)
  have h3 := Lib.itoa_length_le n hr.1 hr.2
  rw [bt_size] at h1 h2
  unfold okV at hok
  split
  · split <;> simp
  · split
    · omega
    · split
      · rename_i a b c
        subst c
        simp at hok
        rw [List.length_append, List.length_append]
        show 1 + _ + 1 ≤ _
        omega
      · split
        · rename_i a b c d
          subst d
          simp at hok
          rw [List.length_append, List.length_append]
          show 2 + _ + 1 ≤ _
          omega
        · simp
end Go.Proofs.YtiimegahhnjjkaaDoor
