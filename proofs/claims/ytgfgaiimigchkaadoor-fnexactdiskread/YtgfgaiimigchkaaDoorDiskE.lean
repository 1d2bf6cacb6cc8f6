/- What both sides' DiskOK answer. -/
import Derived.Test.YtgfgaiimigchkaaDoorDiskD
namespace Go.Proofs.YtgfgaiimigchkaaDoor
open Go.RowKit

def inB (n lo hi : Int) : Bool := decide (lo ≤ n ∧ n ≤ hi)
theorem l01In_any (n lo hi : Int) (w : World) :
    Calls Tryd.prog 54 #[.int .i64 n, .int .i64 lo, .int .i64 hi] w fun e w' => e = .returned (.bool (inB n lo hi)) ∧ w' = w := by
  by_cases h1 : lo ≤ n
  · by_cases h2 : n ≤ hi
    · have H : Hid (inB n lo hi = true) := decide_eq_true ⟨h1, h2⟩
      go_enter Tryd.func54, Tryd.ntmps54
      go_wp2
      go_ret
      exact ⟨ret_bool' H.out.symm, rfl⟩
    · have H : Hid (inB n lo hi = false) := decide_eq_false (by omega)
      go_enter Tryd.func54, Tryd.ntmps54
      go_wp2
      go_ret
      exact ⟨ret_bool' H.out.symm, rfl⟩
  · have H : Hid (inB n lo hi = false) := decide_eq_false (by omega)
    go_enter Tryd.func54, Tryd.ntmps54
    go_wp2
    go_ret
    exact ⟨ret_bool' H.out.symm, rfl⟩

def okAt (x : Int) (n : Nat) : Bool := decide (0 ≤ x ∧ x < n)
/-- A right disk, as the document's chapter 3 has it. -/
def okDisk (ss : List ByteArray) (ps : List P2) : Bool :=
  decide (1 ≤ ss.length ∧ ss.length ≤ 256 ∧ ps.length ≤ 4096) && ss.all (fun s => decide (s.size = 32)) && ps.all (fun p => okAt p.1 ss.length && decide (p.2.size = 32))

theorem okDisk_head {ss : List ByteArray} {ps : List P2} (h : ¬ (1 ≤ ss.length ∧ ss.length ≤ 256 ∧ ps.length ≤ 4096)) : okDisk ss ps = false := by
  unfold okDisk; rw [decide_eq_false h]; rfl
theorem nthS_get {ss : List ByteArray} {k : Nat} (hk : k < ss.length) : nthS ss k = ss[k] := by
  unfold nthS; rw [List.getD_eq_getElem?_getD, List.getElem?_eq_getElem hk]; rfl
theorem nthP_get {ps : List P2} {k : Nat} (hk : k < ps.length) : nthP ps k = ps[k] := by
  unfold nthP; rw [List.getD_eq_getElem?_getD, List.getElem?_eq_getElem hk]; rfl
theorem okDisk_badS {ss : List ByteArray} {ps : List P2} {k : Nat} (hk : k < ss.length) (h : (nthS ss k).size ≠ 32) : okDisk ss ps = false := by
  unfold okDisk
  have : ss.all (fun s => decide (s.size = 32)) = false := by
    rw [List.all_eq_false]
    exact ⟨ss[k], List.getElem_mem hk, by rw [nthS_get hk] at h; simpa using h⟩
  rw [this]; simp
theorem okDisk_badP {ss : List ByteArray} {ps : List P2} {k : Nat} (hk : k < ps.length) (h : ¬ (okAt (nthP ps k).1 ss.length = true ∧ (nthP ps k).2.size = 32)) : okDisk ss ps = false := by
  unfold okDisk
  have : ps.all (fun p => okAt p.1 ss.length && decide (p.2.size = 32)) = false := by
    rw [List.all_eq_false]
    exact ⟨ps[k], List.getElem_mem hk, by rw [nthP_get hk] at h; simpa using h⟩
  rw [this]; simp
theorem okDisk_good {ss : List ByteArray} {ps : List P2} (h : 1 ≤ ss.length ∧ ss.length ≤ 256 ∧ ps.length ≤ 4096) (hs : ∀ j, j < ss.length → (nthS ss j).size = 32)
    (hp : ∀ j, j < ps.length → okAt (nthP ps j).1 ss.length = true ∧ (nthP ps j).2.size = 32) : okDisk ss ps = true := by
  unfold okDisk
  simp only [Bool.and_eq_true, decide_eq_true_eq, List.all_eq_true]
  refine ⟨⟨h, fun x hx => ?_⟩, fun x hx => ?_⟩
  · obtain ⟨i, hi, rfl⟩ := List.getElem_of_mem hx
    rw [← nthS_get hi]; exact hs i hi
  · obtain ⟨i, hi, rfl⟩ := List.getElem_of_mem hx
    rw [← nthP_get hi]; exact hp i hi
theorem okDisk_parts {ss : List ByteArray} {ps : List P2} (h : okDisk ss ps = true) : (1 ≤ ss.length ∧ ss.length ≤ 256 ∧ ps.length ≤ 4096) ∧ (∀ j, j < ss.length → (nthS ss j).size = 32) ∧ (∀ j, j < ps.length → (0 ≤ (nthP ps j).1 ∧ (nthP ps j).1 < ss.length) ∧ (nthP ps j).2.size = 32) := by
  unfold okDisk at h
  simp only [Bool.and_eq_true, decide_eq_true_eq, List.all_eq_true] at h
  refine ⟨h.1.1, fun j hj => by rw [nthS_get hj]; exact h.1.2 _ (List.getElem_mem hj), fun j hj => ?_⟩
  have := h.2 _ (List.getElem_mem hj)
  rw [← nthP_get hj] at this
  exact ⟨by simpa [okAt] using this.1, this.2⟩

/-- The two variables that a test may read. -/
abbrev Gl (w : World) (e0 e1 : Value) : Prop := w.cell? ⟨0, 0, none⟩ = some e0 ∧ w.cell? ⟨1, 0, none⟩ = some e1
theorem Gl.below {w w' : World} {e0 e1 : Value} (h : Gl w e0 e1) (hb : Below w.heap.size w w') : Gl w' e0 e1 :=
  ⟨(hb.cell (p := ⟨0, 0, none⟩) (World.block_lt_of_cell? w ⟨0, 0, none⟩ h.1)).trans h.1, (hb.cell (p := ⟨1, 0, none⟩) (World.block_lt_of_cell? w ⟨1, 0, none⟩ h.2)).trans h.2⟩

def secErr (x : Int) (n : Nat) (e1 : Value) : Value := if okAt x n then .nilIface else .iface 113 (.agg #[.int .i64 x, e1])
def wrErr (p : P2) (n : Nat) (e0 e1 : Value) : Value := if okAt p.1 n then (if p.2.size = 32 then .nilIface else .iface 113 (.agg #[.int .i64 p.1, e0])) else .iface 113 (.agg #[.int .i64 p.1, e1])

theorem checkSector_any (x : Int) (a a' : Option Addr) (n c n' c' : Nat) (t0 t1 : TypeId) (v0 v1 : Value) (w : World) (hg : Gl w (.iface t0 v0) (.iface t1 v1)) :
    Calls Tryd.prog 80 #[DV a n c a' n' c', .int .i64 x] w fun e w' => e = .returned (secErr x n (.iface t1 v1)) ∧ Below w.heap.size w w' := by
  have hg1 : (w.alloc (.cells #[.slice a n c, .slice a' n' c'] 28)).cell? ⟨1, 0, none⟩ = some (.iface t1 v1) := (Gl.below hg ((Below.refl _ _).alloc (Nat.le_refl _) _)).2
  clear hg
  by_cases h1 : 0 ≤ x
  · by_cases h2 : x < n
    · have H : Hid (secErr x n (.iface t1 v1) = .nilIface) := by show _ = _; unfold secErr okAt; rw [if_pos (decide_eq_true ⟨h1, h2⟩)]
      go_enter Tryd.func80, Tryd.ntmps80
      go_wp2
      go_ret
      exact ⟨ret_val H.out.symm, (Below.refl _ _).alloc (Nat.le_refl _) _⟩
    · have H : Hid (secErr x n (.iface t1 v1) = .iface 113 (.agg #[.int .i64 x, .iface t1 v1])) := by show _ = _; unfold secErr okAt; rw [if_neg (by simp; omega)]
      go_enter Tryd.func80, Tryd.ntmps80
      go_wp2
      go_ret
      exact ⟨ret_val H.out.symm, (Below.refl _ _).alloc (Nat.le_refl _) _⟩
  · have H : Hid (secErr x n (.iface t1 v1) = .iface 113 (.agg #[.int .i64 x, .iface t1 v1])) := by show _ = _; unfold secErr okAt; rw [if_neg (by simp; omega)]
    go_enter Tryd.func80, Tryd.ntmps80
    go_wp2
    go_ret
    exact ⟨ret_val H.out.symm, (Below.refl _ _).alloc (Nat.le_refl _) _⟩

set_option maxRecDepth 100000 in
theorem checkWrite_any (x : Int) (t : ByteArray) (a a' : Option Addr) (n c n' c' : Nat) (t0 t1 : TypeId) (v0 v1 : Value) (w : World) (hg : Gl w (.iface t0 v0) (.iface t1 v1)) :
    Calls Tryd.prog 47 #[DV a n c a' n' c', .agg #[.int .i64 x, .string t]] w fun e w' => e = .returned (wrErr (x, t) n (.iface t0 v0) (.iface t1 v1)) ∧ Below w.heap.size w w' := by
  have B0 : Below w.heap.size w ((w.alloc (.cells #[.slice a n c, .slice a' n' c'] 28)).alloc (.cells #[.int .i64 x, .string t] 46)) := ((Below.refl _ _).alloc (Nat.le_refl _) _).alloc (by simp) _
  have HG : Hid (Gl w (.iface t0 v0) (.iface t1 v1)) := hg
  clear hg
  by_cases h1 : okAt x n = true
  · have hs : secErr x n (.iface t1 v1) = .nilIface := by unfold secErr; rw [if_pos h1]
    by_cases h2 : t.size = 32
    · have H : Hid (wrErr (x, t) n (.iface t0 v0) (.iface t1 v1) = .nilIface) := by show _ = _; unfold wrErr; rw [if_pos h1, if_pos h2]
      go_enter Tryd.func47, Tryd.ntmps47
      go_wp2_with fail
      refine (checkSector_any x a a' n c n' c' t0 t1 v0 v1 _ (Gl.below HG.out B0)).mono ?_
      rintro e w1 ⟨rfl, hb1⟩
      rw [hs]
      have B1 := B0.trans (hb1.mono B0.size)
      have d1 : w1.cell? ⟨w.heap.size + 1, 1, none⟩ = some (.string t) := (hb1.cell (p := ⟨w.heap.size + 1, 1, none⟩) (by simp)).trans (by go_simp)
      clear hb1 B0 hs
      go_wp2
      go_ret
      exact ⟨ret_val H.out.symm, B1⟩
    · have H : Hid (wrErr (x, t) n (.iface t0 v0) (.iface t1 v1) = .iface 113 (.agg #[.int .i64 x, .iface t0 v0])) := by show _ = _; unfold wrErr; rw [if_pos h1, if_neg h2]
      go_enter Tryd.func47, Tryd.ntmps47
      go_wp2_with fail
      refine (checkSector_any x a a' n c n' c' t0 t1 v0 v1 _ (Gl.below HG.out B0)).mono ?_
      rintro e w1 ⟨rfl, hb1⟩
      rw [hs]
      have B1 := B0.trans (hb1.mono B0.size)
      have d0 : w1.cell? ⟨w.heap.size + 1, 0, none⟩ = some (.int .i64 x) := (hb1.cell (p := ⟨w.heap.size + 1, 0, none⟩) (by simp)).trans (by go_simp)
      have d1 : w1.cell? ⟨w.heap.size + 1, 1, none⟩ = some (.string t) := (hb1.cell (p := ⟨w.heap.size + 1, 1, none⟩) (by simp)).trans (by go_simp)
      have g0 := (Gl.below HG.out B1).1
      have h2' : ¬ (t.size : Int) = 32 := by omega
      clear hb1 B0 hs
      go_wp2
      go_ret
      exact ⟨ret_val H.out.symm, B1⟩
  · have hs : secErr x n (.iface t1 v1) = .iface 113 (.agg #[.int .i64 x, .iface t1 v1]) := by unfold secErr; rw [if_neg h1]
    have H : Hid (wrErr (x, t) n (.iface t0 v0) (.iface t1 v1) = .iface 113 (.agg #[.int .i64 x, .iface t1 v1])) := by show _ = _; unfold wrErr; rw [if_neg h1]
    go_enter Tryd.func47, Tryd.ntmps47
    go_wp2_with fail
    refine (checkSector_any x a a' n c n' c' t0 t1 v0 v1 _ (Gl.below HG.out B0)).mono ?_
    rintro e w1 ⟨rfl, hb1⟩
    rw [hs]
    have B1 := B0.trans (hb1.mono B0.size)
    clear hb1 B0 hs
    go_wp2
    go_ret
    exact ⟨ret_val H.out.symm, B1⟩
end Go.Proofs.YtgfgaiimigchkaaDoor
