/- What impl and spec answer when a sector is read. -/
import Derived.Test.YtgfgaiimigchkaaDoorReadB
import Derived.Test.YtgfgaiimigchkaaDoorIs
namespace Go.Proofs.YtgfgaiimigchkaaDoor
open Go.RowKit Go.Shelf

attribute [local go_sem] Oper.semAt_some

set_option maxRecDepth 100000 in
set_option maxHeartbeats 4000000 in
theorem readSector_bad (a a' : Option Addr) (c c' : Nat) (ss : List ByteArray) (ps : List P2) (x : Int) (t0 t1 : TypeId) (v0 v1 : Value) (w : World) (hg : Gl w (.iface t0 v0) (.iface t1 v1)) (hx : okAt x ss.length = false) :
    Calls Tryd.prog 60 #[DV a ss.length c a' ps.length c', .int .i64 x] w fun e w' => e = .returned (.tuple #[.string ⟨#[]⟩, .iface 113 (.agg #[.int .i64 x, .iface t1 v1])]) ∧ Below w.heap.size w w' := by
  have HG : Hid (Gl w (.iface t0 v0) (.iface t1 v1)) := hg
  have hsec : secErr x ss.length (.iface t1 v1) = .iface 113 (.agg #[.int .i64 x, .iface t1 v1]) := by unfold secErr; rw [hx]; rfl
  have HSec : Hid (secErr x ss.length (.iface t1 v1) = .iface 113 (.agg #[.int .i64 x, .iface t1 v1])) := hsec
  clear hg hsec hx
  refine (callsIn_wide (n := 3)).1 ?_
  refine callsIn_of_wp_marks Tryd.func60 rfl trivial ?_ rfl
  simp only [Tryd.ntmps60, List.size_toArray, List.length_cons, List.length_nil, Nat.reduceAdd, Nat.reduceSub, Array.replicate_succ, Array.replicate_zero, List.push_toArray, List.append_toArray, List.nil_append, List.cons_append]
  have A0 : Below w.heap.size w ((((w.alloc (.cells #[.slice a ss.length c, .slice a' ps.length c'] 28)).alloc (.cells #[.int .i64 x] 3)).alloc (.cells #[.string ⟨#[]⟩] 9)).alloc (.cells #[.nilIface] 83)) := ((((Below.refl _ _).alloc (Nat.le_refl _) _).alloc (by simp) _).alloc (by simp; omega) _).alloc (by simp; omega) _
  have r0 : ((((w.alloc (.cells #[.slice a ss.length c, .slice a' ps.length c'] 28)).alloc (.cells #[.int .i64 x] 3)).alloc (.cells #[.string ⟨#[]⟩] 9)).alloc (.cells #[.nilIface] 83)).cell? ⟨w.heap.size + 1 + 1, 0, none⟩ = some (.string ⟨#[]⟩) := by go_simp
  have r1 : ((((w.alloc (.cells #[.slice a ss.length c, .slice a' ps.length c'] 28)).alloc (.cells #[.int .i64 x] 3)).alloc (.cells #[.string ⟨#[]⟩] 9)).alloc (.cells #[.nilIface] 83)).cell? ⟨w.heap.size + 1 + 1 + 1, 0, none⟩ = some .nilIface := by go_simp
  have f0 : ((((w.alloc (.cells #[.slice a ss.length c, .slice a' ps.length c'] 28)).alloc (.cells #[.int .i64 x] 3)).alloc (.cells #[.string ⟨#[]⟩] 9)).alloc (.cells #[.nilIface] 83)).frozen? ⟨w.heap.size + 1 + 1, 0, none⟩ = false := by go_simp
  have f1 : ((((w.alloc (.cells #[.slice a ss.length c, .slice a' ps.length c'] 28)).alloc (.cells #[.int .i64 x] 3)).alloc (.cells #[.string ⟨#[]⟩] 9)).alloc (.cells #[.nilIface] 83)).frozen? ⟨w.heap.size + 1 + 1 + 1, 0, none⟩ = false := by go_simp
  have R0 : Hid _ := r0
  have R1 : Hid _ := r1
  have F0 : Hid _ := f0
  have F1 : Hid _ := f1
  clear r0 r1 f0 f1
  gi_wp2_with fail
  refine ⟨trivial, ?_⟩
  refine (callsIn_wide.2 (checkSector_any x a a' ss.length c ps.length c' t0 t1 v0 v1 _ (Gl.below HG.out A0))).mono ?_
  rintro e w1 ⟨rfl, hb1⟩
  rw [HSec.out]
  have B1 := A0.trans (hb1.mono A0.size)
  have q3 := (hb1.cell (p := ⟨w.heap.size + 1 + 1, 0, none⟩) (by simp)).trans R0.out
  have q4 := (hb1.cell (p := ⟨w.heap.size + 1 + 1 + 1, 0, none⟩) (by simp)).trans R1.out
  have q5 := (hb1.frozen (p := ⟨w.heap.size + 1 + 1, 0, none⟩) (by simp)).trans F0.out
  have q6 := (hb1.frozen (p := ⟨w.heap.size + 1 + 1 + 1, 0, none⟩) (by simp)).trans F1.out
  clear A0 hb1 R0 R1 F0 F1
  gi_wp2
  have k5 : ((w1.setCell ⟨w.heap.size + 1 + 1, 0, none⟩ (.string ⟨#[]⟩)).setCell ⟨w.heap.size + 1 + 1 + 1, 0, none⟩ (.iface 113 (.agg #[.int .i64 x, .iface t1 v1]))).cell? ⟨w.heap.size + 1 + 1, 0, none⟩ = some (.string ⟨#[]⟩) := by go_simp
  have k6 : ((w1.setCell ⟨w.heap.size + 1 + 1, 0, none⟩ (.string ⟨#[]⟩)).setCell ⟨w.heap.size + 1 + 1 + 1, 0, none⟩ (.iface 113 (.agg #[.int .i64 x, .iface t1 v1]))).cell? ⟨w.heap.size + 1 + 1 + 1, 0, none⟩ = some (.iface 113 (.agg #[.int .i64 x, .iface t1 v1])) := by go_simp
  refine ⟨.tuple #[.string ⟨#[]⟩, .iface 113 (.agg #[.int .i64 x, .iface t1 v1])], ?_, rfl, ?_⟩
  · simp [results, Tryd.f60, go_sem, k5, k6]
  · exact (B1.setCell (p := ⟨w.heap.size + 1 + 1, 0, none⟩) (by show w.heap.size ≤ w.heap.size + 1 + 1; omega) _).setCell (p := ⟨w.heap.size + 1 + 1 + 1, 0, none⟩) (by show w.heap.size ≤ w.heap.size + 1 + 1 + 1; omega) _

/-- The four variables. -/
abbrev Gl4 (w : World) (b : Addr) (e0 e2 e3 : TypeId × Value) : Prop := Gl w (.iface e0.1 e0.2) (.iface 165 (.pointer (some b))) ∧ w.cell? ⟨2, 0, none⟩ = some (.iface e2.1 e2.2) ∧ w.cell? ⟨3, 0, none⟩ = some (.iface e3.1 e3.2)
theorem Gl4.below {w w' : World} {b : Addr} {e0 e2 e3 : TypeId × Value} (h : Gl4 w b e0 e2 e3) (hb : Below w.heap.size w w') : Gl4 w' b e0 e2 e3 :=
  ⟨Gl.below h.1 hb, (hb.cell (World.block_lt_of_cell? _ _ h.2.1)).trans h.2.1, (hb.cell (World.block_lt_of_cell? _ _ h.2.2)).trans h.2.2⟩

set_option maxRecDepth 100000 in
theorem diskCode_nil (b : Addr) (e0 e2 e3 : TypeId × Value) (w : World) (hg : Gl4 w b e0 e2 e3) :
    Calls Tryd.prog 61 #[.nilIface] w fun e w' => e = .returned (.int .i64 0) ∧ w' = w := by
  obtain ⟨⟨g0, g1⟩, g2, g3⟩ := hg
  go_enter Tryd.func61, Tryd.ntmps61
  go_wp2_with fail
  refine (is_nil _ _ _).mono ?_
  rintro e w1 ⟨rfl, rfl⟩
  go_wp2_with fail
  refine (is_nil _ _ _).mono ?_
  rintro e w1 ⟨rfl, rfl⟩
  go_wp2_with fail
  refine (is_nil _ _ _).mono ?_
  rintro e w1 ⟨rfl, rfl⟩
  go_wp2_with fail
  refine (is_nil _ _ _).mono ?_
  rintro e w1 ⟨rfl, rfl⟩
  go_wp2
  go_ret
  exact ⟨rfl, rfl⟩

set_option maxRecDepth 100000 in
theorem diskCode_bad (x : Int) (b : Addr) (e0 e2 e3 : TypeId × Value) (w : World) (hg : Gl4 w b e0 e2 e3) :
    Calls Tryd.prog 61 #[.iface 113 (.agg #[.int .i64 x, .iface 165 (.pointer (some b))])] w fun e w' => e = .returned (.int .i64 4) ∧ Below w.heap.size w w' := by
  obtain ⟨⟨g0, g1⟩, g2, g3⟩ := hg
  go_enter Tryd.func61, Tryd.ntmps61
  go_wp2_with fail
  refine (is_wrap x b w).mono ?_
  rintro e w1 ⟨rfl, hb⟩
  clear g0 g1 g2 g3
  go_wp2
  go_ret
  exact ⟨rfl, hb⟩

end Go.Proofs.YtgfgaiimigchkaaDoor
