/- errors.Is at nil and at a sectorError, and the code of an error. -/
import Derived.Test.YtgfgaiimigchkaaDoorDiskE
import Derived.LaidEql
import Derived.Stop.Asserts
import Derived.RowKitTokens
namespace Go.Proofs.YtgfgaiimigchkaaDoor
open Go.RowKit Go.Extern.Stop Go.Stop Go.Extern

theorem isTypeOf (v : Value) (w : World) : (Extern.ReflectliteType.typeOf #[.iface 165 v]).run Tryd.prog w = .ok (.iface 152 (.agg #[.pointer (some ⟨5, 165, none⟩)])) w := by kernel_rfl
/-- What the model does at (rtype).Comparable. -/
def cmpX : Array Value → Sem Value := Extern.ReflectliteType.method fun t => do Extern.Rtype.noPackHeld "Comparable" t; pure (.bool (← typeInfo t).comparable)
theorem isComparable (w : World) : (cmpX #[.agg #[.pointer (some ⟨5, 165, none⟩)]]).run Tryd.prog w = .ok (.bool true) w := by kernel_rfl
theorem isMethodComparable (v : Value) (w : World) : (Go.method 298 152 v "Comparable").run Tryd.prog w = .ok (130, v) w := by kernel_rfl
theorem isComp : (Tryd.prog.info? 165).map (·.comparable) = some true := by kernel_rfl
theorem isSize : (Tryd.prog.info? 187).map (·.size) = some 1 := by kernel_rfl
theorem noIsS (v : Value) (xT : TypeId) (w : World) : (Instr.typeAssert (.iface 113 v) xT 154 true).run Tryd.prog w = .ok (.tuple #[.nilIface, .bool false]) w := run_typeAssert_lacksB Tryd.underlying154 (by kernel_rfl) (by kernel_rfl) v xT w
theorem hasUnwrapS (v : Value) (xT : TypeId) (w : World) : (Instr.typeAssert (.iface 113 v) xT 157 true).run Tryd.prog w = .ok (.tuple #[.iface 113 v, .bool true]) w := run_typeAssert_hasB Tryd.underlying157 (by kernel_rfl) v xT w
theorem methodUnwrap (v : Value) (w : World) : (Go.method 298 113 v "Unwrap").run Tryd.prog w = .ok (125, v) w := by kernel_rfl

/-- errors.Is(nil, x). -/
theorem is_nil (t : TypeId) (v : Value) (w : World) :
    Calls Tryd.prog 88 #[.nilIface, .iface t v] w fun e w' => e = .returned (.bool false) ∧ w' = w := by
  have hn := run_eql_iface_nil_left (P := Tryd.prog) w t v Tryd.underlying83
  go_enter Tryd.func88, Tryd.ntmps88
  go_wp2
  go_ret
  exact ⟨rfl, rfl⟩

/-- (sectorError).Unwrap -/
theorem unwrap_any (x : Int) (v : Value) (w : World) (h : ∃ t u, v = .iface t u) :
    Calls Tryd.prog 125 #[.agg #[.int .i64 x, v]] w fun e w' => e = .returned v ∧ Below w.heap.size w w' := by
  obtain ⟨t, u, rfl⟩ := h
  go_enter Tryd.func125, Tryd.ntmps125
  go_wp2
  go_ret
  exact ⟨rfl, (Below.refl _ _).alloc (Nat.le_refl _) _⟩

set_option maxRecDepth 100000 in
set_option maxHeartbeats 4000000 in
/-- errors.Is(e, x), e a sectorError round x. -/
theorem is_wrap (x : Int) (b : Addr) (w : World) :
    Calls Tryd.prog 88 #[.iface 113 (.agg #[.int .i64 x, .iface 165 (.pointer (some b))]), .iface 165 (.pointer (some b))] w fun e w' => e = .returned (.bool true) ∧ Below w.heap.size w w' := by
  obtain ⟨i, hi, hcmp⟩ := Option.map_eq_some_iff.1 isComp
  obtain ⟨j, hj, hjs⟩ := Option.map_eq_some_iff.1 isSize
  have h99 := @run_callFunc_extern Tryd.prog 99 _ Extern.ReflectliteType.typeOf Tryd.func99 (by kernel_rfl) (by kernel_rfl) (by kernel_rfl) (by kernel_rfl)
  have h130 := @run_callFunc_extern Tryd.prog 130 _ cmpX Tryd.func130 (by kernel_rfl) (by kernel_rfl) (by kernel_rfl) (by kernel_rfl)
  have tT := isTypeOf
  have cT := isComparable
  have mR := isMethodComparable
  have nW := noIsS
  have uW := hasUnwrapS
  have mU := methodUnwrap
  have heq := fun w => run_eql_iface_ptr_same (P := Tryd.prog) w b Tryd.underlying83 Tryd.underlying165 hi hcmp hj
  have hty := fun w => run_eql_iface_types (P := Tryd.prog) 113 165 (.agg #[.int .i64 x, .iface 165 (.pointer (some b))]) (.pointer (some b)) Tryd.underlying83 (by decide) w
  go_enter Tryd.func88, Tryd.ntmps88
  go_wp2
  refine wp_loop_rounds 2 ?_
  rw [rounds_succ]
  go_wp2
  rw [rounds_succ]
  go_wp2
  go_ret
  exact ⟨rfl, (Below.refl _ _).alloc (Nat.le_refl _) _⟩

end Go.Proofs.YtgfgaiimigchkaaDoor
