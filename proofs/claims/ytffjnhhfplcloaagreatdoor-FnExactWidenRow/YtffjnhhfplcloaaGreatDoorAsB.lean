/- errors.As: what is set, and how a chain of errors is unwrapped (stage 11). -/
import Derived.Test.YtffjnhhfplcloaaGreatDoorAsA
namespace Go.Proofs.YtffjnhhfplcloaaGreatDoor
open Go.RowKit Go.Extern.Stop Go.Stop Go.Extern

/-- A chain of errors: a code, or a column or place around another error. -/
inductive Er where
  | nil : Er
  | code (n : Int) : Er
  | col (i : Int) (e : Er) : Er
  | plc (i : Int) (e : Er) : Er
/-- An error as a value. -/
def erV : Er → Value
  | .nil => .nilIface
  | .code n => .iface 189 (.int .i64 n)
  | .col i e => .iface 194 (.agg #[.int .i64 i, erV e])
  | .plc i e => .iface 219 (.agg #[.int .i64 i, erV e])
def depthE : Er → Nat
  | .nil => 0
  | .code _ => 1
  | .col _ e => depthE e + 1
  | .plc _ e => depthE e + 1
/-- The code in a chain. -/
def codeE : Er → Option Int
  | .nil => none
  | .code n => some n
  | .col _ e => codeE e
  | .plc _ e => codeE e
/-- The first column in a chain, and what it is around. -/
def colE : Er → Option (Int × Er)
  | .nil => none
  | .code _ => none
  | .col i e => some (i, e)
  | .plc _ e => colE e
/-- The first place in a chain, and what it is around. -/
def plcE : Er → Option (Int × Er)
  | .nil => none
  | .code _ => none
  | .col _ e => plcE e
  | .plc i e => some (i, e)

theorem Tryz.set189 (ta b : Addr) (n : Int) (old : Value) (W : World) (hb : W.cell? b = some (.int .i64 n)) (ht : W.cell? ta = some old) (hf : W.frozen? ta = false) :
    (ReflectliteValue.set #[.agg #[.pointer (some ⟨8, 189, none⟩), .pointer (some ta), .int .u64 386], .agg #[.pointer (some ⟨8, 189, none⟩), .pointer (some b), .int .u64 130]]).run Tryz.prog W = .ok (.tuple #[]) (W.setCell ta (.int .i64 n)) := by
  rw [rls]
  simp only [Sem.run_bind, Tryz.parts189a, Tryz.parts189, Result.andThen]
  simp [ReflectliteValue.flagAddr, loadVar, isAgg, underlying, Tryz.underlying189, hb, Result.andThen, Tryz.direct189, storeVar, Value.cells, storeCells, Addr.add]
  rw [run_store Tryz.prog W ta _ _ (by rfl)]
  simp [ht, hf]
theorem Tryz.set194 (tb b : Nat) (i : Int) (v old0 old1 : Value) (W : World) (hb0 : W.cell? ⟨b, 0, none⟩ = some (.int .i64 i)) (hb1 : W.cell? ⟨b, 1, none⟩ = some v) (hv : v.oneCell' = true) (ht0 : W.cell? ⟨tb, 0, none⟩ = some old0) (ht1 : W.cell? ⟨tb, 1, none⟩ = some old1) (hf0 : W.frozen? ⟨tb, 0, none⟩ = false) (hf1 : W.frozen? ⟨tb, 1, none⟩ = false) :
    (ReflectliteValue.set #[.agg #[.pointer (some ⟨8, 194, none⟩), .pointer (some ⟨tb, 0, none⟩), .int .u64 409], .agg #[.pointer (some ⟨8, 194, none⟩), .pointer (some ⟨b, 0, none⟩), .int .u64 153]]).run Tryz.prog W = .ok (.tuple #[]) ((W.setCell ⟨tb, 0, none⟩ (.int .i64 i)).setCell ⟨tb, 1, none⟩ v) := by
  rw [rls]
  simp only [Sem.run_bind, Tryz.parts194a, Tryz.parts194, Result.andThen]
  simp [ReflectliteValue.flagAddr, loadVar, loadCells, loadCellsFrom, hb0, hb1, Result.andThen, Tryz.direct194, storeVar, Value.cells, storeCells, Addr.add]
  rw [run_store Tryz.prog W _ _ _ (by rfl)]
  simp only [ht0, hf0]
  have h1 : (W.setCell ⟨tb, 0, none⟩ (.int .i64 i)).cell? ⟨tb, 1, none⟩ = some old1 := (World.cell?_setCell_other _ _ _ _ (by simp)).trans ht1
  have h2 : (W.setCell ⟨tb, 0, none⟩ (.int .i64 i)).frozen? ⟨tb, 1, none⟩ = false := (World.frozen?_setCell _ _ _ _).trans hf1
  simp [run_store Tryz.prog _ _ _ _ hv, h1, h2]
theorem Tryz.set219 (tb b : Nat) (i : Int) (v old0 old1 : Value) (W : World) (hb0 : W.cell? ⟨b, 0, none⟩ = some (.int .i64 i)) (hb1 : W.cell? ⟨b, 1, none⟩ = some v) (hv : v.oneCell' = true) (ht0 : W.cell? ⟨tb, 0, none⟩ = some old0) (ht1 : W.cell? ⟨tb, 1, none⟩ = some old1) (hf0 : W.frozen? ⟨tb, 0, none⟩ = false) (hf1 : W.frozen? ⟨tb, 1, none⟩ = false) :
    (ReflectliteValue.set #[.agg #[.pointer (some ⟨8, 219, none⟩), .pointer (some ⟨tb, 0, none⟩), .int .u64 409], .agg #[.pointer (some ⟨8, 219, none⟩), .pointer (some ⟨b, 0, none⟩), .int .u64 153]]).run Tryz.prog W = .ok (.tuple #[]) ((W.setCell ⟨tb, 0, none⟩ (.int .i64 i)).setCell ⟨tb, 1, none⟩ v) := by
  rw [rls]
  simp only [Sem.run_bind, Tryz.parts219a, Tryz.parts219, Result.andThen]
  simp [ReflectliteValue.flagAddr, loadVar, loadCells, loadCellsFrom, hb0, hb1, Result.andThen, Tryz.direct219, storeVar, Value.cells, storeCells, Addr.add]
  rw [run_store Tryz.prog W _ _ _ (by rfl)]
  simp only [ht0, hf0]
  have h1 : (W.setCell ⟨tb, 0, none⟩ (.int .i64 i)).cell? ⟨tb, 1, none⟩ = some old1 := (World.cell?_setCell_other _ _ _ _ (by simp)).trans ht1
  have h2 : (W.setCell ⟨tb, 0, none⟩ (.int .i64 i)).frozen? ⟨tb, 1, none⟩ = false := (World.frozen?_setCell _ _ _ _).trans hf1
  simp [run_store Tryz.prog _ _ _ _ hv, h1, h2]
theorem noAs189 (v : Value) (xT : TypeId) (w : World) : (Instr.typeAssert (.iface 189 v) xT 308 true).run Tryz.prog w = .ok (.tuple #[.nilIface, .bool false]) w := run_typeAssert_lacksB Tryz.underlying308 (by kernel_rfl) (by kernel_rfl) v xT w
theorem noUw189 (v : Value) (xT : TypeId) (w : World) : (Instr.typeAssert (.iface 189 v) xT 311 true).run Tryz.prog w = .ok (.tuple #[.nilIface, .bool false]) w := run_typeAssert_lacksB Tryz.underlying311 (by kernel_rfl) (by kernel_rfl) v xT w
theorem noUs189 (v : Value) (xT : TypeId) (w : World) : (Instr.typeAssert (.iface 189 v) xT 313 true).run Tryz.prog w = .ok (.tuple #[.nilIface, .bool false]) w := run_typeAssert_lacksB Tryz.underlying313 (by kernel_rfl) (by kernel_rfl) v xT w
theorem noAs194 (v : Value) (xT : TypeId) (w : World) : (Instr.typeAssert (.iface 194 v) xT 308 true).run Tryz.prog w = .ok (.tuple #[.nilIface, .bool false]) w := run_typeAssert_lacksB Tryz.underlying308 (by kernel_rfl) (by kernel_rfl) v xT w
theorem hasUw194 (v : Value) (xT : TypeId) (w : World) : (Instr.typeAssert (.iface 194 v) xT 311 true).run Tryz.prog w = .ok (.tuple #[.iface 194 v, .bool true]) w := run_typeAssert_hasB Tryz.underlying311 (by kernel_rfl) v xT w
theorem Tryz.methodUw194 (h : Array Value) (w : World) : (Go.method 488 194 (.agg h) "Unwrap").run Tryz.prog w = .ok (362, .agg h) w := by kernel_rfl
set_option maxRecDepth 100000 in
theorem unwrap194_any (i : Int) (v : Value) (w : World) : Calls Tryz.prog 362 #[.agg #[.int .i64 i, v]] w fun e w' => e = .returned v ∧ w' = w.alloc (.cells #[.int .i64 i, v] 194) := by
  go_enter Tryz.func362, Tryz.ntmps362
  go_wp2
  go_ret
  exact ⟨rfl, rfl⟩
theorem noAs219 (v : Value) (xT : TypeId) (w : World) : (Instr.typeAssert (.iface 219 v) xT 308 true).run Tryz.prog w = .ok (.tuple #[.nilIface, .bool false]) w := run_typeAssert_lacksB Tryz.underlying308 (by kernel_rfl) (by kernel_rfl) v xT w
theorem hasUw219 (v : Value) (xT : TypeId) (w : World) : (Instr.typeAssert (.iface 219 v) xT 311 true).run Tryz.prog w = .ok (.tuple #[.iface 219 v, .bool true]) w := run_typeAssert_hasB Tryz.underlying311 (by kernel_rfl) v xT w
theorem Tryz.methodUw219 (h : Array Value) (w : World) : (Go.method 488 219 (.agg h) "Unwrap").run Tryz.prog w = .ok (364, .agg h) w := by kernel_rfl
set_option maxRecDepth 100000 in
theorem unwrap219_any (i : Int) (v : Value) (w : World) : Calls Tryz.prog 364 #[.agg #[.int .i64 i, v]] w fun e w' => e = .returned v ∧ w' = w.alloc (.cells #[.int .i64 i, v] 219) := by
  go_enter Tryz.func364, Tryz.ntmps364
  go_wp2
  go_ret
  exact ⟨rfl, rfl⟩
end Go.Proofs.YtffjnhhfplcloaaGreatDoor
