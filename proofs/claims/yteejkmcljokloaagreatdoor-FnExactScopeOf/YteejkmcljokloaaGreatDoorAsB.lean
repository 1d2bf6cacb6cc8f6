/- errors.As: what is set, and how a chain of errors is unwrapped (stage 11). -/
import Derived.Test.YteejkmcljokloaaGreatDoorAsA
namespace Go.Proofs.YteejkmcljokloaaGreatDoor
open Go.RowKit Go.Extern.Stop Go.Stop Go.Extern

/-- A chain of errors: a code, or a column or place around another error. -/
inductive Er where
  | nil : Er
  | code (n : Int) : Er
  | col (i : Int) (e : Er) : Er
/-- An error as a value. -/
def erV : Er → Value
  | .nil => .nilIface
  | .code n => .iface 90 (.int .i64 n)
  | .col i e => .iface 95 (.agg #[.int .i64 i, erV e])
def depthE : Er → Nat
  | .nil => 0
  | .code _ => 1
  | .col _ e => depthE e + 1
/-- The code in a chain. -/
def codeE : Er → Option Int
  | .nil => none
  | .code n => some n
  | .col _ e => codeE e
/-- The first column in a chain, and what it is around. -/
def colE : Er → Option (Int × Er)
  | .nil => none
  | .code _ => none
  | .col i e => some (i, e)
theorem Tryz.set90 (ta b : Addr) (n : Int) (old : Value) (W : World) (hb : W.cell? b = some (.int .i64 n)) (ht : W.cell? ta = some old) (hf : W.frozen? ta = false) :
    (ReflectliteValue.set #[.agg #[.pointer (some ⟨2, 90, none⟩), .pointer (some ta), .int .u64 386], .agg #[.pointer (some ⟨2, 90, none⟩), .pointer (some b), .int .u64 130]]).run Tryz.prog W = .ok (.tuple #[]) (W.setCell ta (.int .i64 n)) := by
  rw [rls]
  simp only [Sem.run_bind, Tryz.parts90a, Tryz.parts90, Result.andThen]
  simp [ReflectliteValue.flagAddr, loadVar, isAgg, underlying, Tryz.underlying90, hb, Result.andThen, Tryz.direct90, storeVar, Value.cells, storeCells, Addr.add]
  rw [run_store Tryz.prog W ta _ _ (by rfl)]
  simp [ht, hf]
theorem Tryz.set95 (tb b : Nat) (i : Int) (v old0 old1 : Value) (W : World) (hb0 : W.cell? ⟨b, 0, none⟩ = some (.int .i64 i)) (hb1 : W.cell? ⟨b, 1, none⟩ = some v) (hv : v.oneCell' = true) (ht0 : W.cell? ⟨tb, 0, none⟩ = some old0) (ht1 : W.cell? ⟨tb, 1, none⟩ = some old1) (hf0 : W.frozen? ⟨tb, 0, none⟩ = false) (hf1 : W.frozen? ⟨tb, 1, none⟩ = false) :
    (ReflectliteValue.set #[.agg #[.pointer (some ⟨2, 95, none⟩), .pointer (some ⟨tb, 0, none⟩), .int .u64 409], .agg #[.pointer (some ⟨2, 95, none⟩), .pointer (some ⟨b, 0, none⟩), .int .u64 153]]).run Tryz.prog W = .ok (.tuple #[]) ((W.setCell ⟨tb, 0, none⟩ (.int .i64 i)).setCell ⟨tb, 1, none⟩ v) := by
  rw [rls]
  simp only [Sem.run_bind, Tryz.parts95a, Tryz.parts95, Result.andThen]
  simp [ReflectliteValue.flagAddr, loadVar, loadCells, loadCellsFrom, hb0, hb1, Result.andThen, Tryz.direct95, storeVar, Value.cells, storeCells, Addr.add]
  rw [run_store Tryz.prog W _ _ _ (by rfl)]
  simp only [ht0, hf0]
  have h1 : (W.setCell ⟨tb, 0, none⟩ (.int .i64 i)).cell? ⟨tb, 1, none⟩ = some old1 := (World.cell?_setCell_other _ _ _ _ (by simp)).trans ht1
  have h2 : (W.setCell ⟨tb, 0, none⟩ (.int .i64 i)).frozen? ⟨tb, 1, none⟩ = false := (World.frozen?_setCell _ _ _ _).trans hf1
  simp [run_store Tryz.prog _ _ _ _ hv, h1, h2]
theorem noAs90 (v : Value) (xT : TypeId) (w : World) : (Instr.typeAssert (.iface 90 v) xT 155 true).run Tryz.prog w = .ok (.tuple #[.nilIface, .bool false]) w := run_typeAssert_lacksB Tryz.underlying155 (by kernel_rfl) (by kernel_rfl) v xT w
theorem noUw90 (v : Value) (xT : TypeId) (w : World) : (Instr.typeAssert (.iface 90 v) xT 158 true).run Tryz.prog w = .ok (.tuple #[.nilIface, .bool false]) w := run_typeAssert_lacksB Tryz.underlying158 (by kernel_rfl) (by kernel_rfl) v xT w
theorem noUs90 (v : Value) (xT : TypeId) (w : World) : (Instr.typeAssert (.iface 90 v) xT 160 true).run Tryz.prog w = .ok (.tuple #[.nilIface, .bool false]) w := run_typeAssert_lacksB Tryz.underlying160 (by kernel_rfl) (by kernel_rfl) v xT w
theorem noAs95 (v : Value) (xT : TypeId) (w : World) : (Instr.typeAssert (.iface 95 v) xT 155 true).run Tryz.prog w = .ok (.tuple #[.nilIface, .bool false]) w := run_typeAssert_lacksB Tryz.underlying155 (by kernel_rfl) (by kernel_rfl) v xT w
theorem hasUw95 (v : Value) (xT : TypeId) (w : World) : (Instr.typeAssert (.iface 95 v) xT 158 true).run Tryz.prog w = .ok (.tuple #[.iface 95 v, .bool true]) w := run_typeAssert_hasB Tryz.underlying158 (by kernel_rfl) v xT w
theorem Tryz.methodUw95 (h : Array Value) (w : World) : (Go.method 341 95 (.agg h) "Unwrap").run Tryz.prog w = .ok (174, .agg h) w := by kernel_rfl
set_option maxRecDepth 100000 in
theorem unwrap95_any (i : Int) (v : Value) (w : World) : Calls Tryz.prog 174 #[.agg #[.int .i64 i, v]] w fun e w' => e = .returned v ∧ w' = w.alloc (.cells #[.int .i64 i, v] 95) := by
  go_enter Tryz.func174, Tryz.ntmps174
  go_wp2
  go_ret
  exact ⟨rfl, rfl⟩
end Go.Proofs.YteejkmcljokloaaGreatDoor
