/- Lists of transactions, and bases: measured, copied (stage 7). -/
import Derived.Test.YtmkagolechjjkaaVrA
import Derived.Test.YtmkagolechjjkaaVrB
namespace Go.Proofs.Ytmkagolechjjkaa
open Go.RowKit

theorem set_oth {w : World} {p : Addr} {g : Nat} (v : Value) (h : p.block ≠ g) : (w.setCell p v).heap[g]? = w.heap[g]? := by
  simp [World.setCell, Array.getElem?_modify, h]
theorem kpBlk {w w' : World} {B g : Nat} {o : Obj} (h : w.heap[g]? = some o) (hb : Below B w w') (hg : g < B) : w'.heap[g]? = some o := (hb.block g hg).trans h
/-- A transaction: whether it is open, its snapshot, its writes. -/
abbrev TX : Type := Bool × Int × List TW
def nthX (xs : List TX) (i : Nat) : TX := xs.getD i (false, 0, [])
/-- A transaction lies at o of block b, its writes at wa. -/
abbrev CellX (w : World) (b o : Nat) (wa : Option Addr) (wc : Nat) (x : TX) : Prop := w.cell? ⟨b, o, none⟩ = some (.bool x.1) ∧ w.cell? ⟨b, o + 1, none⟩ = some (.int .i64 x.2.1) ∧ w.cell? ⟨b, o + 2, none⟩ = some (.slice wa x.2.2.length wc)
theorem CellX.below {w w' : World} {b o : Nat} {wa : Option Addr} {wc : Nat} {x : TX} (h : CellX w b o wa wc x) (hl : b < w.heap.size) (hb : Below w.heap.size w w') : CellX w' b o wa wc x := ⟨(hb.cell (p := ⟨b, o, none⟩) hl).trans h.1, (hb.cell (p := ⟨b, o + 1, none⟩) hl).trans h.2.1, (hb.cell (p := ⟨b, o + 2, none⟩) hl).trans h.2.2⟩
/-- The transactions xs can be read at a. -/
def RowX (w : World) (a : Option Addr) (xs : List TX) : Prop := ∀ i, i < xs.length → ∃ b off wa wc, a = some ⟨b, off, none⟩ ∧ b < w.heap.size ∧ CellX w b (off + i * 3) wa wc (nthX xs i) ∧ RowW w wa (nthX xs i).2.2 ∧ (nthX xs i).2.2.length ≤ maxLen
theorem RowX.below {w w' : World} {a : Option Addr} {xs : List TX} (h : RowX w a xs) (hb : Below w.heap.size w w') : RowX w' a xs := fun i hi => by
  obtain ⟨b, off, wa, wc, e, hlt, hc, hr, hl⟩ := h i hi
  exact ⟨b, off, wa, wc, e, Nat.lt_of_lt_of_le hlt hb.size, hc.below hlt hb, hr.below hb, hl⟩
def SmallX (x : TX) : Prop := x.2.2.length ≤ 1048576 ∧ ∀ i, i < x.2.2.length → SmallW (nthW x.2.2 i)
abbrev ValX (o : Bool) (n : Int) (v : Value) : Value := .agg #[.bool o, .int .i64 n, v]

set_option maxRecDepth 100000 in
theorem szX1_any (o : Bool) (n : Int) (wa : Option Addr) (wc : Nat) (ws : List TW) (left : Int) (w : World) (h : RowW w wa ws) (hl : ws.length ≤ maxLen) (h0 : 0 ≤ left) (h1 : left ≤ 1048576) :
    Calls Try.prog 59 #[ValX o n (.slice wa ws.length wc), .int .i64 left] w fun e w' => ∃ r : Int, e = .returned (.int .i64 r) ∧ -1 ≤ r ∧ r ≤ left ∧ (0 ≤ r → SmallX (o, n, ws)) ∧ Below w.heap.size w w' := by
  have HR : Hid (RowW w wa ws) := h
  have HL : Hid (ws.length ≤ maxLen) := hl
  clear h hl
  have B0 : Below w.heap.size w (w.alloc (.cells #[.bool o, .int .i64 n, .slice wa ws.length wc] 91)) := (Below.refl _ _).alloc (Nat.le_refl _) _
  go_enter Try.func59, Try.ntmps59
  go_wp2_with fail
  refine (szW_any wa wc ws left _ (HR.out.below B0) HL.out h0 h1).mono ?_
  rintro e w1 ⟨x, rfl, x0, x1, x2, b1⟩
  have B1 := below_step B0 (Nat.le_refl _) b1
  by_cases hx : x < 0
  · go_wp2
    go_ret
    exact ⟨-1, rfl, by omega, by omega, fun h => by omega, B1⟩
  have HS : Hid (SmallX (o, n, ws)) := ⟨by have := (x2 (by omega)).1; show ws.length ≤ _; omega, (x2 (by omega)).2⟩
  clear x2
  go_wp2
  go_ret
  exact ⟨x, rfl, by omega, by omega, fun _ => HS.out, B1⟩

set_option maxRecDepth 100000 in
set_option maxHeartbeats 1000000 in
theorem szX_any (a : Option Addr) (cap : Nat) (ss : List TX) (left : Int) (w : World) (hrow : RowX w a ss) (hlen : ss.length ≤ maxLen) (h0 : 0 ≤ left) (h1 : left ≤ 1048576) :
    Calls Try.prog 34 #[.slice a ss.length cap, .int .i64 left] w fun e w' => ∃ r : Int, e = .returned (.int .i64 r) ∧ -1 ≤ r ∧ r ≤ left ∧ (0 ≤ r → (ss.length : Int) ≤ left ∧ ∀ i, i < ss.length → SmallX (nthX ss i)) ∧ Below w.heap.size w w' := by
  unfold maxLen at hlen
  have HR : Hid (RowX w a ss) := hrow
  clear hrow
  generalize hL : ss.length = len at *
  have HL : Hid (ss.length = len) := hL
  clear hL
  by_cases hlt : left - (len : Int) < 0
  · go_enter Try.func34, Try.ntmps34
    go_wp2
    go_ret
    exact ⟨-1, rfl, by omega, by omega, fun h => by omega, Below.refl _ _⟩
  · go_enter Try.func34, Try.ntmps34
    go_wp2
    go_loopw [1, 5] (fun l i wr => ∃ (k : Nat) (l' : Int), k ≤ len ∧ i = .int .i64 k ∧ l = .int .i64 l' ∧ 0 ≤ l' ∧ l' ≤ left ∧ Hid (∀ i, i < k → SmallX (nthX ss i)) ∧ Below w.heap.size w wr) (fun _ i _ => len - (intOf i).toNat)
    case atStart => exact ⟨0, _, by omega, rfl, rfl, by omega, by omega, fun i hi => by omega, Below.refl _ _⟩
    case round =>
      obtain ⟨k, l', hk, rfl, rfl, hl0, hl1, HS, hbl⟩ := hrel
      by_cases hlt : k < len
      · obtain ⟨b, off, wa, wc, rfl, hlb, ⟨q0, q1, q2⟩, hr, hl⟩ := (HR.out.below hbl) k (by rw [HL.out]; exact hlt)
        have HS' : Hid (SmallX (nthX ss k) → ∀ i, i < k + 1 → SmallX (nthX ss i)) := fun h i hi => by
          by_cases e : i = k
          · rw [e]; exact h
          · exact HS.out i (by omega)
        have HRr : Hid (RowW wr wa (nthX ss k).2.2 ∧ (nthX ss k).2.2.length ≤ maxLen) := ⟨hr, hl⟩
        clear hr hl
        generalize nthX ss k = nd at *
        obtain ⟨ox, nx, ws⟩ := nd
        simp only at q0 q1 q2
        go_wp2_with fail
        refine (szX1_any ox nx wa wc ws l' wr HRr.out.1 HRr.out.2 hl0 (by omega)).mono ?_
        rintro e w1 ⟨r, rfl, r0, r1, r2, hb1⟩
        have hB := below_step hbl (Nat.le_refl _) hb1
        by_cases hneg : r < 0
        · go_wp2
          go_ret
          exact ⟨-1, rfl, by omega, by omega, fun h => by omega, hB⟩
        · have HN : Hid (∀ i, i < k + 1 → SmallX (nthX ss i)) := HS'.out (r2 (by omega))
          clear q0 q1 q2 hb1 hlb r2 HS'
          go_wp2
          go_roundw
          case rel => exact ⟨k + 1, _, by omega, by go_num, rfl, by omega, by omega, HN, hB⟩
          case measure => simp [intOf]; omega
      · obtain rfl : k = len := by omega
        go_wp2
        go_ret
        exact ⟨l', rfl, by omega, by omega, fun _ => ⟨by omega, HS.out⟩, hbl⟩
/-- A base as a value. -/
abbrev BW (t : Int) (v x : Value) : Value := .agg #[.int .i64 t, v, x]
set_option maxRecDepth 100000 in
theorem szB_any (t : Int) (va xa : Option Addr) (vc xc : Nat) (vs : List TV) (xs : List TX) (left : Int) (w : World) (hv : RowV w va vs) (hx : RowX w xa xs) (lv : vs.length ≤ maxLen) (lx : xs.length ≤ maxLen) (h0 : 0 ≤ left) (h1 : left ≤ 1048576) :
    Calls Try.prog 13 #[BW t (.slice va vs.length vc) (.slice xa xs.length xc), .int .i64 left] w fun e w' => ∃ r : Int, e = .returned (.int .i64 r) ∧ -1 ≤ r ∧ r ≤ left ∧ (0 ≤ r → (vs.length ≤ 1048576 ∧ ∀ i, i < vs.length → SmallV (nthV vs i)) ∧ xs.length ≤ 1048576 ∧ ∀ i, i < xs.length → SmallX (nthX xs i)) ∧ Below w.heap.size w w' := by
  have HV : Hid (RowV w va vs ∧ vs.length ≤ maxLen) := ⟨hv, lv⟩
  have HX : Hid (RowX w xa xs ∧ xs.length ≤ maxLen) := ⟨hx, lx⟩
  clear hv hx lv lx
  obtain ⟨W0, hW0⟩ : ∃ W0, w.alloc (.cells #[.int .i64 t, .slice va vs.length vc, .slice xa xs.length xc] 33) = W0 := ⟨_, rfl⟩
  have B0 : Below w.heap.size w W0 := hW0 ▸ (Below.refl _ _).alloc (Nat.le_refl _) _
  have X0 : Hid (W0.heap[w.heap.size]? = some (.cells #[.int .i64 t, .slice va vs.length vc, .slice xa xs.length xc] 33 (0, 0))) := (hW0 ▸ heap_new' _ _ _ rfl : W0.heap[w.heap.size]? = _)
  have c1 : W0.cell? ⟨w.heap.size, 1, none⟩ = some (.slice va vs.length vc) := by simp [World.cell?, X0.out]
  go_enter Try.func13, Try.ntmps13
  go_wp2_with fail
  refine (szV_any va vc vs left W0 (HV.out.1.below B0) HV.out.2 h0 h1).mono ?_
  rintro e w1 ⟨x, rfl, x0, x1, x2, b1⟩
  have B1 := below_step B0 (Nat.le_refl _) b1
  have xx := kpBlk X0.out b1 (slab_lt X0.out)
  have c2 : w1.cell? ⟨w.heap.size, 2, none⟩ = some (.slice xa xs.length xc) := by simp [World.cell?, xx]
  clear xx b1 B0 c1 X0
  by_cases hx : x < 0
  · go_wp2
    go_ret
    exact ⟨-1, rfl, by omega, by omega, fun h => by omega, B1⟩
  have HS : Hid (vs.length ≤ 1048576 ∧ ∀ i, i < vs.length → SmallV (nthV vs i)) := ⟨by have := (x2 (by omega)).1; omega, (x2 (by omega)).2⟩
  clear x2
  go_wp2_with fail
  refine (szX_any xa xc xs x w1 (HX.out.1.below B1) HX.out.2 (by omega) (by omega)).mono ?_
  rintro e w2 ⟨y, rfl, y0, y1, y2, b2⟩
  have B2 := below_step B1 (Nat.le_refl _) b2
  by_cases hy : y < 0
  · go_wp2
    go_ret
    exact ⟨-1, rfl, by omega, by omega, fun h => by omega, B2⟩
  have HT : Hid (xs.length ≤ 1048576 ∧ ∀ i, i < xs.length → SmallX (nthX xs i)) := ⟨by have := (y2 (by omega)).1; omega, (y2 (by omega)).2⟩
  clear y2
  go_wp2
  go_ret
  exact ⟨y, rfl, by omega, by omega, fun _ => ⟨HS.out, HT.out⟩, B2⟩
end Go.Proofs.Ytmkagolechjjkaa
