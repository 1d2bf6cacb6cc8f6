/- How impl reads cells one behind the other. -/
import Derived.Test.YtfkenogbfbbbjaaRdB
namespace Go.Proofs.Ytfkenogbfbbbjaa
open Go.RowKit

/-- The bytes from place o on. -/
def shB (f : Nat → Int) (o : Nat) : Nat → Int := fun i => f (o + i)
theorem shB_shB (f : Nat → Int) (o p : Nat) : shB (shB f o) p = shB f (o + p) := by funext i; simp [shB, Nat.add_assoc]
theorem Bys.sh {f : Nat → Int} {n : Nat} (h : Bys f n) (o : Nat) : Bys (shB f o) (n - o) := fun i hi => h (o + i) (by omega)

/-- The cells that n bytes are, at most j of them. -/
def cellsRd (T : (Nat → Int) → Nat → ByteArray × Int) : Nat → (Nat → Int) → Nat → Option (List V3)
  | 0, _, n => if n = 0 then some [] else none
  | j + 1, f, n => if n = 0 then some [] else if (cellRd T f n).2 = 0 then none else (cellsRd T j (shB f (cellRd T f n).2.toNat) (n - (cellRd T f n).2.toNat)).map ((cellRd T f n).1 :: ·)

/-- A text's reading uses no more bytes than there are. -/
def TOk (T : (Nat → Int) → Nat → ByteArray × Int) : Prop := ∀ f n, Bys f n → 0 ≤ (T f n).2 ∧ (T f n).2 ≤ n
theorem rowTx_ok : TOk rowTx := fun f n h => by
  unfold rowTx
  split
  · rename_i hh
    have := h 0 (by omega)
    simp only
    omega
  · simp
theorem cellRd_ok {T : (Nat → Int) → Nat → ByteArray × Int} (hT : TOk T) {f : Nat → Int} {n : Nat} (h : Bys f n) (h1 : 1 ≤ n) : 0 ≤ (cellRd T f n).2 ∧ (cellRd T f n).2 ≤ n := by
  have ht := hT (fun i => f (1 + i)) (n - 1) (h.sh 1)
  unfold cellRd
  repeat' split
  all_goals (simp only; omega)

def cells3 (vs : List V3) : List Value := vs.flatMap fun v => [.int .i64 v.1, .int .i64 v.2.1, .string v.2.2]
theorem cells3_snoc (vs : List V3) (v : V3) : cells3 (vs ++ [v]) = cells3 vs ++ [.int .i64 v.1, .int .i64 v.2.1, .string v.2.2] := by simp [cells3]
theorem own_belowN {w w' : World} {B e m n : Nat} {v : Value} {xs : List Value} (h : w.ownsRow B e m v n xs) (hb : Below w.heap.size w w') : w'.ownsRow B e m v n xs := by
  refine ⟨h.1, ?_⟩
  rcases h.2 with h | ⟨g, cap, cur, e1, e2, hh, r⟩
  · exact .inl h
  · refine .inr ⟨g, cap, cur, e1, e2, ?_, r⟩
    rw [hb.block g ?_]
    · exact hh
    · rcases Nat.lt_or_ge g w.heap.size with h | h
      · exact h
      · rw [Array.getElem?_eq_none h] at hh; cases hh
theorem grown_belowN {B e m n : Nat} {w u u' : World} {v : Value} {xs : List Value} (h : Below B w u) (hB : B ≤ u.heap.size) (ho : u.ownsRow B e m v n xs) (hg : u.grownBy u' v.ownBlock) : Below B w u' :=
  h.grown hg hB (fun k hk => by
    rcases ho.2 with ⟨rfl, _⟩ | ⟨g, cap, cur, rfl, hb, _⟩
    · cases hk
    · cases hk; exact hb)
theorem own_shape {w : World} {B e m n : Nat} {v : Value} {xs : List Value} (h : w.ownsRow B e m v n xs) : ∃ a c, v = .slice a n c := by
  rcases h.2 with ⟨rfl, rfl⟩ | ⟨g, cap, cur, rfl, _⟩
  · exact ⟨_, _, rfl⟩
  · exact ⟨_, _, rfl⟩
theorem news3 {w : World} {g : Nat} (hg : w.heap.size = g) (k n : Int) (t : ByteArray) : ∀ j u, [Value.int .i64 k, .int .i64 n, .string t][j]? = some u → (w.alloc (.cells #[.int .i64 k, .int .i64 n, .string t] 24)).cell? ((⟨g, 0, none⟩ : Addr).add j) = some u := by
  subst hg
  intro j u hj
  rw [add_plain]
  match j, hj with
  | 0, hj => simp at hj; subst hj; go_simp
  | 1, hj => simp at hj; subst hj; go_simp
  | 2, hj => simp at hj; subst hj; go_simp

theorem cellsRd_zero (T : (Nat → Int) → Nat → ByteArray × Int) (j : Nat) (f : Nat → Int) : cellsRd T j f 0 = some [] := by cases j <;> rfl
theorem cellsRd_bad {T : (Nat → Int) → Nat → ByteArray × Int} (j : Nat) {f : Nat → Int} {n : Nat} (h1 : 1 ≤ n) (h : (cellRd T f n).2 = 0) : cellsRd T j f n = none := by
  cases j with
  | zero => show (if _ then _ else _) = _; rw [if_neg (by omega)]
  | succ j => show (if _ then _ else _) = _; rw [if_neg (by omega), if_pos h]
theorem cellsRd_full {T : (Nat → Int) → Nat → ByteArray × Int} {f : Nat → Int} {n : Nat} (h1 : 1 ≤ n) : cellsRd T 0 f n = none := by
  show (if _ then _ else _) = _; rw [if_neg (by omega)]
theorem cellsRd_next {T : (Nat → Int) → Nat → ByteArray × Int} (j : Nat) {f : Nat → Int} {n : Nat} (h1 : 1 ≤ n) (h : (cellRd T f n).2 ≠ 0) : cellsRd T (j + 1) f n = (cellsRd T j (shB f (cellRd T f n).2.toNat) (n - (cellRd T f n).2.toNat)).map ((cellRd T f n).1 :: ·) := by
  show (if _ then _ else _) = _; rw [if_neg (by omega), if_neg h]

/-- impl's row, read: its cells lie in a block of its own. -/
def RetR (w : World) (p : Option (List V3)) (e : Ending) (w' : World) : Prop :=
  (∃ vs v, p = some vs ∧ e = .returned (.tuple #[v, .bool true]) ∧ vs.length ≤ 8 ∧ w'.ownsRow w.heap.size 24 3 v vs.length (cells3 vs) ∨ p = none ∧ e = .returned (.tuple #[.slice none 0 0, .bool false])) ∧ Below w.heap.size w w'

end Go.Proofs.Ytfkenogbfbbbjaa
