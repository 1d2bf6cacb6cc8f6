/- Slices of bytes that came in, and the values that the law on the order draws from them. -/
import Derived.Test.YthdilgggjkekaaaDraw
import Derived.Test.YthdilgggjkekaaaTotal
import Derived.Laws.AppendOwnNone
import Derived.OwnWalk
namespace Go.Proofs.Ythdilgggjkekaaa
open Go.RowKit

/-- A slice of bytes that came in: nil, or a row of cells. -/
def IsRow (w : World) (a : Option Addr) (len cap : Nat) (zs : List Int) : Prop :=
  (a = none ∧ len = 0 ∧ cap = 0 ∧ zs = []) ∨
  ∃ x, a = some x ∧ len ≤ cap ∧ cap ≤ maxLen ∧ zs.length = cap ∧ (∀ i, i < zs.length → w.cell? (x.add i) = some (.int .u8 (zs.getD i 0))) ∧ ∀ n ∈ zs, (Lit.int .u8 n).wf = true

theorem add_plain (b off i : Nat) : (⟨b, off, none⟩ : Addr).add i = ⟨b, off + i, none⟩ := by
  unfold Addr.add
  split <;> simp_all

/-- The same, with the address written out. -/
theorem IsRow.split {w : World} {a : Option Addr} {len cap : Nat} {zs : List Int} (h : IsRow w a len cap zs) :
    (len = 0 ∧ a = none ∧ cap = 0) ∨ len = 0 ∨ ∃ b off, a = some ⟨b, off, none⟩ ∧ 0 < len ∧ len ≤ zs.length ∧ b < w.heap.size ∧ ∀ i, i < zs.length → w.cell? ⟨b, off + i, none⟩ = some (.int .u8 (zs.getD i 0)) ∧ 0 ≤ zs.getD i 0 ∧ zs.getD i 0 ≤ 255 := by
  rcases h with ⟨rfl, rfl, rfl, rfl⟩ | ⟨⟨b, off, spot⟩, rfl, hl, hm, hz, hcell, hwz⟩
  · exact .inl ⟨rfl, rfl, rfl⟩
  · by_cases h0 : len = 0
    · exact .inr (.inl h0)
    · have hs : spot = none := by simpa [Addr.add] using World.cell?_spot (hcell 0 (by omega))
      subst hs
      refine .inr (.inr ⟨b, off, rfl, by omega, by omega, ?_, fun i hi => ?_⟩)
      · have := World.block_lt_of_cell? w _ (hcell 0 (by omega))
        rwa [add_plain] at this
      · have hc := hcell i hi
        rw [add_plain] at hc
        have hmem : zs.getD i 0 ∈ zs := by rw [List.getD_eq_getElem?_getD, List.getElem?_eq_getElem (by omega)]; exact List.getElem_mem _
        exact ⟨hc, (bounds_u8 (hwz _ hmem)).1, (bounds_u8 (hwz _ hmem)).2⟩

theorem IsRow.code {w : World} {a : Option Addr} {len cap : Nat} {zs : List Int} (h : IsRow w a len cap zs) : Code w a len := fun i hi => by
  rcases h.split with ⟨h0, _⟩ | h0 | ⟨b, off, e, _, hl, hb, hc⟩
  · omega
  · omega
  · have := hc i (by omega)
    exact ⟨b, off, _, e, hb, this.2.1, this.2.2, this.1⟩

theorem info5 : (Try.prog.info? 5).map (fun i => (i.zero, i.size, i.bytes)) = some (some (.int .u8 0), 1, 1) := by kernel_rfl

def byteVals (zs : List Int) (n : Nat) : List Value := (zs.take n).map (Value.int .u8)

/-- What an append wants of a slice that came in and is not nil. -/
theorem IsRow.news {w W : World} {ad : Addr} {len cap : Nat} {zs : List Int} (h : IsRow w (some ad) len cap zs) (hb : Below w.heap.size w W) :
    (byteVals zs len).length = len * 1 ∧ (∀ j u, (byteVals zs len)[j]? = some u → W.cell? (ad.add j) = some u) ∧ (∀ u ∈ byteVals zs len, u.oneCell' = true) := by
  rcases h with ⟨h, _⟩ | ⟨x, e, hl, hm, hz, hcell, hwz⟩
  · cases h
  · cases e
    refine ⟨by simp [byteVals]; omega, fun j u hj => ?_, fun u hu => ?_⟩
    · simp only [byteVals, List.getElem?_map, List.getElem?_take, Option.map_eq_some_iff] at hj
      obtain ⟨z, hz1, rfl⟩ := hj
      split at hz1
      · have hjl : j < zs.length := by
          rcases Nat.lt_or_ge j zs.length with h | h
          · exact h
          · rw [List.getElem?_eq_none h] at hz1; cases hz1
        have hc := hcell j hjl
        rw [List.getD_eq_getElem?_getD, hz1] at hc
        exact (hb.cell (World.block_lt_of_cell? w _ hc)).trans hc
      · cases hz1
    · simp only [byteVals, List.mem_map] at hu
      obtain ⟨z, _, rfl⟩ := hu
      rfl
theorem IsRow.vals {w : World} {a : Option Addr} {len cap : Nat} {zs : List Int} (h : IsRow w a len cap zs) : ∀ u ∈ byteVals zs len, ∃ c : Int, u = .int .u8 c ∧ 0 ≤ c ∧ c ≤ 255 := fun u hu => by
  simp only [byteVals, List.mem_map] at hu
  obtain ⟨z, hz, rfl⟩ := hu
  rcases h with ⟨_, _, _, rfl⟩ | ⟨x, e, hl, hm, hzl, hcell, hwz⟩
  · simp at hz
  · have := bounds_u8 (hwz z (List.mem_of_mem_take hz))
    exact ⟨z, rfl, this.1, this.2⟩

/-- A row of bytes that the call owns can be read. -/
theorem own_code {u : World} {B : Nat} {v : Value} {n : Nat} {xs : List Value} (h : u.ownsRow B 5 1 v n xs) (hx : ∀ x ∈ xs, ∃ c : Int, x = .int .u8 c ∧ 0 ≤ c ∧ c ≤ 255) :
    ∃ a c, v = .slice a n c ∧ Code u a n := by
  obtain ⟨hl, h⟩ := h
  rcases h with ⟨rfl, rfl⟩ | ⟨g, cap, cur, rfl, _, hh, hn, _, hcs, htk⟩
  · exact ⟨none, 0, rfl, fun i hi => by omega⟩
  · refine ⟨_, _, rfl, fun i hi => ?_⟩
    have hc : u.cell? ⟨g, 0 + i, none⟩ = cur[i]? := by simp [World.cell?, hh]
    have hxi : xs[i]? = cur[i]? := by rw [← htk, List.getElem?_take, if_pos (by omega), Array.getElem?_toList]
    have hlt : i < xs.length := by omega
    obtain ⟨c, hc1, h0, h1⟩ := hx xs[i] (List.getElem_mem hlt)
    refine ⟨g, 0, c, rfl, ?_, h0, h1, ?_⟩
    · rcases Nat.lt_or_ge g u.heap.size with h | h
      · exact h
      · rw [Array.getElem?_eq_none h] at hh; cases hh
    · rw [hc, ← hxi, List.getElem?_eq_getElem hlt, hc1]

/-- The empty slice that the law makes. -/
theorem own_empty {u : World} {B : Nat} (hB : B ≤ u.heap.size) : (u.alloc (.cells #[] 5)).ownsRow B 5 1 (.slice (some ⟨u.heap.size, 0, none⟩) 0 0) 0 [] :=
  ⟨rfl, .inr ⟨u.heap.size, 0, #[], rfl, hB, by show (u.heap.push _)[u.heap.size]? = _; simp, Nat.le_refl _, Nat.zero_le _, rfl, rfl⟩⟩

/-- A value lies in block b. -/
abbrev Box (b : Nat) (k n : Int) (t : ByteArray) (w : World) : Prop :=
  w.cell? ⟨b, 0, none⟩ = some (.int .i64 k) ∧ w.cell? ⟨b, 1, none⟩ = some (.int .i64 n) ∧ w.cell? ⟨b, 2, none⟩ = some (.string t) ∧ b < w.heap.size
theorem Box.keep {b : Nat} {k n : Int} {t : ByteArray} {w w' : World} (h : Box b k n t w) (hb : Below w.heap.size w w') : Box b k n t w' :=
  ⟨(hb.cell (p := ⟨b, 0, none⟩) h.2.2.2).trans h.1, (hb.cell (p := ⟨b, 1, none⟩) h.2.2.2).trans h.2.1, (hb.cell (p := ⟨b, 2, none⟩) h.2.2.2).trans h.2.2.1, Nat.lt_of_lt_of_le h.2.2.2 hb.size⟩
theorem Box.new {k n : Int} {t : ByteArray} {w : World} : Box w.heap.size k n t (w.alloc (.cells #[.int .i64 k, .int .i64 n, .string t] 27)) :=
  ⟨by go_simp, by go_simp, by go_simp, by simp⟩

theorem below_grown {B : Nat} {w u u' : World} {v : Value} {n : Nat} {xs : List Value} (h : Below B w u) (hB : B ≤ u.heap.size) (ho : u.ownsRow B 5 1 v n xs) (hg : u.grownBy u' v.ownBlock) : Below B w u' :=
  h.grown hg hB (fun k hk => by
    rcases ho.2 with ⟨rfl, _⟩ | ⟨g, cap, cur, rfl, hb, _⟩
    · cases hk
    · cases hk; exact hb)

theorem cmpV_bd (k1 n1 : Int) (t1 : ByteArray) (k2 n2 : Int) (t2 : ByteArray) : -1 ≤ cmpV k1 n1 t1 k2 n2 t2 ∧ cmpV k1 n1 t1 k2 n2 t2 ≤ 1 := by
  have h1 := cmpI_bd k1 k2
  have h2 := cmpI_bd n1 n2
  have h3 := cmpS_bd t1 t2
  unfold cmpV
  split
  · omega
  · split <;> omega

/-- 'append(own, xs...)', xs nil or not. -/
theorem wpList_append_row {P : Program} {w : World} {ops : Array Oper} {rest : List Oper} {o : Oper} {a : Act} {Q : Exit → Act → World → Prop} (hgd : o.guard = none) (s x : Operand) (t : TypeId)
    (ho : o.op = .call { callee := .builtin .append, args := #[s, x], argTypes := #[t, t] })
    (base : Nat) (e : TypeId) (i : TypeInfo) (z : Value) (bytes : Nat) (ht : P.underlying t = some (.slice e)) (hi : P.info? e = some i) (hz : i.zero = some z)
    (hsize : i.size = 1) (hby : i.bytes = bytes) (hzs : z.cells.size = 1)
    (v : Value) (n : Nat) (xs : List Value) (hs : a.eval s = v) (hown : w.ownsRow base e 1 v n xs)
    (ad : Option Addr) (m c : Nat) (news : List Value) (hx : a.eval x = .slice ad m c) (hnil : ad = none → m = 0 ∧ c = 0 ∧ news = []) (hl : news.length = m * 1) (hnews : ∀ p, ad = some p → ∀ j u, news[j]? = some u → w.cell? (p.add j) = some u) (h1 : ∀ u ∈ news, u.oneCell' = true)
    (h63 : n + m ≤ maxLen) (hbytes : (n + m) * bytes ≤ 140737488355328) (hbase : base ≤ w.heap.size)
    (h : ∀ v' w', w'.ownsRow base e 1 v' (n + m) (xs ++ news) → w.grownBy w' v.ownBlock → wpList P ops Q rest (a.put o.dst v') w') : wpList P ops Q (o :: rest) a w := by
  cases ad with
  | none =>
    obtain ⟨rfl, rfl, rfl⟩ := hnil rfl
    exact wpList_append_own_none hgd s x t ho base e i 1 ht hi v n xs hs hown hx (h v w (by simpa using hown) ⟨rfl, rfl, rfl, Nat.le_refl _, fun _ _ _ => rfl⟩)
  | some p => exact wpList_append_own w hgd s x t ho base e i z 1 bytes ht hi hz hsize hby hzs (by omega) v n xs hs hown p m c news hx hl (hnews p rfl) h1 h63 hbytes hbase (fun v' w' h2 h3 _ => h v' w' h2 h3)

theorem IsRow.news' {w W : World} {a : Option Addr} {len cap : Nat} {zs : List Int} (h : IsRow w a len cap zs) (hb : Below w.heap.size w W) :
    (a = none → len = 0 ∧ cap = 0 ∧ byteVals zs len = []) ∧ (byteVals zs len).length = len * 1 ∧ (∀ p, a = some p → ∀ j u, (byteVals zs len)[j]? = some u → W.cell? (p.add j) = some u) ∧ (∀ u ∈ byteVals zs len, u.oneCell' = true) := by
  cases a with
  | none =>
    rcases h with ⟨_, rfl, rfl, rfl⟩ | ⟨x, e, _⟩
    · exact ⟨fun _ => ⟨rfl, rfl, rfl⟩, rfl, (fun p e => by (cases e)), fun u hu => by simp [byteVals] at hu⟩
    · cases e
  | some ad =>
    have := h.news hb
    exact ⟨(fun e => by (cases e)), this.1, (fun p e => by cases e; exact this.2.1), this.2.2⟩

theorem order_bad1 {y ka kb na nb : Int} {ta tb : List UInt8} (h : y = 0 ↔ ka = kb ∧ na = nb ∧ ta = tb) (p : ka = kb) (q : na = nb) (r : ta = tb) (e : (!-y == 0) = true) : False := by
  have := h.2 ⟨p, q, r⟩; simp at e; omega
theorem order_bad2 {y ka kb na nb : Int} {ta tb : List UInt8} (h : y = 0 ↔ ka = kb ∧ na = nb ∧ ta = tb) (r : ¬ ta = tb) (e : (-y == 0) = true) : False := by
  simp at e; exact r (h.1 (by omega)).2.2
theorem order_bad3 {y ka kb na nb : Int} {ta tb : List UInt8} (h : y = 0 ↔ ka = kb ∧ na = nb ∧ ta = tb) (r : ¬ na = nb) (e : (-y == 0) = true) : False := by
  simp at e; exact r (h.1 (by omega)).2.1
theorem order_bad4 {y ka kb na nb : Int} {ta tb : List UInt8} (h : y = 0 ↔ ka = kb ∧ na = nb ∧ ta = tb) (r : ¬ ka = kb) (e : (-y == 0) = true) : False := by
  simp at e; exact r (h.1 (by omega)).1
end Go.Proofs.Ythdilgggjkekaaa
