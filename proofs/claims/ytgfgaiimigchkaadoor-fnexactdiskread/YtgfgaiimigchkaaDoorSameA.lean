/- Sectors with writes settled, what is read of a sector, and texts held against texts. -/
import Derived.Test.YtgfgaiimigchkaaDoorDiskG
import Derived.Laws.AppendOwn
import Derived.Lib.SliceRun
namespace Go.Proofs.YtgfgaiimigchkaaDoor
open Go.RowKit

theorem own_below {w w' : World} {B e n : Nat} {v : Value} {xs : List Value} (h : w.ownsRow B e 1 v n xs) (hb : Below w.heap.size w w') : w'.ownsRow B e 1 v n xs := by
  refine ⟨h.1, ?_⟩
  rcases h.2 with h | ⟨g, cap, cur, e1, e2, hh, r⟩
  · exact .inl h
  · exact .inr ⟨g, cap, cur, e1, e2, by rw [hb.block g (slab_lt hh)]; exact hh, r⟩
theorem grown_below {B e n : Nat} {w u u' : World} {v : Value} {xs : List Value} (h : Below B w u) (hB : B ≤ u.heap.size) (ho : u.ownsRow B e 1 v n xs) (hg : u.grownBy u' v.ownBlock) : Below B w u' :=
  h.grown hg hB (fun k hk => by
    rcases ho.2 with ⟨rfl, _⟩ | ⟨g, cap, cur, rfl, hb, _⟩
    · cases hk
    · cases hk; exact hb)
theorem own_empty {u : World} {B e : Nat} (hB : B ≤ u.heap.size) : (u.alloc (.cells #[] e)).ownsRow B e 1 (.slice (some ⟨u.heap.size, 0, none⟩) 0 0) 0 [] :=
  ⟨rfl, .inr ⟨u.heap.size, 0, #[], rfl, hB, by show (u.heap.push _)[u.heap.size]? = _; simp, Nat.le_refl _, Nat.zero_le _, rfl, rfl⟩⟩

/-- Block g holds the texts f 0, f 1, .. -/
def SlabT (w : World) (g : Nat) (f : Nat → ByteArray) (len : Nat) : Prop :=
  ∃ cur, w.heap[g]? = some (.cells cur 9 (0, 0)) ∧ ∀ j, j < len → cur[j]? = some (.string (f j))
theorem SlabT.below {w w' : World} {g len B : Nat} {f : Nat → ByteArray} (h : SlabT w g f len) (hb : Below B w w') (hg : g < B) : SlabT w' g f len := by
  obtain ⟨cur, hh, r⟩ := h
  exact ⟨cur, (hb.block g hg).trans hh, r⟩
theorem SlabT.lt {w : World} {g len : Nat} {f : Nat → ByteArray} (h : SlabT w g f len) : g < w.heap.size := by
  obtain ⟨cur, hh, _⟩ := h
  exact slab_lt hh
theorem SlabT.cell {w : World} {g len j : Nat} {f : Nat → ByteArray} (h : SlabT w g f len) (hj : j < len) : w.cell? ⟨g, j, none⟩ = some (.string (f j)) := by
  obtain ⟨cur, hh, hc⟩ := h
  rw [slab_cell hh]; exact hc j hj
theorem SlabT.free {w : World} {g len : Nat} {f : Nat → ByteArray} (h : SlabT w g f len) (o : Nat) : w.frozen? ⟨g, o, none⟩ = false := by
  obtain ⟨cur, hh, _⟩ := h
  exact slab_free hh
theorem SlabT.set {w : World} {g len m : Nat} {f f' : Nat → ByteArray} {t : ByteArray} (h : SlabT w g f len) (hm : m < len) (hf : ∀ j, j < len → f' j = if j = m then t else f j) : SlabT (w.setCell ⟨g, m, none⟩ (.string t)) g f' len := by
  obtain ⟨cur, hh, hc⟩ := h
  refine ⟨_, slab_set hh _, fun j hj => ?_⟩
  have hml : m < cur.size := by
    rcases Nat.lt_or_ge m cur.size with h | h
    · exact h
    · have := hc m hm; rw [Array.getElem?_eq_none h] at this; cases this
  rw [hf j hj]
  by_cases e : j = m
  · subst e
    rw [if_pos rfl, Array.getElem?_setIfInBounds_self_of_lt hml]
  · rw [if_neg e, Array.getElem?_setIfInBounds_ne (by omega)]; exact hc j hj

set_option maxRecDepth 100000 in
theorem clone_any (a : Option Addr) (cap : Nat) (ss : List ByteArray) (w : World) (hrow : RowS w a ss) (h1 : 1 ≤ ss.length) (hlen : ss.length ≤ 1048576) :
    Calls Tryd.prog 81 #[.slice a ss.length cap] w fun e w' => ∃ g c, e = .returned (.slice (some ⟨g, 0, none⟩) ss.length c) ∧ w.heap.size ≤ g ∧ SlabT w' g (nthS ss) ss.length ∧ Below w.heap.size w w' := by
  have HR : Hid (RowS w a ss) := hrow
  obtain ⟨b, off, rfl, hlb, _, _⟩ := hrow 0 (by omega)
  clear hrow
  obtain ⟨i0, hi, hz0, hz1, hz2⟩ := info_parts info9
  have a0 : (w.alloc (.cells #[] 9)).ownsRow w.heap.size 9 1 (.slice (some ⟨w.heap.size, 0, none⟩) 0 0) 0 [] := own_empty (Nat.le_refl _)
  have c0 : Below w.heap.size w (w.alloc (.cells #[] 9)) := (Below.refl _ _).alloc (Nat.le_refl _) _
  have HN : Hid (∀ j u, (ss.map Value.string)[j]? = some u → (w.alloc (.cells #[] 9)).cell? ((⟨b, off, none⟩ : Addr).add j) = some u) := by
    intro j u hj
    rw [List.getElem?_map] at hj
    have hjl : j < ss.length := by
      rcases Nat.lt_or_ge j ss.length with h | h
      · exact h
      · rw [List.getElem?_eq_none h] at hj; cases hj
    obtain ⟨b', off', e, hlt, hc, _⟩ := (HR.out.below c0) j hjl
    cases e
    rw [List.getElem?_eq_getElem hjl] at hj
    simp at hj
    have : (⟨b, off, none⟩ : Addr).add j = ⟨b, off + j, none⟩ := by unfold Addr.add; split <;> simp_all
    rw [this, hc, nthS_get hjl, hj]
  generalize hL : ss.length = len at *
  have HL : Hid (ss.length = len) := hL
  clear hL
  have q : ∀ w : World, (binOp .eql 25 (.slice (some ⟨b, off, none⟩) len cap) (.slice none 0 0)).run Tryd.prog w = .ok (.bool false) w := fun w => Lib.run_eql_slice_nil w 25 9 _ _ _ _ _ Tryd.underlying25
  go_enter Tryd.func81, Tryd.ntmps81
  go_wp2_with (at_builtin; go_loud (refine wpList_append_own _ rfl (.tmp 5) (.tmp 6) 25 rfl w.heap.size 9 i0 (.string ⟨#[]⟩) 1 16 Tryd.underlying25 hi hz0 hz1 hz2 rfl (by decide) _ 0 _ rfl a0 ⟨b, off, none⟩ len cap (ss.map Value.string) rfl ?c0 HN.out ?c2 ?c3 ?c4 ?c5 ?_))
  case c0 => rw [List.length_map, HL.out, Nat.mul_one]
  case c2 => intro u' hu'; simp at hu'; obtain ⟨s, _, rfl⟩ := hu'; rfl
  case c3 => unfold maxLen; omega
  case c4 => omega
  case c5 => exact c0.size
  intro v1 x1 e1 g1 _
  have b1 := grown_below c0 c0.size a0 g1
  have key : ∃ g c, v1 = .slice (some ⟨g, 0, none⟩) len c ∧ w.heap.size ≤ g ∧ SlabT x1 g (nthS ss) len := by
    obtain ⟨hl, h⟩ := e1
    rcases h with ⟨rfl, h0⟩ | ⟨g, cap', cur, rfl, hB, hh, hn, _, hcs, htk⟩
    · omega
    · refine ⟨g, cap', by simp, hB, cur, hh, fun j hj => ?_⟩
      have hjl : j < ss.length := by rw [HL.out]; exact hj
      have hxi : (ss.map Value.string)[j]? = cur[j]? := by
        have htk' : cur.toList.take (len * 1) = ss.map Value.string := by simpa using htk
        rw [← htk', List.getElem?_take, if_pos (by omega), Array.getElem?_toList]
      rw [← hxi, List.getElem?_map, List.getElem?_eq_getElem hjl, nthS_get hjl]
      rfl
  obtain ⟨g, c, rfl, hg, hS⟩ := key
  clear e1 g1 a0 c0 hi hz0 hz1 hz2
  go_wp2
  go_ret
  exact ⟨g, c, rfl, hg, hS, b1⟩

/-- What is read of sector x behind the first k writes. -/
def readK (ss : List ByteArray) (ps : List P2) (x : Nat) : Nat → ByteArray
  | 0 => nthS ss x
  | k + 1 => if (nthP ps k).1 = x then (nthP ps k).2 else readK ss ps x k

set_option maxRecDepth 100000 in
set_option maxHeartbeats 1000000 in
theorem settled_any (a a' : Option Addr) (c c' : Nat) (ss : List ByteArray) (ps : List P2) (w : World) (hs : RowS w a ss) (hp : RowP w a' ps) (h1 : 1 ≤ ss.length) (hls : ss.length ≤ 1048576) (hlp : ps.length ≤ 1048576)
    (hat : ∀ j, j < ps.length → 0 ≤ (nthP ps j).1 ∧ (nthP ps j).1 < ss.length) :
    Calls Tryd.prog 49 #[.slice a ss.length c, .slice a' ps.length c'] w fun e w' => ∃ g d, e = .returned (.slice (some ⟨g, 0, none⟩) ss.length d) ∧ w.heap.size ≤ g ∧ SlabT w' g (fun j => readK ss ps j ps.length) ss.length ∧ Below w.heap.size w w' := by
  have HS : Hid (RowS w a ss) := hs
  have HP : Hid (RowP w a' ps) := hp
  have HA : Hid (∀ j, j < ps.length → 0 ≤ (nthP ps j).1 ∧ (nthP ps j).1 < ss.length) := hat
  have HC : Hid (Calls Tryd.prog 81 #[.slice a ss.length c] w fun e w' => ∃ g c, e = .returned (.slice (some ⟨g, 0, none⟩) ss.length c) ∧ w.heap.size ≤ g ∧ SlabT w' g (nthS ss) ss.length ∧ Below w.heap.size w w') := clone_any a c ss w hs h1 hls
  clear hs hp hat
  generalize hL : ss.length = len at *
  generalize hM : ps.length = num at *
  have HL : Hid (ss.length = len) := hL
  have HM : Hid (ps.length = num) := hM
  clear hL hM
  go_enter Tryd.func49, Tryd.ntmps49
  go_wp2_with fail
  refine HC.out.mono ?_
  rintro e w1 ⟨g, d, rfl, hg, hS, hb1⟩
  have HG : Hid (w.heap.size ≤ g) := hg
  clear HC hg
  go_wp2
  go_loopw [12] (fun i wr => ∃ k : Nat, k ≤ num ∧ i = .int .i64 k ∧ SlabT wr g (fun j => readK ss ps j k) len ∧ Below w.heap.size w wr) (fun i _ => num - (intOf i).toNat)
  case atStart => exact ⟨0, by omega, rfl, hS, hb1⟩
  case round =>
    obtain ⟨k, hk, rfl, hSk, hbl⟩ := hrel
    by_cases hlt : k < num
    · obtain ⟨b, off, rfl, hlb, ⟨hc0, hc1⟩, hsz⟩ := (HP.out.below hbl) k (by rw [HM.out]; exact hlt)
      obtain ⟨hx0, hx1⟩ := HA.out k hlt
      have hr : ∀ j, j < len → readK ss ps j (k + 1) = if j = (nthP ps k).1.toNat then (nthP ps k).2 else readK ss ps j k := fun j _ => by
        show (if _ then _ else _) = _
        by_cases e : j = (nthP ps k).1.toNat
        · rw [if_pos e, if_pos (by omega)]
        · rw [if_neg e, if_neg (by omega)]
      obtain ⟨v, hv⟩ : ∃ v, nthP ps k = v := ⟨_, rfl⟩
      rw [hv] at hc0 hc1 hsz hx0 hx1 hr
      clear hv
      obtain ⟨x, t⟩ := v
      have hc0 : wr.cell? ⟨b, off + k * 2, none⟩ = some (.int .i64 x) := hc0
      have hc1 : wr.cell? ⟨b, off + k * 2 + 1, none⟩ = some (.string t) := hc1
      have hx0 : 0 ≤ x := hx0
      have hx1 : x < len := hx1
      have hr : ∀ j, j < len → readK ss ps j (k + 1) = if j = x.toNat then t else readK ss ps j k := hr
      obtain ⟨m, rfl⟩ := Int.eq_ofNat_of_zero_le hx0
      have hml : m < len := by simp at hx1; omega
      have hml' : (m : Int) < (len : Int) := by omega
      have hv0 := hSk.cell hml
      have hf := hSk.free m
      have hS2 : SlabT (wr.setCell ⟨g, m, none⟩ (.string t)) g (fun j => readK ss ps j (k + 1)) len := hSk.set hml (fun j hj => by have := hr j hj; simpa using this)
      have hB1 : Below w.heap.size w (wr.setCell ⟨g, m, none⟩ (.string t)) := hbl.setCell (p := ⟨g, m, none⟩) HG.out (.string t)
      have HN : Hid (SlabT ((wr.setCell ⟨g, m, none⟩ (.string t)).alloc (.cells #[.int .i64 (m : Int), .string t] 46)) g (fun j => readK ss ps j (k + 1)) len) := hS2.below ((Below.refl _ _).alloc (Nat.le_refl _) _) hS2.lt
      have hB2 : Below w.heap.size w ((wr.setCell ⟨g, m, none⟩ (.string t)).alloc (.cells #[.int .i64 (m : Int), .string t] 46)) := hB1.alloc hB1.size _
      have hgn : g < wr.heap.size := hSk.lt
      clear hlb hSk hbl hS2 hB1 hS hb1 hr hx0 hx1 hsz
      go_wp2
      go_roundw
      case rel => exact ⟨k + 1, by omega, by go_num, HN.out, hB2⟩
      case measure => simp [intOf]; omega
    · obtain rfl : k = num := by omega
      go_wp2
      go_ret
      exact ⟨g, d, rfl, HG.out, hSk, hbl⟩
end Go.Proofs.YtgfgaiimigchkaaDoor
