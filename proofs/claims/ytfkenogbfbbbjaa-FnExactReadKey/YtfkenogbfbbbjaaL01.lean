/- What spec's l01Bytes answers of a right row. -/
import Derived.Test.YtfkenogbfbbbjaaEight
import Derived.Deep.AppendLies
import Derived.Lib.AppendStr
import Derived.Deep.RegionHeld3
import Derived.Deep.DrawnRows
namespace Go.Proofs.Ytfkenogbfbbbjaa
open Go.RowKit

theorem news_one {w : World} {g : Nat} {c : Value} {t : TypeId} (hg : w.heap.size = g) : ∀ j u, [c][j]? = some u → (w.alloc (.cells #[c] t)).cell? ((⟨g, 0, none⟩ : Addr).add j) = some u := by
  subst hg
  intro j u hj
  match j, hj with
  | 0, hj => simp at hj; subst hj; go_simp
theorem news_one' {w : World} {g : Nat} {c : Value} {t : TypeId} (hg : w.heap.size = g) : ∀ j u, [c][j]? = some u → (w.alloc (.cells #[c] t)).drew.cell? ((⟨g, 0, none⟩ : Addr).add j) = some u := news_one hg
theorem one1 (c : Int) : ∀ u ∈ [Value.int .u8 c], u.oneCell' = true := fun u hu => by simp at hu; subst hu; rfl
theorem encI_one (n : Int) : ∀ u ∈ encI n, u.oneCell' = true := fun u hu => by
  obtain ⟨c, rfl, _⟩ := encI_bytes n u hu
  rfl
theorem encI_len (n : Int) : (encI n).length = 8 := by rw [encI_eq]; rfl
theorem own_cells {u : World} {B : Nat} {v : Value} {n : Nat} {xs : List Value} (h : u.ownsRow B 5 1 v n xs) (hn : 0 < n) :
    ∃ g c, v = .slice (some ⟨g, 0, none⟩) n c ∧ ∀ j x, xs[j]? = some x → u.cell? ((⟨g, 0, none⟩ : Addr).add j) = some x := by
  obtain ⟨hl, h⟩ := h
  rcases h with ⟨_, h0⟩ | ⟨g, cap, cur, rfl, _, hh, hnc, _, hcs, htk⟩
  · omega
  · refine ⟨g, cap, rfl, fun j x hj => ?_⟩
    rw [add_plain, Nat.zero_add, slab_cell hh, ← hj, ← htk, List.getElem?_take, if_pos, Array.getElem?_toList]
    rcases Nat.lt_or_ge j xs.length with h | h
    · omega
    · rw [List.getElem?_eq_none h] at hj; cases hj
/-- append of a text's bytes, at a step of a region that draws. -/
theorem step_append_str {P : Program} (w : World) {ops : Array Oper} {o : Oper} {a : Act} {K : Act → World → Prop} {Q : Exit → Act → World → Prop} {E : Prop} (hgd : o.guard = none) (sl x : Operand) (t u : TypeId)
    (ho : o.op = .call { callee := .builtin .append, args := #[sl, x], argTypes := #[t, u] })
    (base : Nat) (e : TypeId) (i : TypeInfo) (ht : P.underlying t = some (.slice e)) (hu : P.underlying u = some .string) (hi : P.info? e = some i) (hz : i.zero = some (.int .u8 0))
    (hsize : i.size = 1) (hby : i.bytes = 1)
    (v : Value) (n : Nat) (xs : List Value) (hs : a.eval sl = v) (hown : w.ownsRow base e 1 v n xs) (s : ByteArray) (hx : a.eval x = .string s) (hn : 0 < n)
    (h63 : n + s.size ≤ maxLen) (hbytes : n + s.size ≤ 140737488355328) (hbase : base ≤ w.heap.size)
    (h : ∀ g cap w', w'.ownsRow base e 1 (.slice (some ⟨g, 0, none⟩) (n + s.size) cap) (n + s.size) (xs ++ Lib.strCells s) → w.grownBy w' v.ownBlock → g < w'.heap.size → K (a.put o.dst (.slice (some ⟨g, 0, none⟩) (n + s.size) cap)) w') :
    if Region.wanted o (yielded ops a.tmps) = true then Oper.wp P o a w K Q else E := by
  have hw : Region.wanted o (yielded ops a.tmps) = true := by simp [Region.wanted, hgd]
  rw [if_pos hw]
  obtain ⟨v', w', hr, h2, h3, _⟩ := Lib.run_append_own_string (P := P) w base t u o.type e i ht hu hi hz hsize hby v n xs hown s h63 hbytes hbase
  obtain ⟨g, cap, rfl, _, hlt⟩ := h2.form (by omega)
  unfold Oper.wp execOp
  simp only [ho, resolve, invoke, builtin, Sem.run_bind, Sem.run_pure, Result.andThen_ok, List.map_toArray, List.map_cons, List.map_nil, hs, hx, hr]
  exact h g cap w' h2 h3 hlt
/-- What a loop round leaves: the bytes so far. -/
def soFar (len : Nat) (vs : List V3) (k : Nat) : List Value := .int .u8 len :: (vs.take k).flatMap encV
theorem soFar_succ {len : Nat} {vs : List V3} {k : Nat} (h : k < vs.length) : soFar len vs (k + 1) = soFar len vs k ++ encV (nthV vs k) := by
  unfold soFar; rw [take_flat h]; rfl

theorem wrap_small {n : Nat} (h : n ≤ 60) : IntKind.u8.wrap (n : Int) = n := by
  simp [IntKind.wrap, IntKind.bits, IntKind.signed]; omega
theorem encV_null (n : Int) (t : ByteArray) : encV (0, n, t) = [.int .u8 0] := rfl
theorem encV_bool (n : Int) (t : ByteArray) : encV (1, n, t) = [.int .u8 1, .int .u8 n] := rfl
theorem encV_int (n : Int) (t : ByteArray) : encV (2, n, t) = .int .u8 2 :: encI n := rfl
theorem encV_text (n : Int) (t : ByteArray) : encV (3, n, t) = .int .u8 3 :: .int .u8 t.size :: Lib.strCells t := rfl
theorem encV_bytes' (n : Int) (t : ByteArray) : encV (4, n, t) = .int .u8 4 :: .int .u8 t.size :: Lib.strCells t := rfl

set_option maxRecDepth 100000 in
set_option maxHeartbeats 4000000 in
theorem l01Bytes_any (a : Option Addr) (cap : Nat) (vs : List V3) (w : World) (hrow : RowV w a vs) (hok : okRow vs = true) :
    Calls Try.prog 71 #[.slice a vs.length cap] w fun e w' => ∃ v, e = .returned v ∧ w'.ownsRow w.heap.size 5 1 v (encRow vs).length (encRow vs) ∧ Below w.heap.size w w' := by
  obtain ⟨h8, hall⟩ := okRow_all hok
  have H1 : Hid (RowV w a vs) := hrow
  have HA : Hid (∀ v ∈ vs, okV3 v = true) := hall
  have HE : Hid (encRow vs = soFar vs.length vs vs.length) := by show _ = _; unfold soFar encRow; rw [List.take_of_length_le (Nat.le_refl _)]
  have HB : Hid (∀ k, (soFar vs.length vs k).length ≤ 1000) := by
    intro k
    unfold soFar
    have := flat_len (vs.take k) (fun u hu => hall u (List.mem_of_mem_take hu))
    have h2 : (vs.take k).length ≤ 8 := by rw [List.length_take]; omega
    simp only [List.length_cons]
    omega
  clear hrow hall hok
  obtain ⟨i0, hi, hz0, hz1, hz2⟩ := info_parts info5
  generalize hN : vs.length = len at *
  have HN : Hid (vs.length = len) := hN
  clear hN
  go_enter Try.func71, Try.ntmps71
  go_wp2
  go_loopw [3, 4] (fun o i wr => ∃ k : Nat, k ≤ len ∧ i = .int .i64 k ∧ ∃ g cap', o = .slice (some ⟨g, 0, none⟩) (soFar len vs k).length cap' ∧ wr.ownsRow w.heap.size 5 1 (.slice (some ⟨g, 0, none⟩) (soFar len vs k).length cap') (soFar len vs k).length (soFar len vs k) ∧ g < wr.heap.size ∧ Below w.heap.size w wr) (fun _ i _ => len - (intOf i).toNat)
  case atStart => exact ⟨0, by omega, rfl, w.heap.size, 1, rfl, own_push (Nat.le_refl _) _, by simp, (Below.refl _ _).alloc (Nat.le_refl _) _⟩
  case round =>
    obtain ⟨k, hk, rfl, g, cap', rfl, hown, hg, hbl⟩ := hrel
    by_cases hlt : k < len
    · have hlt' : k < vs.length := by rw [HN.out]; exact hlt
      obtain ⟨b, off, rfl, hlb, ⟨hc0, hc1, hc2⟩, hsz⟩ := (H1.out.below hbl) k hlt'
      have hv := HA.out _ (nth_mem hlt')
      have HS : Hid (soFar len vs (k + 1) = soFar len vs k ++ encV (nthV vs k)) := soFar_succ hlt'
      have hLb := HB.out k
      have HLn : Hid ((soFar len vs (k + 1)).length = (soFar len vs k).length + (encV (nthV vs k)).length) := by show _ = _; rw [HS.out, List.length_append]
      revert HS HLn
      generalize hxs : soFar len vs k = xs at *
      generalize hL : xs.length = L at *
      have HO : Hid (wr.ownsRow w.heap.size 5 1 (.slice (some ⟨g, 0, none⟩) L cap') L xs) := hown
      clear hown hxs hL
      generalize nthV vs k = v at *
      obtain ⟨kd, n, t⟩ := v
      intro HS HLn
      have hok : okV kd n t = true := hv
      have hsz' : t.size ≤ maxLen := hsz
      have hc0 : wr.cell? ⟨b, off + k * 3, none⟩ = some (.int .i64 kd) := hc0
      have hc1 : wr.cell? ⟨b, off + k * 3 + 1, none⟩ = some (.int .i64 n) := hc1
      have hc2 : wr.cell? ⟨b, off + k * 3 + 2, none⟩ = some (.string t) := hc2
      have hws : w.heap.size ≤ wr.heap.size := hbl.size
      clear hv hsz hlt' hsz'
      rcases kind_of hok with ⟨rfl, hn0, hs0⟩ | ⟨rfl, hn⟩ | rfl | ⟨hk2, ht⟩
      · clear hn0 hs0 hok
        have HF1 : Hid (soFar len vs (k + 1) = xs ++ [.int .u8 0]) := by show _ = _; rw [HS.out]; rfl
        have HF2 : Hid ((soFar len vs (k + 1)).length = L + 1) := by show _ = _; rw [HLn.out]; rfl
        clear HS HLn
        have A0 : Below wr.heap.size wr ((wr.alloc (.cells #[.int .i64 0, .int .i64 n, .string t] 24)).alloc (.cells #[.int .u8 0] 5)) := ((Below.refl _ _).alloc (Nat.le_refl _) _).alloc (by simp) _
        have C0 : Below w.heap.size w ((wr.alloc (.cells #[.int .i64 0, .int .i64 n, .string t] 24)).alloc (.cells #[.int .u8 0] 5)) := hbl.trans (A0.mono hbl.size)
        have a1 : ((wr.alloc (.cells #[.int .i64 0, .int .i64 n, .string t] 24)).alloc (.cells #[.int .u8 0] 5)).ownsRow w.heap.size 5 1 (.slice (some ⟨g, 0, none⟩) L cap') L xs := own_below HO.out A0
        go_wp2_with (at_builtin; go_loud (refine wpList_append_lies _ rfl (.tmp 20) (.tmp 24) 22 rfl w.heap.size 5 i0 (.int .u8 0) 1 1 Try.underlying22 hi hz0 hz1 hz2 rfl (by decide) _ L _ rfl a1 ⟨wr.heap.size + 1, 0, none⟩ 1 1 [.int .u8 0] rfl rfl (news_one (by simp)) (one1 _) (by decide) (by unfold maxLen; omega) (by omega) (by simp; omega) (wr.heap.size + 2) (by simp) ?_))
        intro g1 cap1 w1 e1 hgrow hat hg1
        have b1 := grown_below C0 C0.size a1 hgrow
        have q0 : w1.cell? ⟨wr.heap.size, 0, none⟩ = some (.int .i64 0) := by rw [hgrow.cell_far _ (by simp; omega) (by simp [Value.ownBlock]; omega)]; go_simp
        have q1 : w1.cell? ⟨wr.heap.size, 1, none⟩ = some (.int .i64 n) := by rw [hgrow.cell_far _ (by simp; omega) (by simp [Value.ownBlock]; omega)]; go_simp
        have q2 : w1.cell? ⟨wr.heap.size, 2, none⟩ = some (.string t) := by rw [hgrow.cell_far _ (by simp; omega) (by simp [Value.ownBlock]; omega)]; go_simp
        have hne : g1 ≠ wr.heap.size := by
          rcases hat with h | h
          · simp [Value.ownBlock] at h; omega
          · omega
        have O1 : Hid (w1.ownsRow w.heap.size 5 1 (.slice (some ⟨g1, 0, none⟩) (L + 1) cap1) (L + 1) (xs ++ [.int .u8 0])) := e1
        have hsz1 : wr.heap.size + 2 ≤ w1.heap.size := by have := hgrow.size; simp at this; omega
        clear e1 hgrow hat a1 A0 C0
        go_wp2
        go_roundw
        case rel => exact ⟨k + 1, by omega, by go_num, g1, cap1, by rw [HF2.out], by rw [HF2.out, HF1.out]; exact O1.out, hg1, b1⟩
        case measure => simp [intOf]; omega
      · clear hok
        have HF1 : Hid (soFar len vs (k + 1) = xs ++ [.int .u8 1, .int .u8 n]) := by show _ = _; rw [HS.out]; rfl
        have HF2 : Hid ((soFar len vs (k + 1)).length = L + 1 + 1) := by show _ = _; rw [HLn.out]; rfl
        clear HS HLn
        rcases hn with rfl | rfl
        · have A0 : Below wr.heap.size wr ((wr.alloc (.cells #[.int .i64 1, .int .i64 0, .string t] 24)).alloc (.cells #[.int .u8 1] 5)) := ((Below.refl _ _).alloc (Nat.le_refl _) _).alloc (by simp) _
          have C0 : Below w.heap.size w ((wr.alloc (.cells #[.int .i64 1, .int .i64 0, .string t] 24)).alloc (.cells #[.int .u8 1] 5)) := hbl.trans (A0.mono hbl.size)
          have a1 : ((wr.alloc (.cells #[.int .i64 1, .int .i64 0, .string t] 24)).alloc (.cells #[.int .u8 1] 5)).ownsRow w.heap.size 5 1 (.slice (some ⟨g, 0, none⟩) L cap') L xs := own_below HO.out A0
          go_wp2_with (at_builtin; go_loud (refine wpList_append_lies _ rfl (.tmp 20) (.tmp 24) 22 rfl w.heap.size 5 i0 (.int .u8 0) 1 1 Try.underlying22 hi hz0 hz1 hz2 rfl (by decide) _ L _ rfl a1 ⟨wr.heap.size + 1, 0, none⟩ 1 1 [.int .u8 1] rfl rfl (news_one (by simp)) (one1 _) (by decide) (by unfold maxLen; omega) (by omega) (by simp; omega) (wr.heap.size + 2) (by simp) ?_))
          intro g1 cap1 w1 e1 hgrow hat hg1
          have b1 := grown_below C0 C0.size a1 hgrow
          have q0 : w1.cell? ⟨wr.heap.size, 0, none⟩ = some (.int .i64 1) := by rw [hgrow.cell_far _ (by simp; omega) (by simp [Value.ownBlock]; omega)]; go_simp
          have q1 : w1.cell? ⟨wr.heap.size, 1, none⟩ = some (.int .i64 0) := by rw [hgrow.cell_far _ (by simp; omega) (by simp [Value.ownBlock]; omega)]; go_simp
          have q2 : w1.cell? ⟨wr.heap.size, 2, none⟩ = some (.string t) := by rw [hgrow.cell_far _ (by simp; omega) (by simp [Value.ownBlock]; omega)]; go_simp
          have hne : g1 ≠ wr.heap.size := by
            rcases hat with h | h
            · simp [Value.ownBlock] at h; omega
            · omega
          have O1 : Hid (w1.ownsRow w.heap.size 5 1 (.slice (some ⟨g1, 0, none⟩) (L + 1) cap1) (L + 1) (xs ++ [.int .u8 1])) := e1
          have hsz1 : wr.heap.size + 2 ≤ w1.heap.size := by have := hgrow.size; simp at this; omega
          clear e1 hgrow hat a1 A0 C0
          have A1 : Below w1.heap.size w1 (w1.alloc (.cells #[.int .u8 0] 5)) := (Below.refl _ _).alloc (Nat.le_refl _) _
          have C1 : Below w.heap.size w (w1.alloc (.cells #[.int .u8 0] 5)) := b1.trans (A1.mono b1.size)
          have a2 : (w1.alloc (.cells #[.int .u8 0] 5)).ownsRow w.heap.size 5 1 (.slice (some ⟨g1, 0, none⟩) (L + 1) cap1) (L + 1) (xs ++ [.int .u8 1]) := own_below O1.out A1
          go_wp2_with (at_builtin; go_loud (refine wpList_append_lies _ rfl (.tmp 30) (.tmp 34) 22 rfl w.heap.size 5 i0 (.int .u8 0) 1 1 Try.underlying22 hi hz0 hz1 hz2 rfl (by decide) _ (L + 1) _ rfl a2 ⟨w1.heap.size, 0, none⟩ 1 1 [.int .u8 0] rfl rfl (news_one (by simp)) (one1 _) (by decide) (by unfold maxLen; omega) (by omega) (by simp; omega) (w1.heap.size + 1) (by simp) ?_))
          intro g2 cap2 w2 e2 hgrow hat hg2
          have b2 := grown_below C1 C1.size a2 hgrow
          have O2 : Hid (w2.ownsRow w.heap.size 5 1 (.slice (some ⟨g2, 0, none⟩) (L + 1 + 1) cap2) (L + 1 + 1) (xs ++ [.int .u8 1, .int .u8 0])) := by show World.ownsRow _ _ _ _ _ _ _; simpa using e2
          clear e2 hgrow hat a2 A1 C1 q0 q1 q2
          go_wp2
          go_roundw
          case rel => exact ⟨k + 1, by omega, by go_num, g2, cap2, by rw [HF2.out], by rw [HF2.out, HF1.out]; exact O2.out, hg2, b2⟩
          case measure => simp [intOf]; omega
        · have A0 : Below wr.heap.size wr ((wr.alloc (.cells #[.int .i64 1, .int .i64 1, .string t] 24)).alloc (.cells #[.int .u8 1] 5)) := ((Below.refl _ _).alloc (Nat.le_refl _) _).alloc (by simp) _
          have C0 : Below w.heap.size w ((wr.alloc (.cells #[.int .i64 1, .int .i64 1, .string t] 24)).alloc (.cells #[.int .u8 1] 5)) := hbl.trans (A0.mono hbl.size)
          have a1 : ((wr.alloc (.cells #[.int .i64 1, .int .i64 1, .string t] 24)).alloc (.cells #[.int .u8 1] 5)).ownsRow w.heap.size 5 1 (.slice (some ⟨g, 0, none⟩) L cap') L xs := own_below HO.out A0
          go_wp2_with (at_builtin; go_loud (refine wpList_append_lies _ rfl (.tmp 20) (.tmp 24) 22 rfl w.heap.size 5 i0 (.int .u8 0) 1 1 Try.underlying22 hi hz0 hz1 hz2 rfl (by decide) _ L _ rfl a1 ⟨wr.heap.size + 1, 0, none⟩ 1 1 [.int .u8 1] rfl rfl (news_one (by simp)) (one1 _) (by decide) (by unfold maxLen; omega) (by omega) (by simp; omega) (wr.heap.size + 2) (by simp) ?_))
          intro g1 cap1 w1 e1 hgrow hat hg1
          have b1 := grown_below C0 C0.size a1 hgrow
          have q0 : w1.cell? ⟨wr.heap.size, 0, none⟩ = some (.int .i64 1) := by rw [hgrow.cell_far _ (by simp; omega) (by simp [Value.ownBlock]; omega)]; go_simp
          have q1 : w1.cell? ⟨wr.heap.size, 1, none⟩ = some (.int .i64 1) := by rw [hgrow.cell_far _ (by simp; omega) (by simp [Value.ownBlock]; omega)]; go_simp
          have q2 : w1.cell? ⟨wr.heap.size, 2, none⟩ = some (.string t) := by rw [hgrow.cell_far _ (by simp; omega) (by simp [Value.ownBlock]; omega)]; go_simp
          have hne : g1 ≠ wr.heap.size := by
            rcases hat with h | h
            · simp [Value.ownBlock] at h; omega
            · omega
          have O1 : Hid (w1.ownsRow w.heap.size 5 1 (.slice (some ⟨g1, 0, none⟩) (L + 1) cap1) (L + 1) (xs ++ [.int .u8 1])) := e1
          have hsz1 : wr.heap.size + 2 ≤ w1.heap.size := by have := hgrow.size; simp at this; omega
          clear e1 hgrow hat a1 A0 C0
          have A1 : Below w1.heap.size w1 (w1.alloc (.cells #[.int .u8 1] 5)) := (Below.refl _ _).alloc (Nat.le_refl _) _
          have C1 : Below w.heap.size w (w1.alloc (.cells #[.int .u8 1] 5)) := b1.trans (A1.mono b1.size)
          have a2 : (w1.alloc (.cells #[.int .u8 1] 5)).ownsRow w.heap.size 5 1 (.slice (some ⟨g1, 0, none⟩) (L + 1) cap1) (L + 1) (xs ++ [.int .u8 1]) := own_below O1.out A1
          go_wp2_with (at_builtin; go_loud (refine wpList_append_lies _ rfl (.tmp 30) (.tmp 34) 22 rfl w.heap.size 5 i0 (.int .u8 0) 1 1 Try.underlying22 hi hz0 hz1 hz2 rfl (by decide) _ (L + 1) _ rfl a2 ⟨w1.heap.size, 0, none⟩ 1 1 [.int .u8 1] rfl rfl (news_one (by simp)) (one1 _) (by decide) (by unfold maxLen; omega) (by omega) (by simp; omega) (w1.heap.size + 1) (by simp) ?_))
          intro g2 cap2 w2 e2 hgrow hat hg2
          have b2 := grown_below C1 C1.size a2 hgrow
          have O2 : Hid (w2.ownsRow w.heap.size 5 1 (.slice (some ⟨g2, 0, none⟩) (L + 1 + 1) cap2) (L + 1 + 1) (xs ++ [.int .u8 1, .int .u8 1])) := by show World.ownsRow _ _ _ _ _ _ _; simpa using e2
          clear e2 hgrow hat a2 A1 C1 q0 q1 q2
          go_wp2
          go_roundw
          case rel => exact ⟨k + 1, by omega, by go_num, g2, cap2, by rw [HF2.out], by rw [HF2.out, HF1.out]; exact O2.out, hg2, b2⟩
          case measure => simp [intOf]; omega
      · clear hok
        have HF1 : Hid (soFar len vs (k + 1) = xs ++ Value.int .u8 2 :: encI n) := by show _ = _; rw [HS.out]; rfl
        have HF2 : Hid ((soFar len vs (k + 1)).length = L + 1 + 8) := by show _ = _; rw [HLn.out]; rw [encV_int, List.length_cons, encI_len]
        clear HS HLn
        have A0 : Below wr.heap.size wr ((wr.alloc (.cells #[.int .i64 2, .int .i64 n, .string t] 24)).alloc (.cells #[.int .u8 2] 5)) := ((Below.refl _ _).alloc (Nat.le_refl _) _).alloc (by simp) _
        have C0 : Below w.heap.size w ((wr.alloc (.cells #[.int .i64 2, .int .i64 n, .string t] 24)).alloc (.cells #[.int .u8 2] 5)) := hbl.trans (A0.mono hbl.size)
        have a1 : ((wr.alloc (.cells #[.int .i64 2, .int .i64 n, .string t] 24)).alloc (.cells #[.int .u8 2] 5)).ownsRow w.heap.size 5 1 (.slice (some ⟨g, 0, none⟩) L cap') L xs := own_below HO.out A0
        go_wp2_with (at_builtin; go_loud (refine wpList_append_lies _ rfl (.tmp 20) (.tmp 24) 22 rfl w.heap.size 5 i0 (.int .u8 0) 1 1 Try.underlying22 hi hz0 hz1 hz2 rfl (by decide) _ L _ rfl a1 ⟨wr.heap.size + 1, 0, none⟩ 1 1 [.int .u8 2] rfl rfl (news_one (by simp)) (one1 _) (by decide) (by unfold maxLen; omega) (by omega) (by simp; omega) (wr.heap.size + 2) (by simp) ?_))
        intro g1 cap1 w1 e1 hgrow hat hg1
        have b1 := grown_below C0 C0.size a1 hgrow
        have q0 : w1.cell? ⟨wr.heap.size, 0, none⟩ = some (.int .i64 2) := by rw [hgrow.cell_far _ (by simp; omega) (by simp [Value.ownBlock]; omega)]; go_simp
        have q1 : w1.cell? ⟨wr.heap.size, 1, none⟩ = some (.int .i64 n) := by rw [hgrow.cell_far _ (by simp; omega) (by simp [Value.ownBlock]; omega)]; go_simp
        have q2 : w1.cell? ⟨wr.heap.size, 2, none⟩ = some (.string t) := by rw [hgrow.cell_far _ (by simp; omega) (by simp [Value.ownBlock]; omega)]; go_simp
        have hne : g1 ≠ wr.heap.size := by
          rcases hat with h | h
          · simp [Value.ownBlock] at h; omega
          · omega
        have O1 : Hid (w1.ownsRow w.heap.size 5 1 (.slice (some ⟨g1, 0, none⟩) (L + 1) cap1) (L + 1) (xs ++ [.int .u8 2])) := e1
        have hsz1 : wr.heap.size + 2 ≤ w1.heap.size := by have := hgrow.size; simp at this; omega
        clear e1 hgrow hat a1 A0 C0
        have hws1 : w.heap.size ≤ w1.heap.size := b1.size
        go_wp2_with fail
        refine (l01Eight_any n w1).mono ?_
        rintro e w2 ⟨v8, rfl, o8, hb2⟩
        obtain ⟨g8, c8, rfl, hn8⟩ := own_cells o8 (by decide)
        have C2 := b1.trans (hb2.mono b1.size)
        have a2 : w2.ownsRow w.heap.size 5 1 (.slice (some ⟨g1, 0, none⟩) (L + 1) cap1) (L + 1) (xs ++ [.int .u8 2]) := own_below O1.out hb2
        have hws2 : w.heap.size ≤ w2.heap.size := C2.size
        have HN8 : Hid (∀ j x, (encI n)[j]? = some x → w2.cell? ((⟨g8, 0, none⟩ : Addr).add j) = some x) := hn8
        clear o8 hb2 hn8 q0 q1 q2
        go_wp2_with (at_builtin; go_loud (refine wpList_append_lies _ rfl (.tmp 38) (.tmp 41) 22 rfl w.heap.size 5 i0 (.int .u8 0) 1 1 Try.underlying22 hi hz0 hz1 hz2 rfl (by decide) _ (L + 1) _ rfl a2 ⟨g8, 0, none⟩ 8 c8 (encI n) rfl (encI_len n) HN8.out (encI_one n) (by decide) (by unfold maxLen; omega) (by omega) (by omega) w2.heap.size rfl ?_))
        intro g2 cap2 w3 e2 hgrow hat hg2
        have b2 := grown_below C2 C2.size a2 hgrow
        have O2 : Hid (w3.ownsRow w.heap.size 5 1 (.slice (some ⟨g2, 0, none⟩) (L + 1 + 8) cap2) (L + 1 + 8) (xs ++ Value.int .u8 2 :: encI n)) := by show World.ownsRow _ _ _ _ _ _ _; simpa using e2
        clear e2 hgrow hat a2 C2 HN8
        go_wp2
        go_roundw
        case rel => exact ⟨k + 1, by omega, by go_num, g2, cap2, by rw [HF2.out], by rw [HF2.out, HF1.out]; exact O2.out, hg2, b2⟩
        case measure => simp [intOf]; omega

      · clear hok
        rcases hk2 with rfl | rfl
        · have HF1 : Hid (soFar len vs (k + 1) = xs ++ Value.int .u8 3 :: Value.int .u8 t.size :: Lib.strCells t) := by show _ = _; rw [HS.out]; rfl
          have HF2 : Hid ((soFar len vs (k + 1)).length = L + 1 + 1 + t.size) := by show _ = _; rw [HLn.out]; rw [encV_text, List.length_cons, List.length_cons, Lib.strCells_length]; omega
          clear HS HLn
          have A0 : Below wr.heap.size wr ((wr.alloc (.cells #[.int .i64 3, .int .i64 n, .string t] 24)).alloc (.cells #[.int .u8 3] 5)) := ((Below.refl _ _).alloc (Nat.le_refl _) _).alloc (by simp) _
          have C0 : Below w.heap.size w ((wr.alloc (.cells #[.int .i64 3, .int .i64 n, .string t] 24)).alloc (.cells #[.int .u8 3] 5)) := hbl.trans (A0.mono hbl.size)
          have a1 : ((wr.alloc (.cells #[.int .i64 3, .int .i64 n, .string t] 24)).alloc (.cells #[.int .u8 3] 5)).ownsRow w.heap.size 5 1 (.slice (some ⟨g, 0, none⟩) L cap') L xs := own_below HO.out A0
          go_wp2_with (at_builtin; go_loud (refine wpList_append_lies _ rfl (.tmp 20) (.tmp 24) 22 rfl w.heap.size 5 i0 (.int .u8 0) 1 1 Try.underlying22 hi hz0 hz1 hz2 rfl (by decide) _ L _ rfl a1 ⟨wr.heap.size + 1, 0, none⟩ 1 1 [.int .u8 3] rfl rfl (news_one (by simp)) (one1 _) (by decide) (by unfold maxLen; omega) (by omega) (by simp; omega) (wr.heap.size + 2) (by simp) ?_))
          intro g1 cap1 w1 e1 hgrow hat hg1
          have b1 := grown_below C0 C0.size a1 hgrow
          have q0 : w1.cell? ⟨wr.heap.size, 0, none⟩ = some (.int .i64 3) := by rw [hgrow.cell_far _ (by simp; omega) (by simp [Value.ownBlock]; omega)]; go_simp
          have q1 : w1.cell? ⟨wr.heap.size, 1, none⟩ = some (.int .i64 n) := by rw [hgrow.cell_far _ (by simp; omega) (by simp [Value.ownBlock]; omega)]; go_simp
          have q2 : w1.cell? ⟨wr.heap.size, 2, none⟩ = some (.string t) := by rw [hgrow.cell_far _ (by simp; omega) (by simp [Value.ownBlock]; omega)]; go_simp
          have hne : g1 ≠ wr.heap.size := by
            rcases hat with h | h
            · simp [Value.ownBlock] at h; omega
            · omega
          have O1 : Hid (w1.ownsRow w.heap.size 5 1 (.slice (some ⟨g1, 0, none⟩) (L + 1) cap1) (L + 1) (xs ++ [.int .u8 3])) := e1
          have hsz1 : wr.heap.size + 2 ≤ w1.heap.size := by have := hgrow.size; simp at this; omega
          clear e1 hgrow hat a1 A0 C0
          have hws1 : w.heap.size ≤ w1.heap.size := b1.size
          have hlt1 : wr.heap.size < w1.heap.size := by omega
          have HW : Hid (IntKind.u8.wrap (t.size : Int) = t.size) := wrap_small ht
          clear q1
          go_wp2_with fail
          go_region_held3 (fun w' => w'.cell? ⟨wr.heap.size, 2, none⟩ = some (.string t))
            (first
              | go_keep
              | (rw [hgrow3.cell_far _ (by have := hgrow.size; simp at this; show wr.heap.size < _; omega) (by rcases hat with h | h <;> simp [Value.ownBlock] at h ⊢ <;> omega)]; assumption)
              | (rw [hgrow.cell_far _ (by simp; omega) (by simp [Value.ownBlock]; omega)]; assumption))
            (first
              | (refine step_append_lies _ (by rfl) _ _ _ (by rfl) w.heap.size 5 i0 (.int .u8 0) 1 1 Try.underlying22 hi hz0 hz1 hz2 rfl (by decide) (.slice (some ⟨g1, 0, none⟩) (L + 1) cap1) (L + 1) (xs ++ [.int .u8 3]) (by rfl) (own_below O1.out ((Below.refl _ _).alloc (Nat.le_refl _) _).drew) ⟨w1.heap.size, 0, none⟩ 1 1 [.int .u8 (IntKind.u8.wrap (t.size : Int))] (by rfl) (by rfl) (news_one' rfl) (one1 _) (by decide) (by unfold maxLen; omega) (by omega) (by simp; omega) (w1.heap.size + 1) (by simp) ?_; intro g2 cap2 w2 e2 hgrow hat hg2)
              | (refine step_append_str _ (by rfl) _ _ _ _ (by rfl) w.heap.size 5 i0 Try.underlying22 Try.underlying9 hi hz0 hz1 hz2 (.slice (some ⟨g2, 0, none⟩) (L + 1 + 1) cap2) (L + 1 + 1) (xs ++ [.int .u8 3] ++ [.int .u8 (IntKind.u8.wrap (t.size : Int))]) (by rfl) e2 t (by rfl) (by omega) (by unfold maxLen; omega) (by omega) (by have := hgrow.size; simp at this; omega) ?_; intro g3 cap3 w3 e3 hgrow3 hg3))
          have C2 : Below w.heap.size w ((w1.alloc (.cells #[.int .u8 (IntKind.u8.wrap (t.size : Int))] 5)).drew) := (b1.alloc b1.size _).drew
          have a2 : ((w1.alloc (.cells #[.int .u8 (IntKind.u8.wrap (t.size : Int))] 5)).drew).ownsRow w.heap.size 5 1 (.slice (some ⟨g1, 0, none⟩) (L + 1) cap1) (L + 1) (xs ++ [.int .u8 3]) := own_below O1.out ((Below.refl _ _).alloc (Nat.le_refl _) _).drew
          have b2 := grown_below C2 C2.size a2 hgrow
          have b3 := grown_below b2 b2.size e2 hgrow3
          have O3 : Hid (w3.ownsRow w.heap.size 5 1 (.slice (some ⟨g3, 0, none⟩) (L + 1 + 1 + t.size) cap3) (L + 1 + 1 + t.size) (xs ++ Value.int .u8 3 :: Value.int .u8 t.size :: Lib.strCells t)) := by
            show World.ownsRow _ _ _ _ _ _ _
            have h := e3
            rw [HW.out] at h
            simpa using h
          clear e2 e3 hgrow hgrow3 hat a2 C2 b2 q0 q2
          go_wp2
          go_roundw
          case rel => exact ⟨k + 1, by omega, by go_num, g3, cap3, by rw [HF2.out], by rw [HF2.out, HF1.out]; exact O3.out, hg3, b3⟩
          case measure => simp [intOf]; omega
        · have HF1 : Hid (soFar len vs (k + 1) = xs ++ Value.int .u8 4 :: Value.int .u8 t.size :: Lib.strCells t) := by show _ = _; rw [HS.out]; rfl
          have HF2 : Hid ((soFar len vs (k + 1)).length = L + 1 + 1 + t.size) := by show _ = _; rw [HLn.out]; rw [encV_bytes', List.length_cons, List.length_cons, Lib.strCells_length]; omega
          clear HS HLn
          have A0 : Below wr.heap.size wr ((wr.alloc (.cells #[.int .i64 4, .int .i64 n, .string t] 24)).alloc (.cells #[.int .u8 4] 5)) := ((Below.refl _ _).alloc (Nat.le_refl _) _).alloc (by simp) _
          have C0 : Below w.heap.size w ((wr.alloc (.cells #[.int .i64 4, .int .i64 n, .string t] 24)).alloc (.cells #[.int .u8 4] 5)) := hbl.trans (A0.mono hbl.size)
          have a1 : ((wr.alloc (.cells #[.int .i64 4, .int .i64 n, .string t] 24)).alloc (.cells #[.int .u8 4] 5)).ownsRow w.heap.size 5 1 (.slice (some ⟨g, 0, none⟩) L cap') L xs := own_below HO.out A0
          go_wp2_with (at_builtin; go_loud (refine wpList_append_lies _ rfl (.tmp 20) (.tmp 24) 22 rfl w.heap.size 5 i0 (.int .u8 0) 1 1 Try.underlying22 hi hz0 hz1 hz2 rfl (by decide) _ L _ rfl a1 ⟨wr.heap.size + 1, 0, none⟩ 1 1 [.int .u8 4] rfl rfl (news_one (by simp)) (one1 _) (by decide) (by unfold maxLen; omega) (by omega) (by simp; omega) (wr.heap.size + 2) (by simp) ?_))
          intro g1 cap1 w1 e1 hgrow hat hg1
          have b1 := grown_below C0 C0.size a1 hgrow
          have q0 : w1.cell? ⟨wr.heap.size, 0, none⟩ = some (.int .i64 4) := by rw [hgrow.cell_far _ (by simp; omega) (by simp [Value.ownBlock]; omega)]; go_simp
          have q1 : w1.cell? ⟨wr.heap.size, 1, none⟩ = some (.int .i64 n) := by rw [hgrow.cell_far _ (by simp; omega) (by simp [Value.ownBlock]; omega)]; go_simp
          have q2 : w1.cell? ⟨wr.heap.size, 2, none⟩ = some (.string t) := by rw [hgrow.cell_far _ (by simp; omega) (by simp [Value.ownBlock]; omega)]; go_simp
          have hne : g1 ≠ wr.heap.size := by
            rcases hat with h | h
            · simp [Value.ownBlock] at h; omega
            · omega
          have O1 : Hid (w1.ownsRow w.heap.size 5 1 (.slice (some ⟨g1, 0, none⟩) (L + 1) cap1) (L + 1) (xs ++ [.int .u8 4])) := e1
          have hsz1 : wr.heap.size + 2 ≤ w1.heap.size := by have := hgrow.size; simp at this; omega
          clear e1 hgrow hat a1 A0 C0
          have hws1 : w.heap.size ≤ w1.heap.size := b1.size
          have hlt1 : wr.heap.size < w1.heap.size := by omega
          have HW : Hid (IntKind.u8.wrap (t.size : Int) = t.size) := wrap_small ht
          clear q1
          go_wp2_with fail
          go_region_held3 (fun w' => w'.cell? ⟨wr.heap.size, 2, none⟩ = some (.string t))
            (first
              | go_keep
              | (rw [hgrow3.cell_far _ (by have := hgrow.size; simp at this; show wr.heap.size < _; omega) (by rcases hat with h | h <;> simp [Value.ownBlock] at h ⊢ <;> omega)]; assumption)
              | (rw [hgrow.cell_far _ (by simp; omega) (by simp [Value.ownBlock]; omega)]; assumption))
            (first
              | (refine step_append_lies _ (by rfl) _ _ _ (by rfl) w.heap.size 5 i0 (.int .u8 0) 1 1 Try.underlying22 hi hz0 hz1 hz2 rfl (by decide) (.slice (some ⟨g1, 0, none⟩) (L + 1) cap1) (L + 1) (xs ++ [.int .u8 4]) (by rfl) (own_below O1.out ((Below.refl _ _).alloc (Nat.le_refl _) _).drew) ⟨w1.heap.size, 0, none⟩ 1 1 [.int .u8 (IntKind.u8.wrap (t.size : Int))] (by rfl) (by rfl) (news_one' rfl) (one1 _) (by decide) (by unfold maxLen; omega) (by omega) (by simp; omega) (w1.heap.size + 1) (by simp) ?_; intro g2 cap2 w2 e2 hgrow hat hg2)
              | (refine step_append_str _ (by rfl) _ _ _ _ (by rfl) w.heap.size 5 i0 Try.underlying22 Try.underlying9 hi hz0 hz1 hz2 (.slice (some ⟨g2, 0, none⟩) (L + 1 + 1) cap2) (L + 1 + 1) (xs ++ [.int .u8 4] ++ [.int .u8 (IntKind.u8.wrap (t.size : Int))]) (by rfl) e2 t (by rfl) (by omega) (by unfold maxLen; omega) (by omega) (by have := hgrow.size; simp at this; omega) ?_; intro g3 cap3 w3 e3 hgrow3 hg3))
          have C2 : Below w.heap.size w ((w1.alloc (.cells #[.int .u8 (IntKind.u8.wrap (t.size : Int))] 5)).drew) := (b1.alloc b1.size _).drew
          have a2 : ((w1.alloc (.cells #[.int .u8 (IntKind.u8.wrap (t.size : Int))] 5)).drew).ownsRow w.heap.size 5 1 (.slice (some ⟨g1, 0, none⟩) (L + 1) cap1) (L + 1) (xs ++ [.int .u8 4]) := own_below O1.out ((Below.refl _ _).alloc (Nat.le_refl _) _).drew
          have b2 := grown_below C2 C2.size a2 hgrow
          have b3 := grown_below b2 b2.size e2 hgrow3
          have O3 : Hid (w3.ownsRow w.heap.size 5 1 (.slice (some ⟨g3, 0, none⟩) (L + 1 + 1 + t.size) cap3) (L + 1 + 1 + t.size) (xs ++ Value.int .u8 4 :: Value.int .u8 t.size :: Lib.strCells t)) := by
            show World.ownsRow _ _ _ _ _ _ _
            have h := e3
            rw [HW.out] at h
            simpa using h
          clear e2 e3 hgrow hgrow3 hat a2 C2 b2 q0 q2
          go_wp2
          go_roundw
          case rel => exact ⟨k + 1, by omega, by go_num, g3, cap3, by rw [HF2.out], by rw [HF2.out, HF1.out]; exact O3.out, hg3, b3⟩
          case measure => simp [intOf]; omega
    · obtain rfl : k = len := by omega
      go_wp2
      go_ret
      exact ⟨_, rfl, by rw [HE.out, ← HN.out]; rw [← HN.out] at hown; exact hown, hbl⟩
end Go.Proofs.Ytfkenogbfbbbjaa
