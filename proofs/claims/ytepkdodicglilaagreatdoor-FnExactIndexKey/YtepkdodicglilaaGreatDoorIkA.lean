/- Values and bytes appended for index keys; slices.Grow and Concat of bytes (stage 9). -/
import Derived.Test.YtepkdodicglilaaGreatDoorRkA
import Derived.Test.YtepkdodicglilaaGreatDoorWdA
import Derived.Lib.AppendZeros
namespace Go.Proofs.YtepkdodicglilaaGreatDoor
open Go.RowKit

theorem grownV {B : Nat} {w u u' : World} {v : Value} {l : List V3} (h : Below B w u) (hB : B ≤ u.heap.size) (ho : OwnV u B v l) (hg : u.grownBy u' v.ownBlock) : Below B w u' :=
  h.grown hg hB fun k e => by
    obtain ⟨_, h2⟩ := ho
    rcases h2 with ⟨rfl, _⟩ | ⟨g, cap, cur, rfl, hg', _⟩
    · simp [Value.ownBlock] at e
    · simp [Value.ownBlock] at e
      omega
theorem OwnV.made (w : World) (B : Nat) (hB : B ≤ w.heap.size) : OwnV (w.alloc (.cells #[] 59)) B (.slice (some ⟨w.heap.size, 0, none⟩) 0 0) [] :=
  ⟨rfl, .inr ⟨w.heap.size, 0, #[], rfl, hB, heap_new' _ _ _ rfl, Nat.le_refl _, Nat.zero_le _, rfl, rfl⟩⟩
/-- A value that the call has put into a block is a row of one. -/
theorem oneV (w : World) (x : V3) (hs : x.2.2.size ≤ maxLen) : RowV (w.alloc (.cells #[.int .i64 x.1, .int .i64 x.2.1, .string x.2.2] 59)) (some ⟨w.heap.size, 0, none⟩) [x] := fun i hi => by
  have hi0 : i = 0 := by simpa using hi
  subst hi0
  exact ⟨w.heap.size, 0, rfl, by simp, ⟨slab_cell (heap_new' _ _ _ rfl), slab_cell (heap_new' _ _ _ rfl), slab_cell (heap_new' _ _ _ rfl)⟩, hs⟩
/-- The values of a row in columns. -/
def pick (is : List Int) (vs : List V3) : List V3 := is.map fun i => nthV vs i.toNat
theorem pick_len (is : List Int) (vs : List V3) : (pick is vs).length = is.length := by unfold pick; simp
theorem pick_snoc {is : List Int} {vs : List V3} {k p : Nat} (hk : k < is.length) (hp : nthI is k = (p : Int)) : pick (is.take (k + 1)) vs = pick (is.take k) vs ++ [nthV vs p] := by
  unfold pick
  rw [List.take_succ_eq_append_getElem hk, List.map_append]
  have : is[k] = (p : Int) := by rw [← nthI_get hk]; exact hp
  simp [this]
theorem nthV_mem {vs : List V3} {p : Nat} (h : p < vs.length) : nthV vs p ∈ vs := nth_mem h
theorem pick_ok {is : List Int} {vs : List V3} (hr : ∀ k, k < is.length → 0 ≤ nthI is k ∧ nthI is k < vs.length) (h : ∀ v ∈ vs, okV3 v = true) : ∀ v ∈ pick is vs, okV3 v = true := fun v hv => by
  unfold pick at hv
  obtain ⟨i, hi, rfl⟩ := List.mem_map.1 hv
  obtain ⟨k, hk, rfl⟩ := List.mem_iff_getElem.1 hi
  have := hr k hk
  rw [nthI_get hk] at this
  exact h _ (nth_mem (by omega))
theorem text_ok {v : V3} (h : okV3 v = true) : v.2.2.size ≤ maxLen := by
  have h' : okV v.1 v.2.1 v.2.2 = true := h
  unfold maxLen
  rcases kind_of h' with ⟨_, _, h0⟩ | ⟨hk, _⟩ | hk | ⟨_, h60⟩
  · omega
  · unfold okV at h'
    rw [if_neg (by omega), if_pos hk] at h'
    simp [ByteArray.toList_eq] at h'
    rw [← ByteArray.size_data, h'.2]
    exact Nat.zero_le _
  · unfold okV at h'
    rw [if_neg (by omega), if_neg (by omega), if_pos hk] at h'
    simp [ByteArray.toList_eq] at h'
    rw [← ByteArray.size_data, h']
    exact Nat.zero_le _
  · omega
/-- Bytes that a call has made. -/
abbrev OwnU (w : World) (B : Nat) (v : Value) (xs : List Value) : Prop := w.ownsRow B 5 1 v xs.length xs
def BytesL (xs : List Value) : Prop := ∀ x ∈ xs, ∃ c : Int, x = .int .u8 c ∧ 0 ≤ c ∧ c ≤ 255
theorem byteVal_at {xs : List Value} (h : BytesL xs) {i : Nat} {u : Value} (hi : xs[i]? = some u) : u = .int .u8 (byteVal xs i) := by
  obtain ⟨c, rfl, _⟩ := h u (List.mem_of_getElem? hi)
  unfold byteVal
  rw [hi]
set_option maxRecDepth 100000 in
theorem app_U (v : Value) (l us : List Value) (w : World) (B b off c : Nat) (h : OwnU w B v l) (hl : l.length + us.length ≤ 2097152) (hb : BytesL us) (hx : ReadB w (some ⟨b, off, none⟩) us.length (byteVal us)) (hB : B ≤ w.heap.size) :
    ∃ v' w', (Builtin.append_ #[41, 41] 41 #[v, .slice (some ⟨b, off, none⟩) us.length c]).run Tryz.prog w = .ok v' w' ∧ OwnU w' B v' (l ++ us) ∧ w.grownBy w' v.ownBlock := by
  obtain ⟨i0, hi, hz0, hz1, hz2⟩ := info_parts info5
  obtain ⟨v', w', h1, h2, h3, _⟩ := run_append_own (P := Tryz.prog) w B 41 41 5 i0 _ 1 1 Tryz.underlying41 hi hz0 hz1 hz2 rfl (by decide) v l.length l h ⟨b, off, none⟩ us.length c us (by simp) (fun j u hj => by
    have hj' : j < us.length := by
      rcases Nat.lt_or_ge j us.length with h | h
      · exact h
      · rw [List.getElem?_eq_none h] at hj; cases hj
    obtain ⟨b', off', e, _, hc⟩ := hx j hj'
    cases e
    rw [add_plain, byteVal_at hb hj]
    exact hc) (fun u hu => by obtain ⟨c, rfl, _⟩ := hb u hu; rfl) (by unfold maxLen; omega) (by omega) hB
  exact ⟨v', w', h1, by rw [← List.length_append] at h2; exact h2, h3⟩
theorem grownU {B : Nat} {w u u' : World} {v : Value} {l : List Value} (h : Below B w u) (hB : B ≤ u.heap.size) (ho : OwnU u B v l) (hg : u.grownBy u' v.ownBlock) : Below B w u' :=
  h.grown hg hB fun k e => by
    obtain ⟨_, h2⟩ := ho
    rcases h2 with ⟨rfl, _⟩ | ⟨g, cap, cur, rfl, hg', _⟩
    · simp [Value.ownBlock] at e
    · simp [Value.ownBlock] at e
      omega
theorem OwnU.nil (w : World) (B : Nat) : OwnU w B (.slice none 0 0) [] := ⟨rfl, .inl ⟨rfl, rfl⟩⟩
theorem OwnU.bytes {w : World} {B : Nat} {v : Value} {xs : List Value} (h : OwnU w B v xs) (hb : BytesL xs) : ∃ a c, v = .slice a xs.length c ∧ NewB B a xs.length ∧ OwnB w a xs.length (byteVal xs) := by
  obtain ⟨_, h2⟩ := h
  rcases h2 with ⟨rfl, h0⟩ | ⟨g, cap, cur, rfl, hB, hh, hn, _, hcs, htk⟩
  · exact ⟨none, 0, by rw [h0], .inl ⟨rfl, h0⟩, .inl h0⟩
  · refine ⟨_, _, rfl, .inr ⟨g, rfl, hB⟩, .inr ⟨g, cur, 0, 0, rfl, hh, by omega, .inl rfl, fun i hi => ?_⟩⟩
    have hxi : xs[i]? = cur[i]? := by rw [← htk, List.getElem?_take, if_pos (by omega), Array.getElem?_toList]
    rw [← hxi, List.getElem?_eq_getElem hi, byteVal_at hb (List.getElem?_eq_getElem hi)]
theorem size_zeros5 (k : Nat) : (Builtin.zeroCells (Value.int .u8 0).cells k).size = k := by
  rw [size_zeroCells]
  simp [Value.cells]
set_option maxRecDepth 100000 in
set_option maxHeartbeats 2000000 in
theorem growB_any (n : Nat) (w : World) (hn : n ≤ 4096) :
    Calls Tryz.prog 68 #[.slice none 0 0, .int .i64 n] w fun e w' => ∃ v, e = .returned v ∧ OwnU w' w.heap.size v [] ∧ Below w.heap.size w w' := by
  by_cases h0 : n = 0
  · subst h0
    go_enter Tryz.func68, Tryz.ntmps68
    go_wp2
    go_ret
    exact ⟨_, rfl, OwnU.nil _ _, Below.refl _ _⟩
  · obtain ⟨i0, hi, hz0, hz1, hz2⟩ := info_parts info5
    have hrun := Lib.run_append_nil_zeros (P := Tryz.prog) w 41 3 41 5 i0 _ .i64 .i64 Tryz.underlying41 Tryz.underlying3 hi hz0 n (by omega) (by rw [hz1]; omega) (by omega) (by rw [hz2]; omega)
    have hge := grownCap_ge w n 0 5
    have hle := grownCap_le_maxLen w n 0 5 (by unfold maxLen; omega)
    have HO : Hid (OwnU (w.drew.alloc (.cells (Builtin.zeroCells (Value.int .u8 0).cells n ++ Builtin.zeroCells (Value.int .u8 0).cells (grownCap w n 0 5 - n)) 5)) w.heap.size (.slice (some ⟨w.heap.size, 0, none⟩) 0 (grownCap w n 0 5)) []) :=
      ⟨rfl, .inr ⟨w.heap.size, _, _, rfl, Nat.le_refl _, heap_alloc_new w.drew _, by simp, hle, by rw [Array.size_append, size_zeros5, size_zeros5]; omega, by simp⟩⟩
    have HB : Hid (Below w.heap.size w (w.drew.alloc (.cells (Builtin.zeroCells (Value.int .u8 0).cells n ++ Builtin.zeroCells (Value.int .u8 0).cells (grownCap w n 0 5 - n)) 5))) := (Below.refl _ _).drew.alloc (Nat.le_refl _) _
    generalize w.drew.alloc (.cells (Builtin.zeroCells (Value.int .u8 0).cells n ++ Builtin.zeroCells (Value.int .u8 0).cells (grownCap w n 0 5 - n)) 5) = w1 at *
    generalize grownCap w n 0 5 = cp at *
    unfold maxLen at hle
    clear hi hz0 hz1 hz2
    have hn0 : ¬ (n : Int) < 0 := by omega
    have hnp : (0 : Int) < (n : Int) := by omega
    go_enter Tryz.func68, Tryz.ntmps68
    go_wp2_with (at_builtin; refine Lib.wpList_append_run _ rfl _ _ _ _ rfl _ _ rfl rfl _ _ hrun ?_)
    go_ret
    exact ⟨_, rfl, HO.out, HB.out⟩
set_option maxRecDepth 100000 in
set_option maxHeartbeats 4000000 in
theorem concatB_any (s p1 q1 d1 p2 q2 d2 : Nat) (xs ys : List Value) (w : World) (c0 : w.cell? ⟨s, 0, none⟩ = some (.slice (some ⟨p1, q1, none⟩) xs.length d1)) (c1 : w.cell? ⟨s, 1, none⟩ = some (.slice (some ⟨p2, q2, none⟩) ys.length d2)) (hs : s < w.heap.size)
    (b1 : BytesL xs) (b2 : BytesL ys) (h1 : ReadB w (some ⟨p1, q1, none⟩) xs.length (byteVal xs)) (h2 : ReadB w (some ⟨p2, q2, none⟩) ys.length (byteVal ys)) (l1 : xs.length ≤ 2048) (l2 : ys.length ≤ 2048) :
    Calls Tryz.prog 45 #[.slice (some ⟨s, 0, none⟩) 2 2] w fun e w' => ∃ u, e = .returned u ∧ OwnU w' w.heap.size u (xs ++ ys) ∧ Below w.heap.size w w' := by
  have HR : Hid (∀ W, Below w.heap.size w W → ReadB W (some ⟨p1, q1, none⟩) xs.length (byteVal xs) ∧ ReadB W (some ⟨p2, q2, none⟩) ys.length (byteVal ys)) := fun W b => ⟨h1.below b, h2.below b⟩
  have HL : Hid (xs.length ≤ 2048 ∧ ys.length ≤ 2048) := ⟨l1, l2⟩
  have HA1 : Hid (∀ v W B, OwnU W B v [] → B ≤ W.heap.size → Below w.heap.size w W → ∃ v' w', (Builtin.append_ #[41, 41] 41 #[v, .slice (some ⟨p1, q1, none⟩) xs.length d1]).run Tryz.prog W = .ok v' w' ∧ OwnU w' B v' xs ∧ W.grownBy w' v.ownBlock) := fun v W B ho hB hr => by
    obtain ⟨v', w', r, o, g⟩ := app_U v [] xs W B p1 q1 d1 ho (by simp; omega) b1 (HR.out W hr).1 hB
    exact ⟨v', w', r, o, g⟩
  have HA2 : Hid (∀ v W B, OwnU W B v xs → B ≤ W.heap.size → Below w.heap.size w W → ∃ v' w', (Builtin.append_ #[41, 41] 41 #[v, .slice (some ⟨p2, q2, none⟩) ys.length d2]).run Tryz.prog W = .ok v' w' ∧ OwnU w' B v' (xs ++ ys) ∧ W.grownBy w' v.ownBlock) := fun v W B ho hB hr => app_U v xs ys W B p2 q2 d2 ho (by omega) b2 (HR.out W hr).2 hB
  have HC : Hid (w.cell? ⟨s, 0, none⟩ = some (.slice (some ⟨p1, q1, none⟩) xs.length d1) ∧ w.cell? ⟨s, 1, none⟩ = some (.slice (some ⟨p2, q2, none⟩) ys.length d2)) := ⟨c0, c1⟩
  clear h1 h2 HR
  generalize xs.length = n1 at *
  generalize ys.length = n2 at *
  go_enter Tryz.func45, Tryz.ntmps45
  go_wp2
  go_loop [3, 11] (fun sz i => ∃ k : Nat, k ≤ 2 ∧ i = .int .i64 k ∧ sz = .int .i64 (if k = 0 then 0 else if k = 1 then (n1 : Int) else (n1 : Int) + n2)) (fun _ i => 2 - (intOf i).toNat)
  case atStart => exact ⟨0, by omega, rfl, rfl⟩
  case round =>
    obtain ⟨k, hk, rfl, rfl⟩ := hrel
    obtain rfl | rfl | rfl : k = 0 ∨ k = 1 ∨ k = 2 := by omega
    · have hng : ¬ (n1 : Int) < 0 := by omega
      go_wp2
      go_round
      case rel => exact ⟨1, by omega, by go_num, by simp⟩
      case measure => simp [intOf]
    · have hng : ¬ (n1 : Int) + (n2 : Int) < 0 := by omega
      go_wp2
      go_round
      case rel => exact ⟨2, by omega, by go_num, by simp⟩
      case measure => simp [intOf]
    · have G := growB_any (n1 + n2) w (by omega)
      rw [show ((n1 + n2 : Nat) : Int) = (n1 : Int) + (n2 : Int) by push_cast; rfl] at G
      go_wp2_with fail
      refine G.mono ?_
      rintro e w1 ⟨v0, rfl, O0, B0⟩
      have HO0 : Hid (OwnU w1 w.heap.size v0 []) := O0
      clear G O0 c0 c1
      go_wp2
      go_loopw [6, 27] (fun v i wr => ∃ k : Nat, k ≤ 2 ∧ i = .int .i64 k ∧ Hid (OwnU wr w.heap.size v (if k = 0 then [] else if k = 1 then xs else xs ++ ys)) ∧ Below w.heap.size w wr) (fun _ i _ => 2 - (intOf i).toNat)
      case atStart => exact ⟨0, by omega, rfl, HO0, B0⟩
      case round =>
        clear HO0 B0
        obtain ⟨k, hk, rfl, HO, hbl⟩ := hrel
        have c0 : wr.cell? ⟨s, 0, none⟩ = some (.slice (some ⟨p1, q1, none⟩) n1 d1) := (hbl.cell (p := ⟨s, 0, none⟩) hs).trans HC.out.1
        have c1 : wr.cell? ⟨s, 1, none⟩ = some (.slice (some ⟨p2, q2, none⟩) n2 d2) := (hbl.cell (p := ⟨s, 1, none⟩) hs).trans HC.out.2
        obtain rfl | rfl | rfl : k = 0 ∨ k = 1 ∨ k = 2 := by omega
        · obtain ⟨v', w', hr, o, g⟩ := HA1.out u6 wr w.heap.size HO.out hbl.size hbl
          have HO' : Hid (OwnU w' w.heap.size v' xs) := o
          have hB := grownU hbl hbl.size HO.out g
          clear o g HO hbl
          go_wp2_with (at_builtin; refine Lib.wpList_append_run _ rfl _ _ _ _ rfl _ _ rfl rfl _ _ hr ?_)
          go_roundw
          case rel => exact ⟨1, by omega, by go_num, HO', hB⟩
          case measure => simp [intOf]
        · obtain ⟨v', w', hr, o, g⟩ := HA2.out u6 wr w.heap.size HO.out hbl.size hbl
          have HO' : Hid (OwnU w' w.heap.size v' (xs ++ ys)) := o
          have hB := grownU hbl hbl.size HO.out g
          clear o g HO hbl
          go_wp2_with (at_builtin; refine Lib.wpList_append_run _ rfl _ _ _ _ rfl _ _ rfl rfl _ _ hr ?_)
          go_roundw
          case rel => exact ⟨2, by omega, by go_num, HO', hB⟩
          case measure => simp [intOf]
        · go_wp2
          go_ret
          exact ⟨_, rfl, HO.out, hbl⟩
end Go.Proofs.YtepkdodicglilaaGreatDoor
