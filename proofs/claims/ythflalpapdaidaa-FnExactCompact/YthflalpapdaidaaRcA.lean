/- Lists of the call's own, marks on lists (stage 5). -/
import Derived.Test.YthflalpapdaidaaTreE
import Derived.Lib.AppendZeros
namespace Go.Proofs.Ythflalpapdaidaa
open Go.RowKit

theorem blk_there {w : World} {g o : Nat} {cur : Array Value} {e : TypeId} (h : w.heap[g]? = some (.cells cur e (0, 0))) (ho : o < cur.size) : ∃ v, w.cell? ⟨g, o, none⟩ = some v := ⟨cur[o], by rw [slab_cell h]; exact Array.getElem?_eq_getElem ho⟩
theorem nthI_get {ss : List Int} {k : Nat} (hk : k < ss.length) : nthI ss k = ss[k] := by
  unfold nthI; rw [List.getD_eq_getElem?_getD, List.getElem?_eq_getElem hk]; rfl

/-- All blocks but those of S stand. -/
structure Kept (S : Nat → Prop) (w w' : World) : Prop where
  os : w'.os = w.os
  tape : w'.tape = w.tape
  output : w'.output = w.output
  size : w.heap.size ≤ w'.heap.size
  block : ∀ k, k < w.heap.size → ¬ S k → w'.heap[k]? = w.heap[k]?

theorem Kept.refl (S : Nat → Prop) (w : World) : Kept S w w := ⟨rfl, rfl, rfl, Nat.le_refl _, fun _ _ _ => rfl⟩

theorem Kept.trans {S : Nat → Prop} {w w1 w2 : World} (h : Kept S w w1) (h' : Kept S w1 w2) : Kept S w w2 :=
  ⟨h'.os.trans h.os, h'.tape.trans h.tape, h'.output.trans h.output, Nat.le_trans h.size h'.size, fun k hk hS => (h'.block k (Nat.lt_of_lt_of_le hk h.size) hS).trans (h.block k hk hS)⟩

theorem Kept.mono {S S' : Nat → Prop} {w w1 : World} (h : Kept S w w1) (hS : ∀ k, S k → S' k) : Kept S' w w1 := ⟨h.os, h.tape, h.output, h.size, fun k hk hn => h.block k hk fun h' => hn (hS k h')⟩

theorem Kept.of_below {S : Nat → Prop} {w w1 : World} (h : Below w.heap.size w w1) : Kept S w w1 := ⟨h.os, h.tape, h.output, h.size, fun k hk _ => h.block k hk⟩

theorem Kept.below {S : Nat → Prop} {B : Nat} {w w1 : World} (h : Kept S w w1) (hB : B ≤ w.heap.size) (hS : ∀ k, S k → B ≤ k) : Below B w w1 :=
  ⟨h.os, h.tape, h.output, h.size, fun k hk => h.block k (by omega) fun h' => by have := hS k h'; omega⟩

theorem Kept.alloc {S : Nat → Prop} {w w1 : World} (h : Kept S w w1) (o : Obj) : Kept S w (w1.alloc o) := h.trans (Kept.of_below ((Below.refl _ _).alloc (Nat.le_refl _) _))

theorem Kept.set {S : Nat → Prop} {w w1 : World} {g o : Nat} (h : Kept S w w1) (v : Value) (hg : S g) : Kept S w (w1.setCell ⟨g, o, none⟩ v) :=
  h.trans ⟨rfl, rfl, rfl, by simp [World.setCell], fun k _ hk => set_other v (fun e => hk (e ▸ hg))⟩

/-- The numbers from k on, n of them. -/
def marksL (k : Int) (n : Nat) : List Int := (List.range n).map (fun i : Nat => k + (i : Int))

theorem marksL_len (k : Int) (n : Nat) : (marksL k n).length = n := by simp [marksL]

theorem marksL_nth (k : Int) (n i : Nat) (h : i < n) : nthI (marksL k n) i = k + i := by
  rw [nthI_get (by rw [marksL_len]; exact h)]
  simp [marksL]

set_option maxRecDepth 100000 in
set_option maxHeartbeats 1000000 in
theorem markI_slab (g n c N : Nat) (cur0 : Array Value) (k : Int) (w : World) (hh : w.heap[g]? = some (.cells cur0 3 (0, 0))) (hN : cur0.size = N) (hn : n ≤ N) (k0 : 0 ≤ k) (k1 : k ≤ 1152921504606846976) (hn2 : n ≤ 1048576) :
    Calls Try.prog 47 #[.slice (some ⟨g, 0, none⟩) n c, .int .i64 k] w fun r w' => r = .returned (.int .i64 (k + n)) ∧ (∃ cur, w'.heap[g]? = some (.cells cur 3 (0, 0)) ∧ cur.size = N ∧ ∀ i, i < n → cur[i]? = some (.int .i64 (k + i))) ∧ Kept (fun j => j = g) w w' := by
  have HH : Hid (w.heap[g]? = some (.cells cur0 3 (0, 0))) := hh
  have HN : Hid (cur0.size = N) := hN
  clear hh hN
  go_enter Try.func47, Try.ntmps47
  go_wp2
  go_loopw [1, 5] (fun m i wr => ∃ j : Nat, j ≤ n ∧ i = .int .i64 j ∧ m = .int .i64 (k + j) ∧ (∃ cur, wr.heap[g]? = some (.cells cur 3 (0, 0)) ∧ cur.size = N ∧ ∀ i, i < j → cur[i]? = some (.int .i64 (k + i))) ∧ Kept (fun j => j = g) w wr) (fun _ i _ => n - (intOf i).toNat)
  case atStart => exact ⟨0, by omega, rfl, by simp, ⟨cur0, HH.out, HN.out, fun i hi => by omega⟩, Kept.refl _ _⟩
  case round =>
    obtain ⟨j, hj, rfl, rfl, ⟨cur, hc, hs, hv⟩, hK⟩ := hrel
    have HC : Hid (wr.heap[g]? = some (.cells cur 3 (0, 0)) ∧ cur.size = N ∧ ∀ i, i < j → cur[i]? = some (.int .i64 (k + i))) := ⟨hc, hs, hv⟩
    clear hc hs hv
    by_cases hlt : j < n
    · obtain ⟨v0, hv0⟩ : ∃ v, wr.cell? ⟨g, j, none⟩ = some v := ⟨cur[j]'(by have := HC.out.2.1; omega), by rw [slab_cell HC.out.1]; exact Array.getElem?_eq_getElem _⟩
      have hf : wr.frozen? ⟨g, j, none⟩ = false := slab_free HC.out.1
      have HNx : Hid (∃ cur', (wr.setCell ⟨g, j, none⟩ (.int .i64 (k + j))).heap[g]? = some (.cells cur' 3 (0, 0)) ∧ cur'.size = N ∧ ∀ i, i < j + 1 → cur'[i]? = some (.int .i64 (k + i))) := by
        refine ⟨_, slab_set HC.out.1 _, by simpa using HC.out.2.1, fun i hi => ?_⟩
        by_cases e : i = j
        · subst e
          rw [Array.getElem?_setIfInBounds_self_of_lt (by have := HC.out.2.1; omega)]
        · rw [Array.getElem?_setIfInBounds_ne (by omega)]; exact HC.out.2.2 i (by omega)
      go_wp2
      go_roundw
      case rel => exact ⟨j + 1, by omega, by go_num, by go_num, HNx.out, hK.set _ rfl⟩
      case measure => simp [intOf]; omega
    · obtain rfl : j = n := by omega
      go_wp2
      go_ret
      exact ⟨rfl, ⟨cur, HC.out⟩, hK⟩

set_option maxRecDepth 100000 in
set_option maxHeartbeats 1000000 in
theorem heldI_marks (a : Option Addr) (n c : Nat) (k : Int) (w : World) (h : RowI w a (marksL k n)) (k0 : 0 ≤ k) (k1 : k ≤ 1152921504606846976) (hn : n ≤ 1048576) :
    Calls Try.prog 48 #[.slice a n c, .int .i64 k] w fun r w' => r = .returned (.int .i64 (k + n)) ∧ w' = w := by
  have H : Hid (RowI w a (marksL k n)) := h
  clear h
  go_enter Try.func48, Try.ntmps48
  go_wp2
  go_loop [1, 5] (fun m i => ∃ j : Nat, j ≤ n ∧ i = .int .i64 j ∧ m = .int .i64 (k + j)) (fun _ i => n - (intOf i).toNat)
  case atStart => exact ⟨0, by omega, rfl, by simp⟩
  case round =>
    obtain ⟨j, hj, rfl, rfl⟩ := hrel
    by_cases hlt : j < n
    · obtain ⟨b, off, rfl, hlb, hc⟩ := H.out j (by rw [marksL_len]; exact hlt)
      rw [marksL_nth k n j hlt] at hc
      go_wp2
      go_round
      case rel => exact ⟨j + 1, by omega, by go_num, by go_num⟩
      case measure => simp [intOf]; omega
    · obtain rfl : j = n := by omega
      go_wp2
      go_ret
      exact ⟨rfl, rfl⟩

theorem markI_nil (a : Option Addr) (c : Nat) (k : Int) (w : World) : Calls Try.prog 47 #[.slice a 0 c, .int .i64 k] w fun e w' => e = .returned (.int .i64 k) ∧ w' = w := by
  go_enter Try.func47, Try.ntmps47
  go_wp2
  refine wp_loop_rounds 1 ?_
  rw [rounds_succ]
  go_wp2
  go_ret
  exact ⟨rfl, rfl⟩

/-- The slice v owns the numbers l. -/
abbrev OwnI (w : World) (B : Nat) (v : Value) (l : List Int) : Prop := w.ownsRow B 3 1 v l.length (l.map (Value.int .i64))

theorem OwnI.nil (w : World) (B : Nat) : OwnI w B (.slice none 0 0) [] := ⟨rfl, .inl ⟨rfl, rfl⟩⟩

theorem OwnI.made (w : World) (B : Nat) (hB : B ≤ w.heap.size) : OwnI (w.alloc (.cells #[] 3)) B (.slice (some ⟨w.heap.size, 0, none⟩) 0 0) [] :=
  ⟨rfl, .inr ⟨w.heap.size, 0, #[], rfl, hB, heap_new' _ _ _ rfl, Nat.le_refl _, Nat.zero_le _, rfl, rfl⟩⟩

theorem OwnI.block {w w' : World} {B : Nat} {v : Value} {l : List Int} (h : OwnI w B v l) (hb : ∀ g, g < w.heap.size → B ≤ g → w'.heap[g]? = w.heap[g]?) : OwnI w' B v l := by
  refine ⟨h.1, h.2.imp id ?_⟩
  rintro ⟨g, cap, cur, e, hB, hh, r⟩
  exact ⟨g, cap, cur, e, hB, (hb g (slab_lt hh) hB).trans hh, r⟩

theorem OwnI.below {w w' : World} {B : Nat} {v : Value} {l : List Int} (h : OwnI w B v l) (hb : Below w.heap.size w w') : OwnI w' B v l := h.block fun g hg _ => hb.block g hg

theorem OwnI.alloc {w : World} {B : Nat} {v : Value} {l : List Int} (h : OwnI w B v l) (o : Obj) : OwnI (w.alloc o) B v l := h.block fun _ hg _ => heap_old _ _ _ hg

theorem own_below {B : Nat} {w u u' : World} {v : Value} {l : List Int} (h : Below B w u) (hB : B ≤ u.heap.size) (ho : OwnI u B v l) (hg : u.grownBy u' v.ownBlock) : Below B w u' :=
  h.grown hg hB (fun k hk => by
    rcases ho.2 with ⟨rfl, _⟩ | ⟨g, cap, cur, rfl, hBg, _⟩
    · cases hk
    · cases hk; exact hBg)

theorem OwnI.snoc {w : World} {B : Nat} {v : Value} {l : List Int} {x : Int} (h : w.ownsRow B 3 1 v (l.length + 1) (l.map (Value.int .i64) ++ [.int .i64 x])) : OwnI w B v (l ++ [x]) := by
  show w.ownsRow B 3 1 v (l ++ [x]).length ((l ++ [x]).map (Value.int .i64))
  rw [List.length_append, List.map_append]
  exact h

theorem OwnI.row {w : World} {B : Nat} {v : Value} {l : List Int} (h : OwnI w B v l) : ∃ a cap, v = .slice a l.length cap ∧ RowI w a l ∧ (∀ ad, a = some ad → B ≤ ad.block) := by
  rcases h.2 with ⟨rfl, hn⟩ | ⟨g, cap, cur, rfl, hB, hh, hc, hm, hs, ht⟩
  · exact ⟨none, 0, by rw [hn], fun i hi => by omega, fun ad e => by cases e⟩
  · refine ⟨_, cap, rfl, fun i hi => ⟨g, 0, rfl, slab_lt hh, ?_⟩, fun ad e => by cases e; exact hB⟩
    rw [slab_cell hh, Nat.zero_add]
    have := congrArg (fun q => q[i]?) ht
    simp only [Nat.mul_one] at this
    rw [List.getElem?_take_of_lt hi, List.getElem?_map, List.getElem?_eq_getElem hi] at this
    rw [← Array.getElem?_toList, this, nthI_get hi]
    rfl

theorem OwnI.blk {w : World} {B : Nat} {v : Value} {l : List Int} (h : OwnI w B v l) {j : Nat} (hj : v.ownBlock = some j) : B ≤ j ∧ j < w.heap.size := by
  rcases h.2 with ⟨rfl, _⟩ | ⟨g, cap, cur, rfl, hB, hh, _⟩
  · cases hj
  · cases hj; exact ⟨hB, slab_lt hh⟩

theorem OwnI.kept {S : Nat → Prop} {w w' : World} {B : Nat} {v : Value} {l : List Int} (h : OwnI w B v l) (hK : Kept S w w') (hS : ∀ j, v.ownBlock = some j → ¬ S j) : OwnI w' B v l := by
  refine ⟨h.1, ?_⟩
  rcases h.2 with h' | ⟨g, cap, cur, rfl, hB, hh, r⟩
  · exact .inl h'
  · exact .inr ⟨g, cap, cur, rfl, hB, (hK.block g (slab_lt hh) (hS g rfl)).trans hh, r⟩

theorem markI_ownK {w : World} {B : Nat} {v : Value} {l : List Int} (h : OwnI w B v l) (hl : l.length ≤ 1048576) (k : Int) (k0 : 0 ≤ k) (k1 : k ≤ 1152921504606846976) :
    Calls Try.prog 47 #[v, .int .i64 k] w fun r w' => r = .returned (.int .i64 (k + l.length)) ∧ OwnI w' B v (marksL k l.length) ∧ Kept (fun j => v.ownBlock = some j) w w' := by
  rcases h.2 with ⟨rfl, hn⟩ | ⟨g, cap, cur, rfl, hB, hh, hc, hm, hs, ht⟩
  · rw [hn]
    refine (markI_nil none 0 k w).mono ?_
    rintro r w' ⟨rfl, rfl⟩
    exact ⟨by simp, ⟨rfl, .inl ⟨rfl, rfl⟩⟩, Kept.refl _ _⟩
  · refine (markI_slab g l.length cap (cap * 1) cur k w hh hs (by omega) k0 k1 hl).mono ?_
    rintro r w' ⟨rfl, ⟨cur', hh', hs', hv⟩, hK⟩
    refine ⟨rfl, ⟨by simp [marksL], .inr ⟨g, cap, cur', by rw [marksL_len], hB, hh', by rw [marksL_len]; exact hc, hm, hs', ?_⟩⟩, hK.mono fun j hj => by rw [hj]; rfl⟩
    rw [marksL_len]
    apply List.ext_getElem?
    intro i
    by_cases hi : i < l.length
    · rw [List.getElem?_take_of_lt (by omega), Array.getElem?_toList, hv i hi, List.getElem?_map, List.getElem?_eq_getElem (by rw [marksL_len]; exact hi)]
      simp [marksL]
    · rw [List.getElem?_eq_none (by rw [List.length_take]; omega), List.getElem?_eq_none (by rw [List.length_map, marksL_len]; omega)]

theorem heldI_ownK {w : World} {B : Nat} {v : Value} {n : Nat} {k : Int} (h : OwnI w B v (marksL k n)) (k0 : 0 ≤ k) (k1 : k ≤ 1152921504606846976) (hn : n ≤ 1048576) : Calls Try.prog 48 #[v, .int .i64 k] w fun r w' => r = .returned (.int .i64 (k + n)) ∧ w' = w := by
  obtain ⟨a, c, rfl, r, _⟩ := h.row
  rw [marksL_len]
  exact heldI_marks a n c k w r k0 k1 hn

theorem own_mono {w : World} {B B' e m n : Nat} {v : Value} {xs : List Value} (h : w.ownsRow B' e m v n xs) (hB : B ≤ B') : w.ownsRow B e m v n xs := by
  refine ⟨h.1, ?_⟩
  rcases h.2 with h | ⟨g, cap, cur, e1, e2, r⟩
  · exact .inl h
  · exact .inr ⟨g, cap, cur, e1, Nat.le_trans hB e2, r⟩

theorem eqI_ownK {w : World} {B B' : Nat} {v v' : Value} {l : List Int} (h : OwnI w B v l) (h' : OwnI w B' v' l) (hl : l.length ≤ 1048576) : Calls Try.prog 46 #[v, v'] w fun r w' => r = .returned (.bool true) ∧ Below w.heap.size w w' := by
  obtain ⟨a, c, rfl, r, _⟩ := h.row
  obtain ⟨a', c', rfl, r', _⟩ := h'.row
  exact eqI_same a a' c c' l w r r' hl

/-- Digits of q ahead of t. -/
def digs (q : Nat) (t : ByteArray) : ByteArray := if _h : q = 0 then t else digs (q / 10) (⟨#[UInt8.ofNat (48 + q % 10)]⟩ ++ t)
termination_by q
decreasing_by omega

/-- The text of mark k. -/
def mtx (k : Int) : ByteArray := if k ≤ 0 then ⟨#[109, 48]⟩ else ⟨#[109]⟩ ++ digs k.toNat ⟨#[]⟩

set_option maxRecDepth 100000 in
theorem markText_any (k : Int) (w : World) (h0 : 0 ≤ k) (h1 : k ≤ 1152921504606846976) :
    Calls Try.prog 85 #[.int .i64 k] w fun e w' => e = .returned (.string (mtx k)) ∧ (mtx k).size ≤ maxLen ∧ Below w.heap.size w w' := by
  by_cases hk : k ≤ 0
  · have HM : Hid (mtx k = ⟨#[109, 48]⟩) := if_pos hk
    go_enter Try.func85, Try.ntmps85
    go_wp2
    go_ret
    rw [HM.out]
    exact ⟨rfl, by decide, Below.refl _ _⟩
  · have HM : Hid (mtx k = ⟨#[109]⟩ ++ digs k.toNat ⟨#[]⟩) := if_neg hk
    go_enter Try.func85, Try.ntmps85
    go_wp2
    go_loopw [0, 3] (fun kk o wr => ∃ (q : Int) (t : ByteArray), kk = .int .i64 q ∧ o = .string t ∧ 0 ≤ q ∧ q ≤ 1152921504606846976 ∧ t.size + q.toNat ≤ 1152921504606846976 ∧ Hid (digs q.toNat t = digs k.toNat ⟨#[]⟩) ∧ Below w.heap.size w wr) (fun kk _ _ => (intOf kk).toNat)
    case atStart => exact ⟨k, ⟨#[]⟩, rfl, rfl, h0, h1, by show 0 + _ ≤ _; omega, rfl, Below.refl _ _⟩
    case round =>
      obtain ⟨q, t, rfl, rfl, q0, q1, hs, HD, hbl⟩ := hrel
      by_cases hq : 0 < q
      · obtain ⟨b, hb, hb'⟩ : ∃ b : UInt8, (b.toNat : Int) = 48 + q % 10 ∧ b = UInt8.ofNat (48 + q.toNat % 10) := ⟨UInt8.ofNat (48 + q.toNat % 10), by simp; omega, rfl⟩
        have hcv := run_convert_bytes_back (P := Try.prog) (wr.alloc (.cells #[.int .u8 (48 + q % 10)] 5)) 22 9 5 ⟨wr.heap.size, 0, none⟩ 1 [b] Try.underlying22 Try.underlying5 Try.underlying9 (fun j hj => by
          have : j = 0 := by simpa using hj
          subst this
          rw [add_plain, ← hb]
          exact World.cell?_alloc_at _ _ _ _ rfl)
        have hcv' : Sem.run Try.prog (convert 22 9 (.slice (some ⟨wr.heap.size, 0, none⟩) 1 1)) (wr.alloc (.cells #[.int .u8 (48 + q % 10)] 5)) = .ok (.string ⟨#[b]⟩) (wr.alloc (.cells #[.int .u8 (48 + q % 10)] 5)) := hcv
        have hsz : (⟨#[b]⟩ : ByteArray).size = 1 := rfl
        have hadd := fun wx => run_string_add_sum (P := Try.prog) (w := wx) ⟨#[b]⟩ t (by rw [hsz]; omega)
        have hB := hbl.alloc hbl.size (.cells #[.int .u8 (48 + q % 10)] 5)
        have HS : Hid ((⟨#[b]⟩ ++ t : ByteArray).size + (q / 10).toNat ≤ 1152921504606846976) := by show _ ≤ _; rw [ByteArray.size_append, hsz]; omega
        have HD2 : Hid (digs (q / 10).toNat (⟨#[b]⟩ ++ t) = digs k.toNat ⟨#[]⟩) := by
          show _ = _
          rw [← HD.out, hb']
          conv => rhs; unfold digs
          rw [dif_neg (by omega)]
          congr 1
          omega
        clear hcv hb hb' hbl hs hsz HD
        go_wp2
        go_roundw
        case rel => exact ⟨q / 10, _, by go_num, rfl, by omega, by omega, HS.out, HD2, hB⟩
        case measure => simp [intOf]; omega
      · have HS : Hid ((⟨#[109]⟩ ++ t : ByteArray).size ≤ maxLen) := by show _ ≤ _; rw [ByteArray.size_append]; unfold maxLen; show 1 + _ ≤ _; omega
        have HE : Hid (mtx k = ⟨#[109]⟩ ++ t) := by
          show _ = _
          rw [HM.out, ← HD.out]
          unfold digs
          rw [dif_pos (by omega)]
        clear HD HM
        go_wp2
        go_ret
        rw [HE.out]
        exact ⟨rfl, HS.out, hbl⟩

theorem markS_nil (a : Option Addr) (c : Nat) (k : Int) (w : World) : Calls Try.prog 113 #[.slice a 0 c, .int .i64 k] w fun e w' => e = .returned (.int .i64 k) ∧ w' = w := by
  go_enter Try.func113, Try.ntmps113
  go_wp2
  go_loop [1, 5] (fun m i => m = .int .i64 k ∧ i = .int .i64 0) (fun _ _ => 0)
  case atStart => exact ⟨rfl, rfl⟩
  case round =>
    obtain ⟨rfl, rfl⟩ := hrel
    go_wp2
    go_ret
    exact ⟨rfl, rfl⟩

def MkS (cur : Array Value) (k : Int) (j : Nat) : Prop := ∀ i, i < j → cur[i]? = some (.string (mtx (k + i)))

theorem MkS.step {cur : Array Value} {k : Int} {j M : Nat} (h : MkS cur k j) (hs : cur.size = M) (hj : j < M) : MkS (cur.setIfInBounds (j) (.string (mtx (k + j)))) k (j + 1) := fun i hi => by
  by_cases e : i = j
  · subst e
    rw [Array.getElem?_setIfInBounds_self_of_lt (by omega)]
  · have := h i (by omega)
    rw [Array.getElem?_setIfInBounds_ne (by omega)]; exact this

set_option maxRecDepth 100000 in
set_option maxHeartbeats 4000000 in
theorem markS_vals (g m c M : Nat) (cur0 : Array Value) (k : Int) (w : World) (hh : w.heap[g]? = some (.cells cur0 9 (0, 0))) (hN : cur0.size = M) (hn : m ≤ M) (k0 : 0 ≤ k) (k1 : k ≤ 576460752303423488) (hn2 : m ≤ 1048576) :
    Calls Try.prog 113 #[.slice (some ⟨g, 0, none⟩) m c, .int .i64 k] w fun r w' => r = .returned (.int .i64 (k + m)) ∧ (∃ cur, w'.heap[g]? = some (.cells cur 9 (0, 0)) ∧ cur.size = M ∧ MkS cur k m) ∧ Kept (fun j => j = g) w w' := by
  have HH : Hid (w.heap[g]? = some (.cells cur0 9 (0, 0))) := hh
  have HN : Hid (cur0.size = M) := hN
  clear hh hN
  go_enter Try.func113, Try.ntmps113
  go_wp2
  go_loopw [1, 5] (fun q i wr => ∃ j : Nat, j ≤ m ∧ i = .int .i64 j ∧ q = .int .i64 (k + j) ∧ Hid (∃ cur, wr.heap[g]? = some (.cells cur 9 (0, 0)) ∧ cur.size = M ∧ MkS cur k j) ∧ Kept (fun j => j = g) w wr) (fun _ i _ => m - (intOf i).toNat)
  case atStart => exact ⟨0, by omega, rfl, by simp, ⟨cur0, HH.out, HN.out, fun i hi => by omega⟩, Kept.refl _ _⟩
  case round =>
    obtain ⟨j, hj, rfl, rfl, HC0, hK⟩ := hrel
    obtain ⟨cur, hc⟩ := HC0.out
    have HC : Hid (wr.heap[g]? = some (.cells cur 9 (0, 0)) ∧ cur.size = M ∧ MkS cur k j) := hc
    clear hc HC0
    by_cases hlt : j < m
    · have hltI : (j : Int) < (m : Int) := by omega
      have hf : ∀ o, wr.frozen? ⟨g, o, none⟩ = false := fun o => slab_free HC.out.1
      clear hf
      go_wp2_with fail
      refine (markText_any (k + j) wr (by omega) (by omega)).mono ?_
      rintro e w3 ⟨rfl, _, b3⟩
      have hsz := HC.out.2.1
      have C3 : Hid (w3.heap[g]? = some (.cells cur 9 (0, 0))) := (b3.block g (slab_lt HC.out.1)).trans HC.out.1
      have K3 : Hid (Kept (fun j => j = g) w w3) := hK.trans (Kept.of_below b3)
      obtain ⟨v2, hv2⟩ := blk_there (o := j) C3.out (by omega)
      have hf3 : ∀ o, w3.frozen? ⟨g, o, none⟩ = false := fun o => slab_free C3.out
      have HNx : Hid (∃ cur', (w3.setCell ⟨g, j, none⟩ (.string (mtx (k + j)))).heap[g]? = some (.cells cur' 9 (0, 0)) ∧ cur'.size = M ∧ MkS cur' k (j + 1)) :=
        ⟨_, slab_set C3.out _, by simpa using hsz, HC.out.2.2.step hsz (by omega)⟩
      clear b3 hsz C3 hK
      go_wp2
      go_roundw
      case rel => exact ⟨j + 1, by omega, by go_num, by go_num, HNx, K3.out.set _ rfl⟩
      case measure => simp [intOf]; omega
    · obtain rfl : j = m := by omega
      go_wp2
      go_ret
      exact ⟨rfl, ⟨cur, HC.out⟩, hK⟩

end Go.Proofs.Ythflalpapdaidaa
