/- Marks as texts; lists of acts of the call's own; marks on them (stage 8). -/
import Derived.Test.YtlcgmifibekegaaHoA
import Derived.Test.YtlcgmifibekegaaInA
namespace Go.Proofs.Ytlcgmifibekegaa
open Go.RowKit

theorem own_keep {w w' : World} {B e m n : Nat} {v : Value} {xs : List Value} (h : w.ownsRow B e m v n xs) (hb : ∀ g, B ≤ g → g < w.heap.size → w'.heap[g]? = w.heap[g]?) : w'.ownsRow B e m v n xs := by
  refine ⟨h.1, ?_⟩
  rcases h.2 with h | ⟨g, cap, cur, e1, e2, hh, r⟩
  · exact .inl h
  · exact .inr ⟨g, cap, cur, e1, e2, (hb g e2 (slab_lt hh)).trans hh, r⟩
theorem own_at {w w' : World} {B e m n : Nat} {v : Value} {xs : List Value} (h : w.ownsRow B e m v n xs) (hb : ∀ j, v.ownBlock = some j → w'.heap[j]? = w.heap[j]?) : w'.ownsRow B e m v n xs := by
  refine ⟨h.1, ?_⟩
  rcases h.2 with h | ⟨g, cap, cur, rfl, e2, hh, r⟩
  · exact .inl h
  · exact .inr ⟨g, cap, cur, rfl, e2, (hb g rfl).trans hh, r⟩
theorem own_lt {w : World} {B e m n : Nat} {v : Value} {xs : List Value} (h : w.ownsRow B e m v n xs) {j : Nat} (hj : v.ownBlock = some j) : B ≤ j ∧ j < w.heap.size := by
  rcases h.2 with ⟨rfl, _⟩ | ⟨g, cap, cur, rfl, hB, hh, _⟩
  · cases hj
  · cases hj; exact ⟨hB, slab_lt hh⟩
theorem own_shp {w : World} {B e m n : Nat} {v : Value} {xs : List Value} (h : w.ownsRow B e m v n xs) : ∃ a c, v = .slice a n c := by
  rcases h.2 with ⟨rfl, rfl⟩ | ⟨g, cap, cur, rfl, _⟩
  · exact ⟨_, _, rfl⟩
  · exact ⟨_, _, rfl⟩

/-- Digits of q ahead of t. -/
def digs (q : Nat) (t : ByteArray) : ByteArray := if _h : q = 0 then t else digs (q / 10) (⟨#[UInt8.ofNat (48 + q % 10)]⟩ ++ t)
termination_by q
decreasing_by omega
/-- The text of mark k. -/
def mtx (k : Int) : ByteArray := if k ≤ 0 then ⟨#[109, 48]⟩ else ⟨#[109]⟩ ++ digs k.toNat ⟨#[]⟩
set_option maxRecDepth 100000 in
theorem markText_any (k : Int) (w : World) (h0 : 0 ≤ k) (h1 : k ≤ 1000000000) :
    Calls Try.prog 91 #[.int .i64 k] w fun e w' => e = .returned (.string (mtx k)) ∧ (mtx k).size ≤ maxLen ∧ Below w.heap.size w w' := by
  by_cases hk : k ≤ 0
  · have HM : Hid (mtx k = ⟨#[109, 48]⟩) := if_pos hk
    go_enter Try.func91, Try.ntmps91
    go_wp2
    go_ret
    rw [HM.out]
    exact ⟨rfl, by decide, Below.refl _ _⟩
  · have HM : Hid (mtx k = ⟨#[109]⟩ ++ digs k.toNat ⟨#[]⟩) := if_neg hk
    go_enter Try.func91, Try.ntmps91
    go_wp2
    go_loopw [0, 3] (fun kk o wr => ∃ (q : Int) (t : ByteArray), kk = .int .i64 q ∧ o = .string t ∧ 0 ≤ q ∧ q ≤ 1000000000 ∧ t.size + q.toNat ≤ 1000000000 ∧ Hid (digs q.toNat t = digs k.toNat ⟨#[]⟩) ∧ Below w.heap.size w wr) (fun kk _ _ => (intOf kk).toNat)
    case atStart => exact ⟨k, ⟨#[]⟩, rfl, rfl, h0, h1, by show 0 + _ ≤ _; omega, rfl, Below.refl _ _⟩
    case round =>
      obtain ⟨q, t, rfl, rfl, q0, q1, hs, HD, hbl⟩ := hrel
      by_cases hq : 0 < q
      · obtain ⟨b, hb, hb'⟩ : ∃ b : UInt8, (b.toNat : Int) = 48 + q % 10 ∧ b = UInt8.ofNat (48 + q.toNat % 10) := ⟨UInt8.ofNat (48 + q.toNat % 10), by simp; omega, rfl⟩
        have hcv := run_convert_bytes_back (P := Try.prog) (wr.alloc (.cells #[.int .u8 (48 + q % 10)] 5)) 22 9 5 ⟨wr.heap.size, 0, none⟩ 1 [b] Try.underlying22 Try.underlying5 Try.underlying9 (fun j hj => by
          have : j = 0 := by simpa using hj
          subst this
          rw [add_plain, ← hb]
          exact World.cell?_alloc_at _ _ _ _ rfl)
        have hcv' : Sem.run Try.prog (convert 22 9 (.slice (some ⟨wr.heap.size, 0, none⟩) 1 1)) (wr.alloc (.cells #[.int .u8 (48 + q % 10)] 5)) = .ok (.string ⟨#[b]⟩) (wr.alloc (.cells #[.int .u8 (48 + q % 10)] 5)) := hcv
        have hsz : (⟨#[b]⟩ : ByteArray).size = 1 := rfl
        have hadd := fun wx => run_string_add_sum (P := Try.prog) (w := wx) ⟨#[b]⟩ t (by rw [hsz]; omega)
        have hB := hbl.alloc hbl.size (.cells #[.int .u8 (48 + q % 10)] 5)
        have HS : Hid ((⟨#[b]⟩ ++ t : ByteArray).size + (q / 10).toNat ≤ 1000000000) := by show _ ≤ _; rw [ByteArray.size_append, hsz]; omega
        have HD2 : Hid (digs (q / 10).toNat (⟨#[b]⟩ ++ t) = digs k.toNat ⟨#[]⟩) := by
          show _ = _
          rw [← HD.out, hb']
          conv => rhs; unfold digs
          rw [dif_neg (by omega)]
          congr 1
          omega
        clear hcv hb hb' hbl hs hsz HD
        go_wp2
        go_roundw
        case rel => exact ⟨q / 10, _, by go_num, rfl, by omega, by omega, HS.out, HD2, hB⟩
        case measure => simp [intOf]; omega
      · have HS : Hid ((⟨#[109]⟩ ++ t : ByteArray).size ≤ maxLen) := by show _ ≤ _; rw [ByteArray.size_append]; unfold maxLen; show 1 + _ ≤ _; omega
        have HE : Hid (mtx k = ⟨#[109]⟩ ++ t) := by
          show _ = _
          rw [HM.out, ← HD.out]
          unfold digs
          rw [dif_pos (by omega)]
        clear HD HM
        go_wp2
        go_ret
        rw [HE.out]
        exact ⟨rfl, HS.out, hbl⟩

/-- The cells of acts. -/
def cellsH (l : List TH) : List Value := l.flatMap fun p => [.int .i64 p.1, .int .i64 p.2.1, .string p.2.2.1, .string p.2.2.2]
/-- The slice v owns the acts l. -/
abbrev OwnH (w : World) (B : Nat) (v : Value) (l : List TH) : Prop := w.ownsRow B 107 4 v l.length (cellsH l)
theorem cellsH_cons (p : TH) (l : List TH) : cellsH (p :: l) = .int .i64 p.1 :: .int .i64 p.2.1 :: .string p.2.2.1 :: .string p.2.2.2 :: cellsH l := rfl
theorem cellsH_len (l : List TH) : (cellsH l).length = l.length * 4 := by
  induction l with
  | nil => rfl
  | cons p l ih => rw [cellsH_cons]; simp only [List.length_cons, ih]; omega
theorem nthH_get {l : List TH} {k : Nat} (hk : k < l.length) : nthH l k = l[k] := by
  unfold nthH; rw [List.getD_eq_getElem?_getD, List.getElem?_eq_getElem hk]; rfl
theorem cellsH_get : ∀ (l : List TH) (i : Nat), i < l.length → (cellsH l)[i * 4]? = some (.int .i64 (nthH l i).1) ∧ (cellsH l)[i * 4 + 1]? = some (.int .i64 (nthH l i).2.1) ∧ (cellsH l)[i * 4 + 2]? = some (.string (nthH l i).2.2.1) ∧ (cellsH l)[i * 4 + 3]? = some (.string (nthH l i).2.2.2)
  | [], i, h => by simp at h
  | p :: l, 0, _ => ⟨rfl, rfl, rfl, rfl⟩
  | p :: l, i + 1, h => by
    have ih := cellsH_get l i (by simpa using h)
    have en : nthH (p :: l) (i + 1) = nthH l i := by simp [nthH]
    have e0 : (i + 1) * 4 = i * 4 + 4 := by omega
    rw [cellsH_cons, en, e0]
    exact ih
theorem cellsH_snoc (l : List TH) (p : TH) : cellsH (l ++ [p]) = cellsH l ++ [.int .i64 p.1, .int .i64 p.2.1, .string p.2.2.1, .string p.2.2.2] := by simp [cellsH]
theorem OwnH.nil (w : World) (B : Nat) : OwnH w B (.slice none 0 0) [] := ⟨rfl, .inl ⟨rfl, rfl⟩⟩
theorem OwnH.made (w : World) (B : Nat) (hB : B ≤ w.heap.size) : OwnH (w.alloc (.cells #[] 107)) B (.slice (some ⟨w.heap.size, 0, none⟩) 0 0) [] :=
  ⟨rfl, .inr ⟨w.heap.size, 0, #[], rfl, hB, heap_new' _ _ _ rfl, Nat.le_refl _, Nat.zero_le _, rfl, rfl⟩⟩
theorem OwnH.below {w w' : World} {B : Nat} {v : Value} {l : List TH} (h : OwnH w B v l) (hb : Below w.heap.size w w') : OwnH w' B v l := own_keep h fun g _ hg => hb.block g hg
theorem OwnH.alloc {w : World} {B : Nat} {v : Value} {l : List TH} (h : OwnH w B v l) (o : Obj) : OwnH (w.alloc o) B v l := own_keep h fun _ _ hl => heap_old _ _ _ hl
theorem OwnH.kept {S : Nat → Prop} {w w' : World} {B : Nat} {v : Value} {l : List TH} (h : OwnH w B v l) (hK : Kept S w w') (hS : ∀ j, v.ownBlock = some j → ¬ S j) : OwnH w' B v l :=
  own_at h fun j hj => hK.block j (own_lt h hj).2 (hS j hj)
theorem own_belowX {B e m n : Nat} {xs : List Value} {w u u' : World} {v : Value} (h : Below B w u) (hB : B ≤ u.heap.size) (ho : u.ownsRow B e m v n xs) (hg : u.grownBy u' v.ownBlock) : Below B w u' :=
  h.grown hg hB (fun k hk => by
    rcases ho.2 with ⟨rfl, _⟩ | ⟨g, cap, cur, rfl, hBg, _⟩
    · cases hk
    · cases hk; exact hBg)
theorem OwnH.snoc {w : World} {B : Nat} {v : Value} {l : List TH} {p : TH} (h : w.ownsRow B 107 4 v (l.length + 1) (cellsH l ++ [.int .i64 p.1, .int .i64 p.2.1, .string p.2.2.1, .string p.2.2.2])) : OwnH w B v (l ++ [p]) := by
  show w.ownsRow B 107 4 v (l ++ [p]).length (cellsH (l ++ [p]))
  rw [List.length_append, cellsH_snoc]
  exact h
theorem OwnH.row {w : World} {B : Nat} {v : Value} {l : List TH} (h : OwnH w B v l) (hz : ∀ i, i < l.length → (nthH l i).2.2.1.size ≤ maxLen ∧ (nthH l i).2.2.2.size ≤ maxLen) : ∃ a cap, v = .slice a l.length cap ∧ RowH w a l := by
  rcases h.2 with ⟨rfl, hn⟩ | ⟨g, cap, cur, rfl, hB, hh, hc, hm, hs, ht⟩
  · exact ⟨none, 0, by rw [hn], fun i hi => by omega⟩
  · refine ⟨_, cap, rfl, fun i hi => ⟨g, 0, rfl, slab_lt hh, ?_, hz i hi⟩⟩
    obtain ⟨g0, g1, g2, g3⟩ := cellsH_get l i hi
    have key : ∀ j u, j < l.length * 4 → (cellsH l)[j]? = some u → w.cell? ⟨g, 0 + j, none⟩ = some u := fun j u hj hu => by
      rw [slab_cell hh, Nat.zero_add]
      have := congrArg (fun q => q[j]?) ht
      rw [List.getElem?_take_of_lt hj, hu] at this
      rw [← Array.getElem?_toList, this]
    refine ⟨key _ _ (by omega) g0, ?_, ?_, ?_⟩
    · rw [Nat.add_assoc]; exact key _ _ (by omega) g1
    · rw [Nat.add_assoc]; exact key _ _ (by omega) g2
    · rw [Nat.add_assoc]; exact key _ _ (by omega) g3
/-- Acts that hold the marks from k on. -/
def marksH (k : Int) (n : Nat) : List TH := (List.range n).map (fun i : Nat => (k + 4 * (i : Int), k + 4 * (i : Int) + 1, mtx (k + 4 * (i : Int) + 1 + 1), mtx (k + 4 * (i : Int) + 1 + 1 + 1)))
theorem marksH_len (k : Int) (n : Nat) : (marksH k n).length = n := by simp [marksH]
theorem marksH_nth (k : Int) (n i : Nat) (h : i < n) : nthH (marksH k n) i = (k + 4 * i, k + 4 * i + 1, mtx (k + 4 * i + 1 + 1), mtx (k + 4 * i + 1 + 1 + 1)) := by
  rw [nthH_get (by rw [marksH_len]; exact h)]
  simp [marksH]
/-- In a block's cells the first j acts hold the marks from k on. -/
def MkH (cur : Array Value) (k : Int) (j : Nat) : Prop := ∀ i, i < j → cur[i * 4]? = some (.int .i64 (k + 4 * i)) ∧ cur[i * 4 + 1]? = some (.int .i64 (k + 4 * i + 1)) ∧ cur[i * 4 + 2]? = some (.string (mtx (k + 4 * i + 1 + 1))) ∧ cur[i * 4 + 3]? = some (.string (mtx (k + 4 * i + 1 + 1 + 1)))
theorem MkH.step {cur : Array Value} {k : Int} {j N : Nat} (h : MkH cur k j) (hs : cur.size = N) (hj : j * 4 + 3 < N) : MkH ((((cur.setIfInBounds (j * 4) (.int .i64 (k + 4 * j))).setIfInBounds (j * 4 + 1) (.int .i64 (k + 4 * j + 1))).setIfInBounds (j * 4 + 2) (.string (mtx (k + 4 * j + 1 + 1)))).setIfInBounds (j * 4 + 3) (.string (mtx (k + 4 * j + 1 + 1 + 1)))) k (j + 1) := fun i hi => by
  by_cases e : i = j
  · subst e
    refine ⟨?_, ?_, ?_, ?_⟩
    · rw [Array.getElem?_setIfInBounds_ne (by omega), Array.getElem?_setIfInBounds_ne (by omega), Array.getElem?_setIfInBounds_ne (by omega), Array.getElem?_setIfInBounds_self_of_lt (by omega)]
    · rw [Array.getElem?_setIfInBounds_ne (by omega), Array.getElem?_setIfInBounds_ne (by omega), Array.getElem?_setIfInBounds_self_of_lt (by simp; omega)]
    · rw [Array.getElem?_setIfInBounds_ne (by omega), Array.getElem?_setIfInBounds_self_of_lt (by simp; omega)]
    · rw [Array.getElem?_setIfInBounds_self_of_lt (by simp; omega)]
  · have := h i (by omega)
    refine ⟨?_, ?_, ?_, ?_⟩
    · rw [Array.getElem?_setIfInBounds_ne (by omega), Array.getElem?_setIfInBounds_ne (by omega), Array.getElem?_setIfInBounds_ne (by omega), Array.getElem?_setIfInBounds_ne (by omega)]; exact this.1
    · rw [Array.getElem?_setIfInBounds_ne (by omega), Array.getElem?_setIfInBounds_ne (by omega), Array.getElem?_setIfInBounds_ne (by omega), Array.getElem?_setIfInBounds_ne (by omega)]; exact this.2.1
    · rw [Array.getElem?_setIfInBounds_ne (by omega), Array.getElem?_setIfInBounds_ne (by omega), Array.getElem?_setIfInBounds_ne (by omega), Array.getElem?_setIfInBounds_ne (by omega)]; exact this.2.2.1
    · rw [Array.getElem?_setIfInBounds_ne (by omega), Array.getElem?_setIfInBounds_ne (by omega), Array.getElem?_setIfInBounds_ne (by omega), Array.getElem?_setIfInBounds_ne (by omega)]; exact this.2.2.2
theorem blk_there {w : World} {g o : Nat} {cur : Array Value} {e : TypeId} (h : w.heap[g]? = some (.cells cur e (0, 0))) (ho : o < cur.size) : ∃ v, w.cell? ⟨g, o, none⟩ = some v := ⟨cur[o], by rw [slab_cell h]; exact Array.getElem?_eq_getElem _⟩

set_option maxRecDepth 100000 in
set_option maxHeartbeats 4000000 in
theorem markH_vals (g n c N : Nat) (cur0 : Array Value) (k : Int) (w : World) (hh : w.heap[g]? = some (.cells cur0 107 (0, 0))) (hN : cur0.size = N) (hn : n * 4 ≤ N) (k0 : 0 ≤ k) (k1 : k ≤ 10000000) (hn2 : n ≤ 1048576) :
    Calls Try.prog 40 #[.slice (some ⟨g, 0, none⟩) n c, .int .i64 k] w fun r w' => r = .returned (.int .i64 (k + 4 * n)) ∧ (∃ cur, w'.heap[g]? = some (.cells cur 107 (0, 0)) ∧ cur.size = N ∧ MkH cur k n) ∧ Kept (fun j => j = g) w w' := by
  have HH : Hid (w.heap[g]? = some (.cells cur0 107 (0, 0))) := hh
  have HN : Hid (cur0.size = N) := hN
  clear hh hN
  go_enter Try.func40, Try.ntmps40
  go_wp2
  go_loopw [1, 5] (fun m i wr => ∃ j : Nat, j ≤ n ∧ i = .int .i64 j ∧ m = .int .i64 (k + 4 * j) ∧ Hid (∃ cur, wr.heap[g]? = some (.cells cur 107 (0, 0)) ∧ cur.size = N ∧ MkH cur k j) ∧ Kept (fun j => j = g) w wr) (fun _ i _ => n - (intOf i).toNat)
  case atStart => exact ⟨0, by omega, rfl, by simp, ⟨cur0, HH.out, HN.out, fun i hi => by omega⟩, Kept.refl _ _⟩
  case round =>
    obtain ⟨j, hj, rfl, rfl, HC0, hK⟩ := hrel
    obtain ⟨cur, hc⟩ := HC0.out
    have HC : Hid (wr.heap[g]? = some (.cells cur 107 (0, 0)) ∧ cur.size = N ∧ MkH cur k j) := hc
    clear hc HC0
    by_cases hlt : j < n
    · have hltI : (j : Int) < (n : Int) := by omega
      have hsz := HC.out.2.1
      obtain ⟨v0, hv0⟩ := blk_there (o := j * 4) HC.out.1 (by omega)
      obtain ⟨v1, hv1⟩ := blk_there (o := j * 4 + 1) HC.out.1 (by omega)
      have hf : ∀ o, wr.frozen? ⟨g, o, none⟩ = false := fun o => slab_free HC.out.1
      obtain ⟨w2, hw2⟩ : ∃ w2, (wr.setCell ⟨g, j * 4, none⟩ (.int .i64 (k + 4 * j))).setCell ⟨g, j * 4 + 1, none⟩ (.int .i64 (k + 4 * j + 1)) = w2 := ⟨_, rfl⟩
      have C2 : Hid (w2.heap[g]? = some (.cells ((cur.setIfInBounds (j * 4) (.int .i64 (k + 4 * j))).setIfInBounds (j * 4 + 1) (.int .i64 (k + 4 * j + 1))) 107 (0, 0))) := hw2 ▸ slab_set (slab_set HC.out.1 _) _
      have K2 : Hid (Kept (fun j => j = g) w w2) := hw2 ▸ (hK.set _ rfl).set _ rfl
      clear hsz hK
      go_wp2_with fail
      refine (markText_any (k + 4 * j + 1 + 1) w2 (by omega) (by omega)).mono ?_
      rintro e w3 ⟨rfl, _, b3⟩
      have hsz := HC.out.2.1
      have C3 : Hid (w3.heap[g]? = some (.cells ((cur.setIfInBounds (j * 4) (.int .i64 (k + 4 * j))).setIfInBounds (j * 4 + 1) (.int .i64 (k + 4 * j + 1))) 107 (0, 0))) := (b3.block g (slab_lt C2.out)).trans C2.out
      have K3 : Hid (Kept (fun j => j = g) w w3) := K2.out.trans (Kept.of_below b3)
      obtain ⟨v2, hv2⟩ := blk_there (o := j * 4 + 2) C3.out (by simp; omega)
      have hf3 : ∀ o, w3.frozen? ⟨g, o, none⟩ = false := fun o => slab_free C3.out
      obtain ⟨w4, hw4⟩ : ∃ w4, w3.setCell ⟨g, j * 4 + 2, none⟩ (.string (mtx (k + 4 * j + 1 + 1))) = w4 := ⟨_, rfl⟩
      have C4 : Hid (w4.heap[g]? = some (.cells (((cur.setIfInBounds (j * 4) (.int .i64 (k + 4 * j))).setIfInBounds (j * 4 + 1) (.int .i64 (k + 4 * j + 1))).setIfInBounds (j * 4 + 2) (.string (mtx (k + 4 * j + 1 + 1)))) 107 (0, 0))) := hw4 ▸ slab_set C3.out _
      have K4 : Hid (Kept (fun j => j = g) w w4) := hw4 ▸ K3.out.set _ rfl
      clear hv0 hv1 hf hw2 C2 K2 b3 hsz
      go_wp2_with fail
      refine (markText_any (k + 4 * j + 1 + 1 + 1) w4 (by omega) (by omega)).mono ?_
      rintro e w5 ⟨rfl, _, b5⟩
      have hsz := HC.out.2.1
      have C5 : Hid (w5.heap[g]? = some (.cells (((cur.setIfInBounds (j * 4) (.int .i64 (k + 4 * j))).setIfInBounds (j * 4 + 1) (.int .i64 (k + 4 * j + 1))).setIfInBounds (j * 4 + 2) (.string (mtx (k + 4 * j + 1 + 1)))) 107 (0, 0))) := (b5.block g (slab_lt C4.out)).trans C4.out
      have K5 : Hid (Kept (fun j => j = g) w w5) := K4.out.trans (Kept.of_below b5)
      obtain ⟨v3, hv3⟩ := blk_there (o := j * 4 + 3) C5.out (by simp; omega)
      have hf5 : ∀ o, w5.frozen? ⟨g, o, none⟩ = false := fun o => slab_free C5.out
      have HNx : Hid (∃ cur', (w5.setCell ⟨g, j * 4 + 3, none⟩ (.string (mtx (k + 4 * j + 1 + 1 + 1)))).heap[g]? = some (.cells cur' 107 (0, 0)) ∧ cur'.size = N ∧ MkH cur' k (j + 1)) :=
        ⟨_, slab_set C5.out _, by simpa using hsz, HC.out.2.2.step hsz (by omega)⟩
      clear hv2 hf3 hw4 C4 K4 b5 hsz C3 K3
      go_wp2
      go_roundw
      case rel => exact ⟨j + 1, by omega, by go_num, by go_num, HNx, K5.out.set _ rfl⟩
      case measure => simp [intOf]; omega
    · obtain rfl : j = n := by omega
      go_wp2
      go_ret
      exact ⟨rfl, ⟨cur, HC.out⟩, hK⟩

theorem markH_nil (a : Option Addr) (c : Nat) (k : Int) (w : World) : Calls Try.prog 40 #[.slice a 0 c, .int .i64 k] w fun e w' => e = .returned (.int .i64 k) ∧ w' = w := by
  go_enter Try.func40, Try.ntmps40
  go_wp2
  go_loop [1, 5] (fun m i => m = .int .i64 k ∧ i = .int .i64 0) (fun _ _ => 0)
  case atStart => exact ⟨rfl, rfl⟩
  case round =>
    obtain ⟨rfl, rfl⟩ := hrel
    go_wp2
    go_ret
    exact ⟨rfl, rfl⟩
theorem MkH.cells {cur : Array Value} {k : Int} {n : Nat} (h : MkH cur k n) : cur.toList.take (n * 4) = cellsH (marksH k n) := by
  apply List.ext_getElem?
  intro i
  by_cases hi : i < n * 4
  · rw [List.getElem?_take_of_lt hi, Array.getElem?_toList]
    have h2 := h (i / 4) (by omega)
    obtain ⟨c0, c1, c2, c3⟩ := cellsH_get (marksH k n) (i / 4) (by rw [marksH_len]; omega)
    rw [marksH_nth k n (i / 4) (by omega)] at c0 c1 c2 c3
    rcases (show i = i / 4 * 4 ∨ i = i / 4 * 4 + 1 ∨ i = i / 4 * 4 + 2 ∨ i = i / 4 * 4 + 3 by omega) with e | e | e | e
    · rw [← e] at c0 h2; rw [c0, h2.1]
    · rw [← e] at c1 h2; rw [c1, h2.2.1]
    · rw [← e] at c2 h2; rw [c2, h2.2.2.1]
    · rw [← e] at c3 h2; rw [c3, h2.2.2.2]
  · rw [List.getElem?_eq_none (by rw [List.length_take]; omega), List.getElem?_eq_none (by rw [cellsH_len, marksH_len]; omega)]
theorem markH_own {w : World} {B : Nat} {v : Value} {l : List TH} (h : OwnH w B v l) (hl : l.length ≤ 1048576) (k : Int) (k0 : 0 ≤ k) (k1 : k ≤ 10000000) :
    Calls Try.prog 40 #[v, .int .i64 k] w fun r w' => r = .returned (.int .i64 (k + 4 * l.length)) ∧ OwnH w' B v (marksH k l.length) ∧ Kept (fun j => v.ownBlock = some j) w w' := by
  rcases h.2 with ⟨rfl, hn⟩ | ⟨g, cap, cur, rfl, hB, hh, hc, hm, hs, ht⟩
  · rw [hn]
    refine (markH_nil none 0 k w).mono ?_
    rintro r w' ⟨rfl, rfl⟩
    exact ⟨by simp, ⟨rfl, .inl ⟨rfl, rfl⟩⟩, Kept.refl _ _⟩
  · refine (markH_vals g l.length cap (cap * 4) cur k w hh hs (by omega) k0 k1 hl).mono ?_
    rintro r w' ⟨rfl, ⟨cur', hh', hs', hv⟩, hK⟩
    refine ⟨rfl, ⟨by rw [cellsH_len], .inr ⟨g, cap, cur', by rw [marksH_len], hB, hh', by rw [marksH_len]; exact hc, hm, hs', ?_⟩⟩, hK.mono fun j hj => by rw [hj]; rfl⟩
    rw [marksH_len]
    exact hv.cells
/-- The law's copy of a history is marked. -/
theorem markH_slab (g n c : Nat) (ss : List TH) (w : World) (h : SlabH w g n ss n) (hn : n ≤ 1048576) (k : Int) (k0 : 0 ≤ k) (k1 : k ≤ 10000000) :
    Calls Try.prog 40 #[.slice (some ⟨g, 0, none⟩) n c, .int .i64 k] w fun r w' => r = .returned (.int .i64 (k + 4 * n)) ∧ Kept (fun j => j = g) w w' := by
  obtain ⟨cur, hh, hs, _⟩ := h
  refine (markH_vals g n c (n * 4) cur k w hh hs (Nat.le_refl _) k0 k1 hn).mono ?_
  rintro r w' ⟨rfl, _, hK⟩
  exact ⟨rfl, hK⟩
theorem mtx_size (k : Int) (h0 : 0 ≤ k) (h1 : k ≤ 1000000000) : (mtx k).size ≤ maxLen := by
  have key : ∀ (q : Nat) (t : ByteArray), (digs q t).size ≤ t.size + q := by
    intro q
    induction q using Nat.strongRecOn with
    | _ q ih =>
      intro t
      unfold digs
      split
      · omega
      · have := ih (q / 10) (by omega) (⟨#[UInt8.ofNat (48 + q % 10)]⟩ ++ t)
        rw [ByteArray.size_append] at this
        have e : (⟨#[UInt8.ofNat (48 + q % 10)]⟩ : ByteArray).size = 1 := rfl
        rw [e] at this
        omega
  unfold mtx
  split
  · decide
  · have := key k.toNat ⟨#[]⟩
    have e : (⟨#[]⟩ : ByteArray).size = 0 := rfl
    rw [ByteArray.size_append]
    have e1 : (⟨#[109]⟩ : ByteArray).size = 1 := rfl
    rw [e] at this
    rw [e1]
    unfold maxLen
    omega
end Go.Proofs.Ytlcgmifibekegaa
