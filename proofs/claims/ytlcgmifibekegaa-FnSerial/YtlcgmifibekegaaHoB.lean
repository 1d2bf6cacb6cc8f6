/- What a right history is; keys, acts, where a transaction ends (stage 8). -/
import Derived.Test.YtlcgmifibekegaaHoA
namespace Go.Proofs.Ytlcgmifibekegaa
open Go.RowKit

noncomputable def asB (p : Prop) : Bool := @decide p (Classical.propDecidable p)
theorem asB_true {p : Prop} (h : p) : true = asB p := by unfold asB; exact (@decide_eq_true _ (Classical.propDecidable _) h).symm
theorem asB_false {p : Prop} (h : ¬ p) : false = asB p := by unfold asB; exact (@decide_eq_false _ (Classical.propDecidable _) h).symm
theorem asB_is {p : Prop} (h : asB p = true) : p := by unfold asB at h; exact @of_decide_eq_true _ (Classical.propDecidable _) h
theorem asB_not {p : Prop} (h : asB p = false) : ¬ p := by unfold asB at h; exact @of_decide_eq_false _ (Classical.propDecidable _) h

theorem asB_iff {p q : Prop} (h : p ↔ q) : asB p = asB q := by
  have : p = q := propext h
  rw [this]
theorem asB_eq {p : Prop} {b : Bool} (h : p ↔ b = true) : b = asB p := by
  cases b
  · exact asB_false (fun hp => by have := h.1 hp; cases this)
  · exact asB_true (h.2 rfl)
theorem kpBlk {w w' : World} {B g : Nat} {o : Obj} (h : w.heap[g]? = some o) (hb : Below B w w') (hg : g < B) : w'.heap[g]? = some o := (hb.block g hg).trans h
def KeyP (k : ByteArray) : Prop := 1 ≤ k.size ∧ k.size ≤ 80
theorem emp (k : ByteArray) : k.toList.isEmpty = decide (k.size = 0) := by
  rw [ByteArray.toList_eq]
  have : k.size = k.data.toList.length := by simp
  rw [this]
  cases k.data.toList <;> simp
set_option maxRecDepth 100000 in
theorem l07Key_any (k : ByteArray) (w : World) (hs : k.size ≤ maxLen) : Calls Try.prog 86 #[.string k] w fun e w' => e = .returned (.bool (asB (KeyP k))) ∧ w' = w := by
  unfold maxLen at hs
  by_cases h1 : (1 : Int) ≤ (k.size : Int)
  · go_enter Try.func86, Try.ntmps86
    go_wp2
    go_ret
    exact ⟨ret_bool' (asB_eq (by unfold KeyP; simp; omega)), rfl⟩
  · go_enter Try.func86, Try.ntmps86
    go_wp2
    go_ret
    exact ⟨ret_bool' (asB_false (by unfold KeyP; omega)), rfl⟩
set_option maxRecDepth 100000 in
theorem isKey_any (k : ByteArray) (w : World) (hs : k.size ≤ maxLen) : Calls Try.prog 112 #[.string k] w fun e w' => e = .returned (.bool (asB (KeyP k))) ∧ w' = w := by
  unfold maxLen at hs
  have HE : Hid (k.toList.isEmpty = decide (k.size = 0)) := emp k
  cases he : k.toList.isEmpty with
  | true =>
    go_enter Try.func112, Try.ntmps112
    go_wp2
    go_ret
    exact ⟨ret_bool' (asB_false (by have h := HE.out; rw [he] at h; have := of_decide_eq_true h.symm; unfold KeyP; omega)), rfl⟩
  | false =>
    go_enter Try.func112, Try.ntmps112
    go_wp2
    go_ret
    exact ⟨ret_bool' (asB_eq (by have h := HE.out; rw [he] at h; have := of_decide_eq_false h.symm; unfold KeyP; simp; omega)), rfl⟩
set_option maxRecDepth 100000 in
theorem entryOK_any (k v : ByteArray) (w : World) (hs : k.size ≤ maxLen) (hv : v.size ≤ maxLen) : Calls Try.prog 113 #[.agg #[.string k, .string v]] w fun e w' => e = .returned (.bool (asB (KeyP k ∧ v.size ≤ 200))) ∧ Below w.heap.size w w' := by
  have HS : Hid (k.size ≤ maxLen) := hs
  have B0 : Below w.heap.size w (w.alloc (.cells #[.string k, .string v] 61)) := (Below.refl _ _).alloc (Nat.le_refl _) _
  clear hs
  unfold maxLen at hv
  go_enter Try.func113, Try.ntmps113
  go_wp2_with fail
  refine (isKey_any k _ HS.out).mono ?_
  rintro e w1 ⟨rfl, hq⟩
  obtain rfl := hq.symm
  cases hk : asB (KeyP k) with
  | true =>
    have HK : Hid (KeyP k) := asB_is hk
    clear hk
    go_wp2
    go_ret
    exact ⟨ret_bool' (asB_eq ⟨fun h => by simp; omega, fun h => ⟨HK.out, by simp at h; omega⟩⟩), B0⟩
  | false =>
    have HK : Hid (¬ KeyP k) := asB_not hk
    clear hk
    go_wp2
    go_ret
    exact ⟨ret_bool' (asB_false (fun h => HK.out h.1)), B0⟩

/-- A right act. -/
def OpP (x : TH) : Prop := (0 ≤ x.1 ∧ x.1 ≤ 5) ∧ ((x.2.1 = 1 ∧ KeyP x.2.2.1 ∧ x.2.2.2.size = 0) ∨ (x.2.1 = 2 ∧ KeyP x.2.2.1 ∧ x.2.2.2.size ≤ 200) ∨ ((x.2.1 = 3 ∨ x.2.1 = 4) ∧ x.2.2.1.size = 0 ∧ x.2.2.2.size = 0))
theorem empT {v : ByteArray} (h : v.toList.isEmpty = true) : v.size = 0 := by rw [emp] at h; exact of_decide_eq_true h
theorem empF {v : ByteArray} (h : v.toList.isEmpty = false) : ¬ v.size = 0 := by rw [emp] at h; exact of_decide_eq_false h
set_option maxRecDepth 100000 in
set_option maxHeartbeats 1000000 in
theorem opOK_any (x : TH) (w : World) (hs : x.2.2.1.size ≤ maxLen) (hv : x.2.2.2.size ≤ maxLen) : Calls Try.prog 78 #[ValH x] w fun e w' => e = .returned (.bool (asB (OpP x))) ∧ Below w.heap.size w w' := by
  obtain ⟨t, k, y, v⟩ := x
  have HS : Hid (y.size ≤ maxLen ∧ v.size ≤ maxLen) := ⟨hs, hv⟩
  clear hs hv
  obtain ⟨W0, hW0⟩ : ∃ W0, w.alloc (.cells #[.int .i64 t, .int .i64 k, .string y, .string v] 107) = W0 := ⟨_, rfl⟩
  have B0 : Below w.heap.size w W0 := hW0 ▸ (Below.refl _ _).alloc (Nat.le_refl _) _
  have xb : W0.heap[w.heap.size]? = some (.cells #[.int .i64 t, .int .i64 k, .string y, .string v] 107 (0, 0)) := by rw [← hW0]; exact heap_new' _ _ _ rfl
  have XB : Hid (W0.heap[w.heap.size]? = some (.cells #[.int .i64 t, .int .i64 k, .string y, .string v] 107 (0, 0))) := xb
  have p0 : W0.cell? ⟨w.heap.size, 0, none⟩ = some (.int .i64 t) := by simp [World.cell?, xb]
  have p1 : W0.cell? ⟨w.heap.size, 1, none⟩ = some (.int .i64 k) := by simp [World.cell?, xb]
  have p2 : W0.cell? ⟨w.heap.size, 2, none⟩ = some (.string y) := by simp [World.cell?, xb]
  have p3 : W0.cell? ⟨w.heap.size, 3, none⟩ = some (.string v) := by simp [World.cell?, xb]
  clear xb
  by_cases h1 : t < 0
  · go_enter Try.func78, Try.ntmps78
    go_wp2
    go_ret
    exact ⟨ret_bool' (asB_false (fun h => by have := h.1.1; simp only at this; omega)), B0⟩
  by_cases h2 : 6 ≤ t
  · go_enter Try.func78, Try.ntmps78
    go_wp2
    go_ret
    exact ⟨ret_bool' (asB_false (fun h => by have := h.1.2; simp only at this; omega)), B0⟩
  have HT : Hid (0 ≤ t ∧ t ≤ 5) := (by omega : 0 ≤ t ∧ t ≤ 5)
  by_cases k1 : k = 1
  · subst k1
    go_enter Try.func78, Try.ntmps78
    go_wp2_with fail
    refine (isKey_any y W0 HS.out.1).mono ?_
    rintro e w1 ⟨rfl, hq⟩
    obtain rfl := hq.symm
    cases hk : asB (KeyP y) with
    | false =>
      have HK : Hid (¬ KeyP y) := asB_not hk
      clear hk
      go_wp2
      go_ret
      exact ⟨ret_bool' (asB_false (fun h => by rcases h.2 with h | h | h; exact HK.out h.2.1; exact HK.out h.2.1; have := h.1; simp at this)), B0⟩
    | true =>
      have HK : Hid (KeyP y) := asB_is hk
      clear hk
      cases he : v.toList.isEmpty with
      | true =>
        have HZ : Hid (v.size = 0) := empT he
        go_wp2
        go_ret
        exact ⟨ret_bool' (asB_true ⟨HT.out, .inl ⟨rfl, HK.out, HZ.out⟩⟩), B0⟩
      | false =>
        have HZ : Hid (¬ v.size = 0) := empF he
        go_wp2
        go_ret
        exact ⟨ret_bool' (asB_false (fun h => by rcases h.2 with h | h | h; exact HZ.out h.2.2; have := h.1; simp at this; exact HZ.out h.2.2)), B0⟩
  have e1 : (k == 1) = false := by simpa using k1
  by_cases k2 : k = 2
  · subst k2
    go_enter Try.func78, Try.ntmps78
    go_wp2_with fail
    refine (entryOK_any y v W0 HS.out.1 HS.out.2).mono ?_
    rintro e w1 ⟨rfl, b1⟩
    have B1 := below_step B0 (Nat.le_refl _) b1
    have HQ : Hid (asB (KeyP y ∧ v.size ≤ 200) = asB (OpP (t, 2, y, v))) := asB_iff ⟨fun h => ⟨HT.out, .inr (.inl ⟨rfl, h⟩)⟩, fun h => by rcases h.2 with h | h | h; have := h.1; simp at this; exact h.2; have := h.1; simp at this⟩
    go_wp2
    go_ret
    exact ⟨ret_bool' HQ.out, B1⟩
  have e2 : (k == 2) = false := by simpa using k2
  by_cases k3 : k = 3
  · subst k3
    cases hy : y.toList.isEmpty with
    | false =>
      have HZ : Hid (¬ y.size = 0) := empF hy
      go_enter Try.func78, Try.ntmps78
      go_wp2
      go_ret
      exact ⟨ret_bool' (asB_false (fun h => by rcases h.2 with h | h | h; have := h.1; simp at this; have := h.1; simp at this; exact HZ.out h.2.1)), B0⟩
    | true =>
      have HY : Hid (y.size = 0) := empT hy
      cases he : v.toList.isEmpty with
      | true =>
        have HZ : Hid (v.size = 0) := empT he
        go_enter Try.func78, Try.ntmps78
        go_wp2
        go_ret
        exact ⟨ret_bool' (asB_true ⟨HT.out, .inr (.inr ⟨.inl rfl, HY.out, HZ.out⟩)⟩), B0⟩
      | false =>
        have HZ : Hid (¬ v.size = 0) := empF he
        go_enter Try.func78, Try.ntmps78
        go_wp2
        go_ret
        exact ⟨ret_bool' (asB_false (fun h => by rcases h.2 with h | h | h; have := h.1; simp at this; have := h.1; simp at this; exact HZ.out h.2.2)), B0⟩
  have e3 : (k == 3) = false := by simpa using k3
  by_cases k4 : k = 4
  · subst k4
    cases hy : y.toList.isEmpty with
    | false =>
      have HZ : Hid (¬ y.size = 0) := empF hy
      go_enter Try.func78, Try.ntmps78
      go_wp2
      go_ret
      exact ⟨ret_bool' (asB_false (fun h => by rcases h.2 with h | h | h; have := h.1; simp at this; have := h.1; simp at this; exact HZ.out h.2.1)), B0⟩
    | true =>
      have HY : Hid (y.size = 0) := empT hy
      cases he : v.toList.isEmpty with
      | true =>
        have HZ : Hid (v.size = 0) := empT he
        go_enter Try.func78, Try.ntmps78
        go_wp2
        go_ret
        exact ⟨ret_bool' (asB_true ⟨HT.out, .inr (.inr ⟨.inr rfl, HY.out, HZ.out⟩)⟩), B0⟩
      | false =>
        have HZ : Hid (¬ v.size = 0) := empF he
        go_enter Try.func78, Try.ntmps78
        go_wp2
        go_ret
        exact ⟨ret_bool' (asB_false (fun h => by rcases h.2 with h | h | h; have := h.1; simp at this; have := h.1; simp at this; exact HZ.out h.2.2)), B0⟩
  have e4 : (k == 4) = false := by simpa using k4
  have HF : Hid (¬ OpP (t, k, y, v)) := fun h => by
    rcases h.2 with h | h | h
    · exact k1 h.1
    · exact k2 h.1
    · rcases h.1 with h | h
      · exact k3 h
      · exact k4 h
  clear k1 k2 k3 k4
  go_enter Try.func78, Try.ntmps78
  go_wp2
  go_ret
  exact ⟨ret_bool' (asB_false HF.out), B0⟩

/-- Act i ends transaction t. -/
def EndAt (ss : List TH) (t : Int) (i : Nat) : Prop := (nthH ss i).1 = t ∧ 3 ≤ (nthH ss i).2.1
/-- r is the first act that ends transaction t, -1 if there is none. -/
def DoneIs (ss : List TH) (t r : Int) : Prop := (r = -1 ∧ ∀ i, i < ss.length → ¬ EndAt ss t i) ∨ ∃ k : Nat, r = k ∧ k < ss.length ∧ EndAt ss t k ∧ ∀ i, i < k → ¬ EndAt ss t i
set_option maxRecDepth 100000 in
set_option maxHeartbeats 1000000 in
theorem l08Done_any (a : Option Addr) (cap : Nat) (ss : List TH) (t : Int) (w : World) (h : RowH w a ss) (hl : ss.length ≤ 1048576) :
    Calls Try.prog 87 #[.slice a ss.length cap, .int .i64 t] w fun e w' => ∃ r, e = .returned (.int .i64 r) ∧ DoneIs ss t r ∧ w' = w := by
  have HR : Hid (RowH w a ss) := h
  clear h
  obtain ⟨len, hlen⟩ : ∃ m, ss.length = m := ⟨_, rfl⟩
  have HL : Hid (ss.length = len) := hlen
  rw [hlen] at hl ⊢
  clear hlen
  go_enter Try.func87, Try.ntmps87
  go_wp2
  go_loopw [5] (fun i wr => ∃ k : Nat, k ≤ len ∧ i = .int .i64 k ∧ Hid (∀ i, i < k → ¬ EndAt ss t i) ∧ Hid (wr = w)) (fun i _ => len - (intOf i).toNat)
  case atStart => exact ⟨0, by omega, rfl, fun i hi => by omega, rfl⟩
  case round =>
    obtain ⟨k, hk, rfl, HS, HW⟩ := hrel
    obtain rfl := HW.out
    by_cases hlt : k < len
    · obtain ⟨b, off, rfl, hlb, ⟨q0, q1, q2, q3⟩, _⟩ := HR.out k (by rw [HL.out]; exact hlt)
      have hltI : (k : Int) < (len : Int) := by omega
      by_cases h1 : (nthH ss k).1 = t
      · have h1' : ((nthH ss k).1 == t) = true := by simpa using h1
        by_cases h2 : 3 ≤ (nthH ss k).2.1
        · have HE : Hid (EndAt ss t k) := ⟨h1, h2⟩
          clear h1
          go_wp2
          go_ret
          exact ⟨k, rfl, .inr ⟨k, rfl, by rw [HL.out]; exact hlt, HE.out, HS.out⟩, rfl⟩
        · have HN : Hid (∀ i, i < k + 1 → ¬ EndAt ss t i) := fun i hi he => by
            by_cases e : i = k
            · subst e; exact h2 he.2
            · exact HS.out i (by omega) he
          clear h1
          go_wp2
          go_roundw
          case rel => exact ⟨k + 1, by omega, by go_num, HN, True.intro⟩
          case measure => simp [intOf]; omega
      · have h1' : ((nthH ss k).1 == t) = false := by simpa using h1
        have HN : Hid (∀ i, i < k + 1 → ¬ EndAt ss t i) := fun i hi he => by
          by_cases e : i = k
          · subst e; exact h1 he.1
          · exact HS.out i (by omega) he
        clear h1
        go_wp2
        go_roundw
        case rel => exact ⟨k + 1, by omega, by go_num, HN, True.intro⟩
        case measure => simp [intOf]; omega
    · obtain rfl : k = len := by omega
      go_wp2
      go_ret
      exact ⟨-1, rfl, .inl ⟨rfl, by rw [HL.out]; exact HS.out⟩, rfl⟩
end Go.Proofs.Ytlcgmifibekegaa
