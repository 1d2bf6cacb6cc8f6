/- What a right base is; keys, versions, writes (stage 7). -/
import Derived.Test.YtmkagolechjjkaaVrF
namespace Go.Proofs.Ytmkagolechjjkaa
open Go.RowKit

noncomputable def asB (p : Prop) : Bool := @decide p (Classical.propDecidable p)
theorem asB_true {p : Prop} (h : p) : true = asB p := by unfold asB; exact (@decide_eq_true _ (Classical.propDecidable _) h).symm
theorem asB_false {p : Prop} (h : ¬ p) : false = asB p := by unfold asB; exact (@decide_eq_false _ (Classical.propDecidable _) h).symm
theorem asB_is {p : Prop} (h : asB p = true) : p := by unfold asB at h; exact @of_decide_eq_true _ (Classical.propDecidable _) h
theorem asB_not {p : Prop} (h : asB p = false) : ¬ p := by unfold asB at h; exact @of_decide_eq_false _ (Classical.propDecidable _) h

theorem less_tot : ∀ x y : List UInt8, (Op.bytesLess y x || y == x) = !Op.bytesLess x y
  | [], [] => rfl
  | [], b :: y => by simp [Op.bytesLess]
  | a :: x, [] => by simp [Op.bytesLess]
  | a :: x, b :: y => by
    have ih := less_tot x y
    unfold Op.bytesLess
    by_cases e : a = b
    · subst e
      simp
      rw [← ih]
    · have e' : ¬ b = a := fun h => e h.symm
      have h1 : (b == a) = false := by simpa using e'
      have h2 : (a == b) = false := by simpa using e
      rw [h1, h2]
      have h3 : (b :: y == a :: x) = false := by simp [e']
      rw [h3]
      simp
      have : a.toNat ≠ b.toNat := fun h => e (UInt8.toNat_inj.1 h)
      rcases Nat.lt_or_ge a.toNat b.toNat with h | h
      · have p1 : a < b := UInt8.lt_iff_toNat_lt.2 h
        have p2 : ¬ b < a := fun h' => by have := UInt8.lt_iff_toNat_lt.1 h'; omega
        rw [decide_eq_true p1, decide_eq_false p2]; rfl
      · have p1 : ¬ a < b := fun h' => by have := UInt8.lt_iff_toNat_lt.1 h'; omega
        have p2 : b < a := UInt8.lt_iff_toNat_lt.2 (by omega)
        rw [decide_eq_false p1, decide_eq_true p2]; rfl
theorem asB_iff {p q : Prop} (h : p ↔ q) : asB p = asB q := by
  have : p = q := propext h
  rw [this]
theorem asB_eq {p : Prop} {b : Bool} (h : p ↔ b = true) : b = asB p := by
  cases b
  · exact asB_false (fun hp => by have := h.1 hp; cases this)
  · exact asB_true (h.2 rfl)
def Less (x y : ByteArray) : Prop := Op.bytesLess x.toList y.toList = true
def KeyP (k : ByteArray) : Prop := 1 ≤ k.size ∧ k.size ≤ 80
def VerP (x : TV) (now : Int) : Prop := KeyP x.1 ∧ x.2.2.2.size ≤ 200 ∧ 1 ≤ x.2.1 ∧ x.2.1 ≤ now ∧ (x.2.2.1 = 0 ∨ (x.2.1 < x.2.2.1 ∧ x.2.2.1 ≤ now))
def BehP (v p : TV) : Prop := Less p.1 v.1 ∨ (v.1.toList = p.1.toList ∧ p.2.2.1 ≠ 0 ∧ p.2.2.1 ≤ v.2.1)
def WrP (x : TW) : Prop := KeyP x.1 ∧ x.2.1.size ≤ 200 ∧ (x.2.2 = true → x.2.1.size = 0)
def TxP (x : TX) (now : Int) : Prop := (x.1 = false → x.2.1 = 0 ∧ x.2.2.length = 0) ∧ (x.1 = true → 0 ≤ x.2.1 ∧ x.2.1 ≤ now ∧ x.2.2.length ≤ 8 ∧ ∀ i, i < x.2.2.length → WrP (nthW x.2.2 i) ∧ (0 < i → Less (nthW x.2.2 (i - 1)).1 (nthW x.2.2 i).1))
/-- A right base. -/
def BaseP (t : Int) (vs : List TV) (xs : List TX) : Prop := 0 ≤ t ∧ t ≤ 2000 ∧ vs.length ≤ 4096 ∧ xs.length = 4 ∧ (∀ i, i < vs.length → VerP (nthV vs i) t ∧ (0 < i → BehP (nthV vs i) (nthV vs (i - 1)))) ∧ ∀ i, i < 4 → TxP (nthX xs i) t
theorem emp (k : ByteArray) : k.toList.isEmpty = decide (k.size = 0) := by
  rw [ByteArray.toList_eq]
  have : k.size = k.data.toList.length := by simp
  rw [this]
  cases k.data.toList <;> simp
set_option maxRecDepth 100000 in
theorem l07Key_any (k : ByteArray) (w : World) (hs : k.size ≤ maxLen) : Calls Try.prog 36 #[.string k] w fun e w' => e = .returned (.bool (asB (KeyP k))) ∧ w' = w := by
  unfold maxLen at hs
  by_cases h1 : (1 : Int) ≤ (k.size : Int)
  · go_enter Try.func36, Try.ntmps36
    go_wp2
    go_ret
    exact ⟨ret_bool' (asB_eq (by unfold KeyP; simp; omega)), rfl⟩
  · go_enter Try.func36, Try.ntmps36
    go_wp2
    go_ret
    exact ⟨ret_bool' (asB_false (by unfold KeyP; omega)), rfl⟩
set_option maxRecDepth 100000 in
theorem isKey_any (k : ByteArray) (w : World) (hs : k.size ≤ maxLen) : Calls Try.prog 44 #[.string k] w fun e w' => e = .returned (.bool (asB (KeyP k))) ∧ w' = w := by
  unfold maxLen at hs
  have HE : Hid (k.toList.isEmpty = decide (k.size = 0)) := emp k
  cases he : k.toList.isEmpty with
  | true =>
    go_enter Try.func44, Try.ntmps44
    go_wp2
    go_ret
    exact ⟨ret_bool' (asB_false (by have h := HE.out; rw [he] at h; have := of_decide_eq_true h.symm; unfold KeyP; omega)), rfl⟩
  | false =>
    go_enter Try.func44, Try.ntmps44
    go_wp2
    go_ret
    exact ⟨ret_bool' (asB_eq (by have h := HE.out; rw [he] at h; have := of_decide_eq_false h.symm; unfold KeyP; simp; omega)), rfl⟩
set_option maxRecDepth 100000 in
theorem entryOK_any (k v : ByteArray) (w : World) (hs : k.size ≤ maxLen) (hv : v.size ≤ maxLen) : Calls Try.prog 62 #[.agg #[.string k, .string v]] w fun e w' => e = .returned (.bool (asB (KeyP k ∧ v.size ≤ 200))) ∧ Below w.heap.size w w' := by
  have HS : Hid (k.size ≤ maxLen) := hs
  have B0 : Below w.heap.size w (w.alloc (.cells #[.string k, .string v] 81)) := (Below.refl _ _).alloc (Nat.le_refl _) _
  clear hs
  unfold maxLen at hv
  go_enter Try.func62, Try.ntmps62
  go_wp2_with fail
  refine (isKey_any k _ HS.out).mono ?_
  rintro e w1 ⟨rfl, hq⟩
  obtain rfl := hq.symm
  cases hk : asB (KeyP k) with
  | true =>
    have HK : Hid (KeyP k) := asB_is hk
    clear hk
    go_wp2
    go_ret
    exact ⟨ret_bool' (asB_eq ⟨fun h => by simp; omega, fun h => ⟨HK.out, by simp at h; omega⟩⟩), B0⟩
  | false =>
    have HK : Hid (¬ KeyP k) := asB_not hk
    clear hk
    go_wp2
    go_ret
    exact ⟨ret_bool' (asB_false (fun h => HK.out h.1)), B0⟩
set_option maxRecDepth 100000 in
theorem writeOK_any (x : TW) (w : World) (hs : x.1.size ≤ maxLen) (hv : x.2.1.size ≤ maxLen) : Calls Try.prog 63 #[ValW x] w fun e w' => e = .returned (.bool (asB (WrP x))) ∧ Below w.heap.size w w' := by
  obtain ⟨k, v, g⟩ := x
  have HS : Hid (k.size ≤ maxLen ∧ v.size ≤ maxLen) := ⟨hs, hv⟩
  clear hs hv
  obtain ⟨W0, hW0⟩ : ∃ W0, w.alloc (.cells #[.string k, .string v, .bool g] 93) = W0 := ⟨_, rfl⟩
  have B0 : Below w.heap.size w W0 := hW0 ▸ (Below.refl _ _).alloc (Nat.le_refl _) _
  have xb : W0.heap[w.heap.size]? = some (.cells #[.string k, .string v, .bool g] 93 (0, 0)) := by rw [← hW0]; exact heap_new' _ _ _ rfl
  have XB : Hid (W0.heap[w.heap.size]? = some (.cells #[.string k, .string v, .bool g] 93 (0, 0))) := xb
  have p0 : W0.cell? ⟨w.heap.size, 0, none⟩ = some (.string k) := by simp [World.cell?, xb]
  have p1 : W0.cell? ⟨w.heap.size, 1, none⟩ = some (.string v) := by simp [World.cell?, xb]
  clear xb
  go_enter Try.func63, Try.ntmps63
  go_wp2_with fail
  refine (entryOK_any k v W0 HS.out.1 HS.out.2).mono ?_
  rintro e w1 ⟨rfl, b1⟩
  have xb := kpBlk XB.out b1 (slab_lt XB.out)
  have q1 : w1.cell? ⟨w.heap.size, 1, none⟩ = some (.string v) := by simp [World.cell?, xb]
  have q2 : w1.cell? ⟨w.heap.size, 2, none⟩ = some (.bool g) := by simp [World.cell?, xb]
  have B1 := below_step B0 (Nat.le_refl _) b1
  clear xb b1 XB p0 p1 hW0
  cases hk : asB (KeyP k ∧ v.size ≤ 200) with
  | false =>
    have HK : Hid (¬ (KeyP k ∧ v.size ≤ 200)) := asB_not hk
    clear hk
    go_wp2
    go_ret
    exact ⟨ret_bool' (asB_false (fun h => HK.out ⟨h.1, h.2.1⟩)), B1⟩
  | true =>
    have HK : Hid (KeyP k ∧ v.size ≤ 200) := asB_is hk
    clear hk
    cases g with
    | false =>
      go_wp2
      go_ret
      exact ⟨ret_bool' (asB_true ⟨HK.out.1, HK.out.2, fun h => by cases h⟩), B1⟩
    | true =>
      have HE : Hid (v.toList.isEmpty = decide (v.size = 0)) := emp v
      cases he : v.toList.isEmpty with
      | true =>
        have HZ : Hid (v.size = 0) := by show v.size = 0; have h := HE.out; rw [he] at h; exact of_decide_eq_true h.symm
        go_wp2
        go_ret
        exact ⟨ret_bool' (asB_true ⟨HK.out.1, HK.out.2, fun _ => HZ.out⟩), B1⟩
      | false =>
        have HZ : Hid (¬ v.size = 0) := by show ¬ v.size = 0; have h := HE.out; rw [he] at h; exact of_decide_eq_false h.symm
        go_wp2
        go_ret
        exact ⟨ret_bool' (asB_false (fun h => HZ.out (h.2.2 rfl))), B1⟩
set_option maxRecDepth 100000 in
theorem versionOK_any (x : TV) (now : Int) (w : World) (hs : x.1.size ≤ maxLen) (hv : x.2.2.2.size ≤ maxLen) : Calls Try.prog 40 #[ValV x, .int .i64 now] w fun e w' => e = .returned (.bool (asB (VerP x now))) ∧ Below w.heap.size w w' := by
  obtain ⟨k, b, d, v⟩ := x
  have HS : Hid (k.size ≤ maxLen ∧ v.size ≤ maxLen) := ⟨hs, hv⟩
  clear hs hv
  obtain ⟨W0, hW0⟩ : ∃ W0, w.alloc (.cells #[.string k, .int .i64 b, .int .i64 d, .string v] 57) = W0 := ⟨_, rfl⟩
  have B0 : Below w.heap.size w W0 := hW0 ▸ (Below.refl _ _).alloc (Nat.le_refl _) _
  have xb : W0.heap[w.heap.size]? = some (.cells #[.string k, .int .i64 b, .int .i64 d, .string v] 57 (0, 0)) := by rw [← hW0]; exact heap_new' _ _ _ rfl
  have XB : Hid (W0.heap[w.heap.size]? = some (.cells #[.string k, .int .i64 b, .int .i64 d, .string v] 57 (0, 0))) := xb
  have p0 : W0.cell? ⟨w.heap.size, 0, none⟩ = some (.string k) := by simp [World.cell?, xb]
  have p1 : W0.cell? ⟨w.heap.size, 3, none⟩ = some (.string v) := by simp [World.cell?, xb]
  clear xb
  go_enter Try.func40, Try.ntmps40
  go_wp2_with fail
  refine (entryOK_any k v W0 HS.out.1 HS.out.2).mono ?_
  rintro e w1 ⟨rfl, b1⟩
  have xb := kpBlk XB.out b1 (slab_lt XB.out)
  have q1 : w1.cell? ⟨w.heap.size, 1, none⟩ = some (.int .i64 b) := by simp [World.cell?, xb]
  have q2 : w1.cell? ⟨w.heap.size, 2, none⟩ = some (.int .i64 d) := by simp [World.cell?, xb]
  have B1 := below_step B0 (Nat.le_refl _) b1
  clear xb b1 XB p0 p1 hW0
  cases hk : asB (KeyP k ∧ v.size ≤ 200) with
  | false =>
    have HK : Hid (¬ (KeyP k ∧ v.size ≤ 200)) := asB_not hk
    clear hk
    go_wp2
    go_ret
    exact ⟨ret_bool' (asB_false (fun h => HK.out ⟨h.1, h.2.1⟩)), B1⟩
  | true =>
    have HK : Hid (KeyP k ∧ v.size ≤ 200) := asB_is hk
    clear hk
    by_cases h1 : b < 1
    · go_wp2
      go_ret
      exact ⟨ret_bool' (asB_false (fun h => by have := h.2.2.1; simp only at this; omega)), B1⟩
    by_cases h2 : now < b
    · go_wp2
      go_ret
      exact ⟨ret_bool' (asB_false (fun h => by have := h.2.2.2.1; simp only at this; omega)), B1⟩
    by_cases h3 : d = 0
    · subst h3
      go_wp2
      go_ret
      exact ⟨ret_bool' (asB_true ⟨HK.out.1, HK.out.2, by simp only; omega, by simp only; omega, .inl rfl⟩), B1⟩
    have h3' : (d == 0) = false := by simpa using h3
    by_cases h4 : b < d
    · go_wp2
      go_ret
      exact ⟨ret_bool' (asB_eq ⟨fun h => by have := h.2.2.2.2; simp only at this; simp; omega, fun h => ⟨HK.out.1, HK.out.2, by simp only; omega, by simp only; omega, .inr ⟨h4, by simpa using h⟩⟩⟩), B1⟩
    · go_wp2
      go_ret
      exact ⟨ret_bool' (asB_false (fun h => by have := h.2.2.2.2; simp only at this; omega)), B1⟩
theorem less_irr (x : List UInt8) : Op.bytesLess x x = false := by
  have := less_tot x x
  cases h : Op.bytesLess x x <;> simp_all
set_option maxRecDepth 100000 in
theorem isBehind_any (x y : TV) (w : World) : Calls Try.prog 41 #[ValV x, ValV y] w fun e w' => e = .returned (.bool (asB (BehP x y))) ∧ Below w.heap.size w w' := by
  obtain ⟨k, b, d, v⟩ := x
  obtain ⟨k', b', d', v'⟩ := y
  have B0 : Below w.heap.size w ((w.alloc (.cells #[.string k, .int .i64 b, .int .i64 d, .string v] 57)).alloc (.cells #[.string k', .int .i64 b', .int .i64 d', .string v'] 57)) := ((Below.refl _ _).alloc (Nat.le_refl _) _).alloc (by simp) _
  cases he : (k.toList == k'.toList) with
  | false =>
    have HT : Hid (Op.bytesLess k.toList k'.toList = !Op.bytesLess k'.toList k.toList) := by
      have := less_tot k'.toList k.toList
      rw [he] at this
      simp only [Bool.or_false] at this
      exact this
    have HE : Hid (¬ k.toList = k'.toList) := by intro h; rw [h] at he; simp at he
    go_enter Try.func41, Try.ntmps41
    go_wp2
    go_ret
    exact ⟨ret_bool' (asB_eq ⟨fun h => h.elim (fun h => by have h' : Op.bytesLess k'.toList k.toList = true := h; rw [HT.out, h']; rfl) (fun h => absurd h.1 HE.out), fun h => .inl (by show Op.bytesLess k'.toList k.toList = true; rw [HT.out] at h; simpa using h)⟩), B0⟩
  | true =>
    have HE : Hid (k.toList = k'.toList) := by show _ = _; simpa using he
    have HI : Hid (¬ Less k' k) := by show ¬ Less k' k; unfold Less; rw [HE.out, less_irr]; simp
    by_cases h0 : d' = 0
    · subst h0
      go_enter Try.func41, Try.ntmps41
      go_wp2
      go_ret
      exact ⟨ret_bool' (asB_false (fun h => h.elim HI.out (fun h => h.2.1 rfl))), B0⟩
    · have h0' : (d' == 0) = false := by simpa using h0
      go_enter Try.func41, Try.ntmps41
      go_wp2
      go_ret
      exact ⟨ret_bool' (asB_eq ⟨fun h => h.elim (fun h => absurd h HI.out) (fun h => by have := h.2.2; simp only at this; simp; omega), fun h => .inr ⟨HE.out, h0, by simp at h; exact h.2⟩⟩), B0⟩
end Go.Proofs.Ytmkagolechjjkaa
