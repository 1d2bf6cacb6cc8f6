/- A table is found by its name, on both sides (stage 15). -/
import Derived.Test.YteejkmcljokloaaGreatDoorTbD
import Derived.Test.YteejkmcljokloaaGreatDoorFiA
import Derived.Lib.Bytealg
import Derived.Deep.RegionHeld3
namespace Go.Proofs.YteejkmcljokloaaGreatDoor
open Go.RowKit

/-- -1, 0 or 1 of two names, by their bytes. -/
def cmpT (a b : ByteArray) : Int := Lib.compareBytes a.data.toList b.data.toList
theorem cmpL_neg : ∀ x y : List UInt8, Lib.compareBytes x y < 0 ↔ Op.bytesLess x y = true
  | [], [] => by simp [Lib.compareBytes, Op.bytesLess]
  | [], b :: y => by simp [Lib.compareBytes, Op.bytesLess]
  | a :: x, [] => by simp [Lib.compareBytes, Op.bytesLess]
  | a :: x, b :: y => by
    have ih := cmpL_neg x y
    unfold Lib.compareBytes Op.bytesLess
    by_cases e : a = b
    · subst e
      have : ¬ a < a := UInt8.lt_irrefl a
      simp [this, ih]
    · have h1 : (a == b) = false := by simpa using e
      rw [h1]
      by_cases h2 : a < b
      · simp [h2]
      · have h3 : b < a := by
          rcases Nat.lt_or_ge b.toNat a.toNat with h | h
          · exact UInt8.lt_iff_toNat_lt.2 h
          · exfalso
            have : ¬ a.toNat < b.toNat := fun h' => h2 (UInt8.lt_iff_toNat_lt.2 h')
            exact e (UInt8.toNat_inj.1 (by omega))
        simp [h2, h3]
theorem cmpL_zero : ∀ x y : List UInt8, Lib.compareBytes x y = 0 ↔ (x == y) = true
  | [], [] => by simp [Lib.compareBytes]
  | [], b :: y => by simp [Lib.compareBytes]
  | a :: x, [] => by simp [Lib.compareBytes]
  | a :: x, b :: y => by
    have ih := cmpL_zero x y
    unfold Lib.compareBytes
    by_cases e : a = b
    · subst e
      have : ¬ a < a := UInt8.lt_irrefl a
      simp [this] at ih ⊢
      exact ih
    · by_cases h2 : a < b
      · simp [h2, e]
      · have h3 : b < a := by
          rcases Nat.lt_or_ge b.toNat a.toNat with h | h
          · exact UInt8.lt_iff_toNat_lt.2 h
          · exfalso
            have : ¬ a.toNat < b.toNat := fun h' => h2 (UInt8.lt_iff_toNat_lt.2 h')
            exact e (UInt8.toNat_inj.1 (by omega))
        simp [h2, h3, e]
theorem cmpT_neg (a b : ByteArray) : cmpT a b < 0 ↔ Op.bytesLess a.toList b.toList = true := by
  unfold cmpT; rw [ByteArray.toList_eq, ByteArray.toList_eq]; exact cmpL_neg _ _
theorem cmpT_zero (a b : ByteArray) : cmpT a b = 0 ↔ (a.toList == b.toList) = true := by
  unfold cmpT; rw [ByteArray.toList_eq, ByteArray.toList_eq]; exact cmpL_zero _ _
theorem bl_trans : ∀ x y z : List UInt8, Op.bytesLess x y = true → Op.bytesLess y z = true → Op.bytesLess x z = true
  | [], _, [] => fun h1 h2 => by cases ‹List UInt8› <;> simp [Op.bytesLess] at h1 h2
  | [], _, _ :: _ => fun _ _ => by simp [Op.bytesLess]
  | _ :: _, [], _ => fun h1 _ => by simp [Op.bytesLess] at h1
  | _ :: _, _ :: _, [] => fun _ h2 => by simp [Op.bytesLess] at h2
  | a :: x, b :: y, c :: z => fun h1 h2 => by
    have ih := bl_trans x y z
    unfold Op.bytesLess at h1 h2 ⊢
    by_cases e1 : a = b
    · subst e1
      by_cases e2 : a = c
      · subst e2
        simp at h1 h2 ⊢
        exact ih h1 h2
      · have h3 : (a == c) = false := by simpa using e2
        simp [h3] at h1 h2 ⊢
        exact h2
    · have h3 : (a == b) = false := by simpa using e1
      rw [h3] at h1
      simp at h1
      by_cases e2 : b = c
      · subst e2
        rw [h3]
        simpa using h1
      · have h4 : (b == c) = false := by simpa using e2
        rw [h4] at h2
        simp at h2
        have p1 := UInt8.lt_iff_toNat_lt.1 h1
        have p2 := UInt8.lt_iff_toNat_lt.1 h2
        have p3 : a < c := UInt8.lt_iff_toNat_lt.2 (by omega)
        have p4 : (a == c) = false := by
          have : a ≠ c := fun e => by subst e; omega
          simpa using this
        rw [p4]
        simpa using p3
theorem bl_irr : ∀ x : List UInt8, Op.bytesLess x x = false
  | [] => by simp [Op.bytesLess]
  | a :: x => by unfold Op.bytesLess; simp [bl_irr x]

/-- The names of tables. -/
abbrev nmT (ss : List TT) (i : Nat) : ByteArray := (nthT ss i).1
/-- Names rise, up to n. -/
def Rise (f : Nat → ByteArray) (n : Nat) : Prop := ∀ j, j + 1 < n → Op.bytesLess (f j).toList (f (j + 1)).toList = true
theorem Rise.lt {f : Nat → ByteArray} {n : Nat} (h : Rise f n) {i : Nat} : ∀ {d : Nat}, i + d + 1 < n → Op.bytesLess (f i).toList (f (i + d + 1)).toList = true
  | 0, hd => h i hd
  | d + 1, hd => bl_trans _ _ _ (h.lt (d := d) (by omega)) (h (i + d + 1) (by omega))

set_option maxRecDepth 100000 in
theorem cmpStr_run (a b : ByteArray) (w : World) : Sem.run Tryz.prog (callFunc 130 #[.string a, .string b]) w = .ok (.value (.int .i64 (cmpT a b))) w := by
  rw [run_callFunc_extern Tryz.func130 (by kernel_rfl) (by kernel_rfl) (by kernel_rfl) (e := Extern.BytealgCompare.compare) (by kernel_rfl), Lib.run_compareString]
  rfl
theorem cmp85_any (a b : ByteArray) (w : World) : Calls Tryz.prog 124 #[.string a, .string b] w fun e w' => e = .returned (.int .i64 (cmpT a b)) ∧ w' = w := by
  have hr := cmpStr_run a b w
  go_enter Tryz.func124, Tryz.ntmps124
  go_wp2
  go_ret
  exact ⟨rfl, rfl⟩
theorem cmp60_any (a b : ByteArray) (w : World) : Calls Tryz.prog 107 #[.string a, .string b] w fun e w' => e = .returned (.int .i64 (cmpT a b)) ∧ w' = w := by
  go_enter Tryz.func107, Tryz.ntmps107
  go_wp2_with (go_at_call 124; refine (cmp85_any a b _).mono ?_; rintro e w1 ⟨rfl, rfl⟩)
  go_ret
  exact ⟨rfl, rfl⟩
theorem cloT_any (nm : ByteArray) (cv xv : Value) (key : Int) (s : ByteArray) (w : World) : Calls Tryz.prog 106 #[TbV nm cv key xv, .string s] w fun e w' => e = .returned (.int .i64 (cmpT nm s)) ∧ Below w.heap.size w w' := by
  have B0 : Below w.heap.size w (w.alloc (.cells #[.string nm, cv, .int .i64 key, xv] 59)) := (Below.refl _ _).alloc (Nat.le_refl _) _
  go_enter Tryz.func106, Tryz.ntmps106
  go_wp2_with (go_at_call 107; refine (cmp60_any nm s _).mono ?_; rintro e w1 ⟨rfl, rfl⟩)
  go_ret
  exact ⟨rfl, B0⟩
theorem wrapT {j : Nat} (h : j ≤ 1048576) : IntKind.i64.wrap (j : Int) = (j : Int) := by
  unfold IntKind.wrap; simp [IntKind.signed, IntKind.bits]; omega
theorem midT (p q c : Nat) (h : p + q ≤ 8192) (hc : c = (p + q) / 2) : IntKind.u64.wrap ((p : Int) + (q : Int)) = ((p : Int) + (q : Int)) ∧ ((p : Int) + (q : Int)) / 2 = (c : Int) ∧ IntKind.i64.wrap (c : Int) = (c : Int) :=
  ⟨by simp only [IntKind.wrap, IntKind.signed, IntKind.bits]; simp; omega, by omega, wrapT (by omega)⟩
set_option maxRecDepth 100000 in
set_option maxHeartbeats 1000000 in
theorem l09Find_any (a : Option Addr) (cap n : Nat) (ss : List TT) (s : ByteArray) (w : World) (h : RowTb w a ss) (hn : n = ss.length) (hl : n ≤ 1048576) :
    Calls Tryz.prog 45 #[.slice a n cap, .string s] w fun e w' => e = .returned (.int .i64 (findN (nmT ss) s n)) ∧ w' = w := by
  have HR : Hid (RowTb w a ss) := h
  have HN : Hid (n = ss.length) := hn
  clear h hn
  go_enter Tryz.func45, Tryz.ntmps45
  go_wp2
  go_loopw [5] (fun i wr => ∃ k : Nat, k ≤ n ∧ i = .int .i64 k ∧ Hid (∀ j, j < k → ((nmT ss j).toList == s.toList) = false) ∧ wr = w) (fun i _ => n - (intOf i).toNat)
  case atStart => exact ⟨0, by omega, rfl, fun j hj => by omega, rfl⟩
  case round =>
    obtain ⟨k, hk, rfl, HA, rfl⟩ := hrel
    by_cases hlt : k < n
    · have hltI : (k : Int) < (n : Int) := by omega
      obtain ⟨b, off, ca, cc, xa, xc, rfl, hlb, ⟨q0, q1, q2, q3⟩, _⟩ := HR.out k (by have := HN.out; omega)
      cases hw : ((nmT ss k).toList == s.toList) with
      | true =>
        have HF : Hid (findN (nmT ss) s n = k) := find_at hlt HA.out hw
        have hw' : ((nthT ss k).1.toList == s.toList) = true := hw
        clear hw
        go_wp2
        go_ret
        exact ⟨ret_int' HF.out.symm, rfl⟩
      | false =>
        have HF : Hid (∀ j, j < k + 1 → ((nmT ss j).toList == s.toList) = false) := all_step HA.out hw
        have hw' : ((nthT ss k).1.toList == s.toList) = false := hw
        clear hw
        go_wp2
        go_roundw
        case rel => exact ⟨k + 1, by omega, by go_num, HF, by first | rfl | trivial⟩
        case measure => simp [intOf]; omega
    · obtain rfl : k = n := by omega
      have HF : Hid (findN (nmT ss) s k = -1) := find_none HA.out
      go_wp2
      go_ret
      exact ⟨ret_int' HF.out.symm, rfl⟩

/-- What a search by name answers: a place, and whether the name is there; where it is, its place. -/
def FtR (ss : List TT) (s : ByteArray) (n : Nat) (B : World) (e : Ending) (w' : World) : Prop := ∃ k : Int, e = .returned (.tuple #[.int .i64 k, .bool (decide (0 ≤ findN (nmT ss) s n))]) ∧ (0 ≤ findN (nmT ss) s n → k = findN (nmT ss) s n) ∧ Below B.heap.size B w'
/-- Ahead of p names are less, from q on they are not. -/
def Cut (f : Nat → ByteArray) (s : ByteArray) (n p q : Nat) : Prop := (∀ j, j < p → cmpT (f j) s < 0) ∧ ∀ j, q ≤ j → j < n → ¬ cmpT (f j) s < 0
theorem Cut.left {f : Nat → ByteArray} {s : ByteArray} {n p q m : Nat} (h : Cut f s n p q) (hr : Rise f n) (hm : m < n) (hlt : cmpT (f m) s < 0) : Cut f s n (m + 1) q := ⟨fun j hj => by
  by_cases e : j = m
  · subst e; exact hlt
  · obtain ⟨d, rfl⟩ : ∃ d, m = j + d + 1 := ⟨m - j - 1, by omega⟩
    exact (cmpT_neg _ _).2 (bl_trans _ _ _ (hr.lt hm) ((cmpT_neg _ _).1 hlt)), h.2⟩
theorem Cut.right {f : Nat → ByteArray} {s : ByteArray} {n p q m : Nat} (h : Cut f s n p q) (hr : Rise f n) (hlt : ¬ cmpT (f m) s < 0) : Cut f s n p m := ⟨h.1, fun j hj hn => by
  by_cases e : j = m
  · subst e; exact hlt
  · obtain ⟨d, rfl⟩ : ∃ d, j = m + d + 1 := ⟨j - m - 1, by omega⟩
    exact fun h' => hlt ((cmpT_neg _ _).2 (bl_trans _ _ _ (hr.lt hn) ((cmpT_neg _ _).1 h')))⟩
theorem Cut.at {f : Nat → ByteArray} {s : ByteArray} {n p : Nat} (h : Cut f s n p p) (hp : p < n) (hz : cmpT (f p) s = 0) : findN f s n = p :=
  find_at hp (fun j hj => by
    have := h.1 j hj
    cases e : ((f j).toList == s.toList) with
    | false => rfl
    | true => have := (cmpT_zero (f j) s).2 e; omega) ((cmpT_zero _ _).1 hz)
theorem Cut.not {f : Nat → ByteArray} {s : ByteArray} {n p : Nat} (h : Cut f s n p p) (hr : Rise f n) (hz : p < n → cmpT (f p) s ≠ 0) : findN f s n = -1 :=
  find_none fun j hj => by
    cases e : ((f j).toList == s.toList) with
    | false => rfl
    | true =>
      exfalso
      have h0 := (cmpT_zero (f j) s).2 e
      rcases Nat.lt_trichotomy j p with hl | hl | hl
      · have := h.1 j hl; omega
      · subst hl; exact hz hj h0
      · obtain ⟨d, rfl⟩ : ∃ d, j = p + d + 1 := ⟨j - p - 1, by omega⟩
        have h1 := hr.lt hj
        have h2 : (f (p + d + 1)).toList = s.toList := by simpa using e
        rw [h2] at h1
        exact h.2 p (Nat.le_refl _) (by omega) ((cmpT_neg _ _).2 h1)

set_option maxRecDepth 100000 in
set_option maxHeartbeats 4000000 in
theorem bsearch_any (a : Option Addr) (cap n : Nat) (ss : List TT) (s : ByteArray) (w : World) (h : RowTb w a ss) (hn : n = ss.length) (hl : n ≤ 4096) (hr : Rise (nmT ss) n) :
    Calls Tryz.prog 105 #[.slice a n cap, .string s, .func (.func 106) #[] #[]] w fun e w' => FtR ss s n w e w' := by
  have HR : Hid (RowTb w a ss) := h
  have HN : Hid (n = ss.length) := hn
  have HI : Hid (Rise (nmT ss) n) := hr
  clear h hn hr
  go_enter Tryz.func105, Tryz.ntmps105
  go_wp2
  go_loopw [9, 10] (fun i j wr => ∃ p q : Nat, p ≤ q ∧ q ≤ n ∧ i = .int .i64 p ∧ j = .int .i64 q ∧ Hid (Cut (nmT ss) s n p q) ∧ Below w.heap.size w wr) (fun i j _ => (intOf j).toNat - (intOf i).toNat)
  case atStart => exact ⟨0, n, by omega, Nat.le_refl _, rfl, rfl, ⟨fun j hj => by omega, fun j h1 h2 => by omega⟩, Below.refl _ _⟩
  case round =>
    obtain ⟨p, q, hpq, hqn, rfl, rfl, HC, hbl⟩ := hrel
    by_cases hlt : p < q
    · have hltI : (p : Int) < (q : Int) := by omega
      obtain ⟨m, hm⟩ : ∃ m, m = (p + q) / 2 := ⟨_, rfl⟩
      have hmv : p ≤ m ∧ m < q := by omega
      obtain ⟨b, off, ca, cc, xa, xc, rfl, hlb, ⟨q0, q1, q2, q3⟩, _⟩ := (HR.out.below hbl) m (by have := HN.out; omega)
      have HM : Hid (IntKind.u64.wrap ((p : Int) + (q : Int)) = ((p : Int) + (q : Int)) ∧ ((p : Int) + (q : Int)) / 2 = (m : Int) ∧ IntKind.i64.wrap (m : Int) = (m : Int)) := midT p q m (by omega) hm
      have HL : Hid (cmpT (nthT ss m).1 s < 0 → Cut (nmT ss) s n (m + 1) q) := fun h => HC.out.left HI.out (by omega) h
      have HG : Hid (¬ cmpT (nthT ss m).1 s < 0 → Cut (nmT ss) s n p m) := fun h => HC.out.right HI.out h
      have hmn : (m : Int) < (n : Int) := by omega
      obtain ⟨w1, w2, w3⟩ := HM.out
      have hcl := cloT_any (nthT ss m).1 (.slice ca (nthT ss m).2.1.length cc) (.slice xa (nthT ss m).2.2.2.length xc) (nthT ss m).2.2.1 s wr
      clear hm
      generalize nthT ss m = x at *
      obtain ⟨nx, cs, ky, xs⟩ := x
      simp only at q0 q1 q2 q3 HL HG hcl
      go_wp2_with fail
      refine hcl.mono ?_
      rintro e w4 ⟨rfl, b1⟩
      have B1 := below_step hbl (Nat.le_refl _) b1
      clear hcl
      by_cases hneg : cmpT nx s < 0
      · have HF : Hid (Cut (nmT ss) s n (m + 1) q) := HL.out hneg
        clear HL HG
        generalize cmpT nx s = c at *
        go_wp2
        go_roundw
        case rel => exact ⟨m + 1, q, by omega, hqn, by go_num, rfl, HF, B1⟩
        case measure => simp [intOf]; omega
      · have HF : Hid (Cut (nmT ss) s n p m) := HG.out (by omega)
        clear HL HG
        generalize cmpT nx s = c at *
        go_wp2
        go_roundw
        case rel => exact ⟨p, m, by omega, by omega, rfl, by go_num, HF, B1⟩
        case measure => simp [intOf]; omega
    · obtain rfl : p = q := by omega
      by_cases hp : p < n
      · have hpI : (p : Int) < (n : Int) := by omega
        obtain ⟨b, off, ca, cc, xa, xc, rfl, hlb, ⟨q0, q1, q2, q3⟩, _⟩ := (HR.out.below hbl) p (by have := HN.out; omega)
        have hcl := cloT_any (nthT ss p).1 (.slice ca (nthT ss p).2.1.length cc) (.slice xa (nthT ss p).2.2.2.length xc) (nthT ss p).2.2.1 s wr
        have HL : Hid (cmpT (nthT ss p).1 s = 0 → findN (nmT ss) s n = p) := fun h => HC.out.at hp h
        have HG : Hid (cmpT (nthT ss p).1 s ≠ 0 → findN (nmT ss) s n = -1) := fun h => HC.out.not HI.out fun _ => h
        generalize nthT ss p = x at *
        obtain ⟨nx, cs, ky, xs⟩ := x
        simp only at q0 q1 q2 q3 HL HG hcl
        go_wp2_with fail
        refine hcl.mono ?_
        rintro e w4 ⟨rfl, b1⟩
        have B1 := below_step hbl (Nat.le_refl _) b1
        clear hcl
        by_cases hz : cmpT nx s = 0
        · have HF : Hid (findN (nmT ss) s n = p) := HL.out hz
          clear HL HG
          generalize cmpT nx s = c at *
          subst hz
          go_wp2
          go_ret2
          exact ⟨(p : Int), by rw [HF.out]; simp, fun _ => HF.out.symm, B1⟩
        · have HF : Hid (findN (nmT ss) s n = -1) := HG.out hz
          clear HL HG
          have hzb : (cmpT nx s == 0) = false := by simpa using hz
          generalize cmpT nx s = c at *
          go_wp2
          go_ret2
          exact ⟨(p : Int), by rw [HF.out]; simp, fun h => by rw [HF.out] at h; omega, B1⟩
      · have HF : Hid (findN (nmT ss) s n = -1) := HC.out.not HI.out fun h => absurd h hp
        have hpI : ¬ (p : Int) < (n : Int) := by omega
        go_wp2
        go_ret2
        exact ⟨(p : Int), by rw [HF.out]; simp, fun h => by rw [HF.out] at h; omega, hbl⟩
set_option maxRecDepth 100000 in
theorem findTable_any (a : Option Addr) (cap n : Nat) (ss : List TT) (s : ByteArray) (w : World) (h : RowTb w a ss) (hn : n = ss.length) (hl : n ≤ 4096) (hr : Rise (nmT ss) n) :
    Calls Tryz.prog 80 #[.slice a n cap, .string s] w fun e w' => FtR ss s n w e w' := by
  have hcl := bsearch_any a cap n ss s w h hn hl hr
  clear h hn hr
  go_enter Tryz.func80, Tryz.ntmps80
  go_wp2_with fail
  refine hcl.mono ?_
  rintro e w1 ⟨k, rfl, hk, B1⟩
  have HK : Hid (0 ≤ findN (nmT ss) s n → k = findN (nmT ss) s n) := hk
  clear hk hcl
  generalize hD : decide (0 ≤ findN (nmT ss) s n) = d at *
  have HD : Hid (decide (0 ≤ findN (nmT ss) s n) = d) := hD
  clear hD
  go_wp2
  go_ret2
  exact ⟨k, by rw [HD.out]; rfl, HK.out, B1⟩
end Go.Proofs.YteejkmcljokloaaGreatDoor
