/- How deep a tree is, and whether it is within its bounds, on both sides (stage 11). -/
import Derived.Test.YteejkmcljokloaaGreatDoorTrF
namespace Go.Proofs.YteejkmcljokloaaGreatDoor
open Go.RowKit

namespace Fo
/-- How deep the deepest of these trees is. -/
def dep : Fo → Nat
  | nil => 0
  | cons _ ks r => max (ks.dep + 1) r.dep
def depTo : Fo → Nat → Nat
  | nil, _ => 0
  | cons _ _ _, 0 => 0
  | cons _ ks r, k + 1 => max (ks.dep + 1) (r.depTo k)
theorem depTo_zero (f : Fo) : f.depTo 0 = 0 := by cases f <;> rfl
theorem depTo_succ : ∀ (f : Fo) (i : Nat), i < f.len → f.depTo (i + 1) = max (f.depTo i) ((f.kids i).dep + 1)
  | nil, _, h => by simp [len] at h
  | cons _ ks r, 0, _ => by simp only [kids, depTo, depTo_zero]; omega
  | cons _ ks r, i + 1, h => by
    have := depTo_succ r i (by simp only [len] at h; omega)
    simp only [kids, depTo] at this ⊢; omega
theorem depTo_len : ∀ f : Fo, f.depTo f.len = f.dep
  | nil => rfl
  | cons _ ks r => by have := depTo_len r; simp only [len, depTo, dep]; omega
theorem dep_le : ∀ f : Fo, f.dep ≤ f.size
  | nil => Nat.le_refl _
  | cons _ ks r => by have := dep_le ks; have := dep_le r; simp only [dep, size]; omega
theorem depTo_le : ∀ (f : Fo) (i : Nat), f.depTo i ≤ f.dep
  | nil, _ => by simp [depTo]
  | cons _ ks r, 0 => by simp [depTo]
  | cons _ ks r, i + 1 => by have := depTo_le r i; simp only [depTo, dep]; omega
end Fo

set_option maxRecDepth 100000 in
set_option maxHeartbeats 4000000 in
theorem depthOf_all : ∀ (m : Nat) (x : ND) (ks : Fo) (ka : Option Addr) (kc : Nat) (w : World), ks.size ≤ m → ks.size ≤ 1048576 → RowT 0 w ka 0 ks →
    Calls Tryz.prog 97 #[ValT x (.slice ka ks.len kc)] w fun e w' => e = .returned (.int .i64 ((ks.dep : Int) + 1)) ∧ Below w.heap.size w w' := by
  intro m
  induction m with
  | zero =>
    intro x ks ka kc w hm hsz hrow
    have hl0 : ks.len = 0 := by have := ks.len_le; omega
    have HZ : Hid (ks.dep = 0) := (by have := ks.dep_le; omega : ks.dep = 0)
    rw [hl0]
    clear hm hsz hrow hl0
    have B0 : Below w.heap.size w (w.alloc (.cells #[.int .i64 x.k, .int .i64 x.n, .string x.nm, .string x.of, .int .i64 x.vk, .int .i64 x.vn, .string x.vt, .slice ka 0 kc] 38)) := (Below.refl _ _).alloc (Nat.le_refl _) _
    go_enter Tryz.func97, Tryz.ntmps97
    go_wp2
    go_loopw [3, 9] (fun s i wr => s = .int .i64 0 ∧ i = .int .i64 0 ∧ wr = w.alloc (.cells #[.int .i64 x.k, .int .i64 x.n, .string x.nm, .string x.of, .int .i64 x.vk, .int .i64 x.vn, .string x.vt, .slice ka 0 kc] 38)) (fun _ _ _ => 0)
    case atStart => exact ⟨rfl, rfl, rfl⟩
    case round =>
      obtain ⟨rfl, rfl, rfl⟩ := hrel
      go_wp2
      go_ret
      exact ⟨ret_int' (by rw [HZ.out]; rfl), B0⟩
  | succ m ih =>
    intro x ks ka kc w hm hsz hrow
    have HR : Hid (RowT 0 w ka 0 ks) := hrow
    have IH : Hid (∀ (x : ND) (ks : Fo) (ka : Option Addr) (kc : Nat) (w : World), ks.size ≤ m → ks.size ≤ 1048576 → RowT 0 w ka 0 ks → Calls Tryz.prog 97 #[ValT x (.slice ka ks.len kc)] w fun e w' => e = .returned (.int .i64 ((ks.dep : Int) + 1)) ∧ Below w.heap.size w w') := ih
    have HM : Hid (ks.size ≤ m + 1 ∧ ks.size ≤ 1048576) := ⟨hm, hsz⟩
    clear hrow ih hm
    obtain ⟨len, hL⟩ : ∃ m, ks.len = m := ⟨_, rfl⟩
    have HL : Hid (ks.len = len) := hL
    have hlen : len ≤ 1048576 := by have := ks.len_le; omega
    rw [hL]
    clear hL hsz
    have B0 : Below w.heap.size w (w.alloc (.cells #[.int .i64 x.k, .int .i64 x.n, .string x.nm, .string x.of, .int .i64 x.vk, .int .i64 x.vn, .string x.vt, .slice ka len kc] 38)) := (Below.refl _ _).alloc (Nat.le_refl _) _
    go_enter Tryz.func97, Tryz.ntmps97
    go_wp2
    go_loopw [3, 9] (fun s i wr => ∃ k d : Nat, k ≤ len ∧ i = .int .i64 k ∧ s = .int .i64 (d : Nat) ∧ Hid (ks.depTo k = d) ∧ Below w.heap.size w wr) (fun _ i _ => len - (intOf i).toNat)
    case atStart => exact ⟨0, 0, by omega, rfl, rfl, Fo.depTo_zero _, B0⟩
    case round =>
      clear B0
      obtain ⟨k, d, hk, rfl, rfl, HD, hbl⟩ := hrel
      by_cases hlt : k < len
      · have hkf : k < ks.len := by rw [HL.out]; exact hlt
        obtain ⟨b, off, ca, cc, rfl, _, hlb, ⟨c0, c1, c2, c3, c4, c5, c6, c7⟩, _, hkr⟩ := (HR.out.below hbl).at k hkf
        obtain ⟨W1, hW1⟩ : ∃ W1, wr.alloc (.cells #[.int .i64 (ks.node k).k, .int .i64 (ks.node k).n, .string (ks.node k).nm, .string (ks.node k).of, .int .i64 (ks.node k).vk, .int .i64 (ks.node k).vn, .string (ks.node k).vt, .slice ca (ks.kids k).len cc] 38) = W1 := ⟨_, rfl⟩
        have b1 : Below wr.heap.size wr W1 := hW1 ▸ (Below.refl _ _).alloc (Nat.le_refl _) _
        have X1 : BoxN wr.heap.size (ks.node k) (.slice ca (ks.kids k).len cc) W1 := hW1 ▸ BoxN.new 38
        obtain ⟨⟨y0, y1, y2, y3, y4, y5, y6, y7⟩, _⟩ := X1
        have hB1 := below_step hbl (Nat.le_refl _) b1
        have hkz : (ks.kids k).size ≤ m ∧ (ks.kids k).size ≤ 1048576 := by have := ks.kids_lt k hkf; have := HM.out; omega
        have hc := IH.out (ks.node k) (ks.kids k) ca cc W1 hkz.1 hkz.2 (hkr.below b1)
        have HU : Hid (ks.depTo (k + 1) = max d ((ks.kids k).dep + 1)) := by show _ = _; rw [ks.depTo_succ k hkf, HD.out]
        have hdk : (ks.kids k).dep ≤ 1048576 := by have := (ks.kids k).dep_le; omega
        obtain ⟨q, hq⟩ : ∃ q, (ks.kids k).dep = q := ⟨_, rfl⟩
        rw [hq] at hc HU hdk
        clear hq hkr b1 hkf hkz
        go_wp2_with fail
        refine hc.mono ?_
        rintro e w2 ⟨rfl, b2⟩
        have hB2 := below_step hB1 (Nat.le_refl _) b2
        clear c0 c1 c2 c3 c4 c5 c6 c7 y0 y1 y2 y3 y4 y5 y6 y7 b2 hB1 hlb hW1 hc
        by_cases hmx : d ≤ q + 1
        · have HU2 : Hid (ks.depTo (k + 1) = q + 1) := by show _ = _; rw [HU.out]; omega
          have hmI : ¬ ((q : Int) + 1 < (d : Int)) := by omega
          have hmJ : (d : Int) ≤ (q : Int) + 1 := by omega
          go_wp2
          go_roundw
          case rel => exact ⟨k + 1, q + 1, by omega, by go_num, by first | go_num | (congr 1; omega), HU2, hB2⟩
          case measure => simp [intOf]; omega
        · have HU2 : Hid (ks.depTo (k + 1) = d) := by show _ = _; rw [HU.out]; omega
          have hmI : (q : Int) + 1 < (d : Int) := by omega
          have hmJ : ¬ ((d : Int) ≤ (q : Int) + 1) := by omega
          go_wp2
          go_roundw
          case rel => exact ⟨k + 1, d, by omega, by go_num, by first | rfl | (congr 1; omega), HU2, hB2⟩
          case measure => simp [intOf]; omega
      · obtain rfl : k = len := by omega
        have HE : Hid (ks.dep = d) := by show _ = _; rw [← HD.out, ← HL.out, Fo.depTo_len]
        have hd : d ≤ 1048576 := by have := ks.dep_le; have := HM.out; have := HE.out; omega
        go_wp2
        go_ret
        exact ⟨ret_int' (by rw [HE.out]), hbl⟩
/-- A tree is within its bounds. -/
def bndB (ks : Fo) : Bool := decide (ks.size + 1 ≤ 120) && decide (ks.dep + 1 ≤ 20)
set_option maxRecDepth 100000 in
theorem within_any (x : ND) (ks : Fo) (ka : Option Addr) (kc : Nat) (w : World) (hsz : ks.size ≤ 1048576) (hrow : RowT 0 w ka 0 ks) :
    Calls Tryz.prog 72 #[ValT x (.slice ka ks.len kc)] w fun e w' => e = .returned (.bool (bndB ks)) ∧ Below w.heap.size w w' := by
  have B0 : Below w.heap.size w (w.alloc (.cells #[.int .i64 x.k, .int .i64 x.n, .string x.nm, .string x.of, .int .i64 x.vk, .int .i64 x.vn, .string x.vt, .slice ka ks.len kc] 38)) := (Below.refl _ _).alloc (Nat.le_refl _) _
  have X0 : Hid (BoxN w.heap.size x (.slice ka ks.len kc) (w.alloc (.cells #[.int .i64 x.k, .int .i64 x.n, .string x.nm, .string x.of, .int .i64 x.vk, .int .i64 x.vn, .string x.vt, .slice ka ks.len kc] 38))) := BoxN.new 38
  have hc := sizeUpTo_any x ks ka kc 120 _ hsz (hrow.below B0) (by omega) (by omega)
  have HR : Hid (RowT 0 w ka 0 ks ∧ ks.size ≤ 1048576) := ⟨hrow, hsz⟩
  clear hrow hsz
  go_enter Tryz.func72, Tryz.ntmps72
  go_wp2_with fail
  refine hc.mono ?_
  rintro e w1 ⟨r, rfl, r1, r2, b1⟩
  have B1 := B0.trans (b1.mono B0.size)
  obtain ⟨⟨y0, y1, y2, y3, y4, y5, y6, y7⟩, _⟩ := X0.out.below b1
  have hd := depthOf_all _ x ks ka kc w1 (Nat.le_refl _) HR.out.2 (HR.out.1.below B1)
  clear hc b1 B0 X0
  by_cases hs : ks.size + 1 ≤ 120
  · have hr : r ≤ 120 := by have := r1 (by omega); omega
    have HE : Hid (bndB ks = decide (ks.dep + 1 ≤ 20)) := by show _ = _; unfold bndB; rw [decide_eq_true hs]; rfl
    obtain ⟨q, hq⟩ : ∃ q, ks.dep = q := ⟨_, rfl⟩
    rw [hq] at hd HE
    clear r1 r2 hq
    go_wp2_with fail
    refine hd.mono ?_
    rintro e w2 ⟨rfl, b2⟩
    have B2 := below_step B1 (Nat.le_refl _) b2
    clear hd b2 y0 y1 y2 y3 y4 y5 y6 y7
    go_wp2
    go_ret
    exact ⟨ret_bool' (by rw [HE.out, Bool.eq_iff_iff]; simp; omega), B2⟩
  · have hr : ¬ r ≤ 120 := by have := r2 (by omega); omega
    have HE : Hid (bndB ks = false) := by show _ = _; unfold bndB; rw [decide_eq_false hs]; rfl
    clear r1 r2 hd
    go_wp2
    go_ret
    exact ⟨ret_bool' HE.out.symm, B1⟩
end Go.Proofs.YteejkmcljokloaaGreatDoor
