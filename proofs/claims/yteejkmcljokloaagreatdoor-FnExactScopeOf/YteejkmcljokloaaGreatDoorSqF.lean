/- impl's countParts (stage 11). -/
import Derived.Test.YteejkmcljokloaaGreatDoorTrC
import Derived.Test.YteejkmcljokloaaGreatDoorSqR
namespace Go.Proofs.YteejkmcljokloaaGreatDoor
open Go.RowKit

def nthO (O : List Int) (j : Nat) : Int := O.getD j 0
theorem nthO_get {O : List Int} {j : Nat} (h : j < O.length) : nthO O j = O[j] := by
  unfold nthO
  rw [List.getD_eq_getElem?_getD, List.getElem?_eq_getElem h]
  rfl
/-- The numbers O can be read at a. -/
def RowO (w : World) (a : Option Addr) (O : List Int) : Prop := ∀ j, j < O.length → ∃ b off, a = some ⟨b, off, none⟩ ∧ b < w.heap.size ∧ w.cell? ⟨b, off + j, none⟩ = some (.int .i64 (nthO O j))
theorem RowO.below {w w' : World} {a : Option Addr} {O : List Int} (h : RowO w a O) (hb : Below w.heap.size w w') : RowO w' a O := fun j hj => by
  obtain ⟨b, off, e, hl, hc⟩ := h j hj
  exact ⟨b, off, e, Nat.lt_of_lt_of_le hl hb.size, (hb.cell (p := ⟨b, off + j, none⟩) hl).trans hc⟩
theorem infoI : (Tryz.prog.info? 3).map (fun i => (i.zero, i.size, i.bytes)) = some (some (.int .i64 0), 1, 8) := by kernel_rfl
/-- A block of n counts. -/
def CntB (w : World) (g n : Nat) (c : Nat → Nat) : Prop := ∃ cur : Array Value, w.heap[g]? = some (.cells cur 3 (0, 0)) ∧ cur.size = n ∧ ∀ j, j < n → cur[j]? = some (.int .i64 (c j : Nat))
theorem CntB.lt {w : World} {g n : Nat} {c : Nat → Nat} (h : CntB w g n c) : g < w.heap.size := by
  obtain ⟨cur, hh, _⟩ := h
  exact slab_lt hh
theorem CntB.below {w w' : World} {g n : Nat} {c : Nat → Nat} (h : CntB w g n c) (hb : Below w.heap.size w w') : CntB w' g n c := by
  obtain ⟨cur, hh, r⟩ := h
  exact ⟨cur, (hb.block g (slab_lt hh)).trans hh, r⟩
theorem CntB.cell {w : World} {g n j : Nat} {c : Nat → Nat} (h : CntB w g n c) (hj : j < n) : w.cell? ⟨g, j, none⟩ = some (.int .i64 (c j : Nat)) := by
  obtain ⟨cur, hh, _, r⟩ := h
  exact (slab_cell hh).trans (r j hj)
theorem CntB.free {w : World} {g n j : Nat} {c : Nat → Nat} (h : CntB w g n c) : w.frozen? ⟨g, j, none⟩ = false := by
  obtain ⟨cur, hh, _⟩ := h
  exact slab_free hh
theorem CntB.set {w : World} {g n p : Nat} {c : Nat → Nat} (h : CntB w g n c) (hp : p < n) : CntB (w.setCell ⟨g, p, none⟩ (.int .i64 ((c p : Int) + 1))) g n (upd c p) := by
  obtain ⟨cur, hh, hs, r⟩ := h
  refine ⟨_, slab_set hh _, by simpa using hs, fun j hj => ?_⟩
  unfold upd
  by_cases e : j = p
  · subst e
    rw [if_pos rfl, Array.getElem?_setIfInBounds_self_of_lt (by omega)]
    simp
  · rw [if_neg e, Array.getElem?_setIfInBounds_ne (by omega)]
    exact r j hj
/-- What countParts answers: the counts, and whether all were counted. -/
def RetC (w : World) (f : Fo) (O : List Int) (e : Ending) (w' : World) : Prop :=
  ∃ (g : Nat) (c : Nat → Nat) (i : Nat), e = .returned (.tuple #[fullS g O.length, .bool ((i : Int) == (f.len : Int))]) ∧ w.heap.size ≤ g ∧ CntB w' g O.length c ∧ i ≤ f.len ∧ JP O (kindsF f) c O.length i ∧ Below w.heap.size w w'

set_option maxRecDepth 100000 in
set_option maxHeartbeats 4000000 in
theorem countParts_any (f : Fo) (a : Option Addr) (cap : Nat) (O : List Int) (oa : Option Addr) (oc : Nat) (w : World) (hrow : RowT 0 w a 0 f) (hlen : f.len ≤ 1048576) (hO : RowO w oa O) (hOl : O.length ≤ 7) :
    Calls Tryz.prog 76 #[.slice a f.len cap, .slice oa O.length oc] w (RetC w f O) := by
  have HR : Hid (RowT 0 w a 0 f ∧ RowO w oa O) := ⟨hrow, hO⟩
  clear hrow hO
  unfold RetC
  obtain ⟨len, hL⟩ : ∃ m, f.len = m := ⟨_, rfl⟩
  have HL : Hid (f.len = len) := hL
  obtain ⟨n, hN⟩ : ∃ m, O.length = m := ⟨_, rfl⟩
  have HN : Hid (O.length = n) := hN
  rw [hL] at hlen ⊢
  rw [hN] at hOl ⊢
  clear hL hN
  obtain ⟨i0, hi, hz0, hz1, hz2⟩ := info_parts infoI
  go_enter Tryz.func76, Tryz.ntmps76
  go_wp2_with (at_make; refine wpList_make_full _ rfl _ _ 102 rfl w.heap.size 3 i0 _ 1 Tryz.underlying102 hi hz0 hz1 .i64 .i64 _ _ n rfl rfl rfl rfl ?m1 ?m2 (Nat.le_refl _) ?_)
  case m1 => rw [hz2]; omega
  case m2 => unfold maxLen; omega
  intro w1 hown hgr
  have hB1 : Below w.heap.size w w1 := (Below.refl _ _).grown hgr (Nat.le_refl _) (fun k hk => by cases hk)
  have hS : CntB w1 w.heap.size n (fun _ => 0) := by
    rw [toList_madeCells_one] at hown
    rcases hown.2 with ⟨h, _⟩ | ⟨g, c, cur, h, _, hh, _, _, hcs, hcl⟩
    · cases h
    · cases h
      rw [Nat.mul_one] at hcs hcl
      refine ⟨cur, hh, hcs, fun j hj => ?_⟩
      have := congrArg (fun q => q[j]?) hcl
      rw [List.getElem?_take_of_lt hj, Array.getElem?_toList] at this
      rw [this]
      simp [hj]
  have HJ : Hid (JP O (kindsF f) (fun _ => 0) 0 0) := JP.start _ _
  clear hown hgr hi hz0 hz1 hz2
  go_wp2
  go_loopw [7, 15] (fun t p wr => ∃ (p' i : Nat) (c : Nat → Nat), p = .int .i64 p' ∧ t = .int .i64 i ∧ p' ≤ n ∧ i ≤ len ∧ CntB wr w.heap.size n c ∧ Hid (JP O (kindsF f) c p' i) ∧ Below w.heap.size w wr) (fun _ p _ => n - (intOf p).toNat)
  case atStart => exact ⟨0, 0, _, rfl, rfl, by omega, by omega, hS, HJ, hB1⟩
  case round =>
    clear hS HJ hB1
    obtain ⟨p, i, c, rfl, rfl, hpn, hil, hC, HJ, hbl⟩ := hrel
    by_cases hlt : p < n
    · obtain ⟨ob, oo, rfl, hob, hoc⟩ := (HR.out.2.below hbl) p (by rw [HN.out]; exact hlt)
      obtain ⟨o, ho⟩ : ∃ o, nthO O p = o := ⟨_, rfl⟩
      have HO : Hid (nthO O p = o) := ho
      rw [ho] at hoc
      clear ho
      go_wp2
      go_loopw [7] (fun t wi => ∃ (i : Nat) (c : Nat → Nat), t = .int .i64 i ∧ i ≤ len ∧ CntB wi w.heap.size n c ∧ Hid (JP O (kindsF f) c p i) ∧ Below w.heap.size w wi) (fun t _ => len - (intOf t).toNat)
      case atStart => exact ⟨i, c, rfl, hil, hC, HJ, hbl⟩
      case round =>
        clear hC HJ hil hbl hoc hob
        obtain ⟨i, c, rfl, hil, hC, HJ, hbl⟩ := hrel
        have hci : c p ≤ i := HJ.out.le p
        by_cases hlt2 : i < len
        · have hkf : i < f.len := by rw [HL.out]; exact hlt2
          obtain ⟨b, off, ka, kc, rfl, _, hlb, ⟨c0, _⟩, _, _⟩ := (HR.out.1.below hbl).at i hkf
          have HK : Hid (∀ hi : i < (kindsF f).length, (kindsF f)[i] = (f.node i).k) := fun hi => kindsF_get f i hi
          have HI : Hid (i < (kindsF f).length ∧ p < O.length) := ⟨by rw [kindsF_len]; exact hkf, by rw [HN.out]; exact hlt⟩
          obtain ⟨q, hq⟩ : ∃ q, (f.node i).k = q := ⟨_, rfl⟩
          have HQ : Hid ((f.node i).k = q) := hq
          rw [hq] at c0
          clear hq hkf
          by_cases he : q = o
          · subst he
            have HJ' : Hid (JP O (kindsF f) (upd c p) p (i + 1)) := HJ.out.hit HI.out.2 HI.out.1 (by rw [HK.out HI.out.1, HQ.out, ← HO.out, nthO_get HI.out.2])
            have m0 := hC.cell hlt
            have m1 : ∀ j, wr.frozen? ⟨w.heap.size, j, none⟩ = false := fun j => hC.free
            have HC : Hid (CntB (wr.setCell ⟨w.heap.size, p, none⟩ (.int .i64 ((c p : Int) + 1))) w.heap.size n (upd c p)) := hC.set hlt
            have HB : Hid (Below w.heap.size w (wr.setCell ⟨w.heap.size, p, none⟩ (.int .i64 ((c p : Int) + 1)))) := hbl.setCell (p := ⟨w.heap.size, p, none⟩) (Nat.le_refl _) _
            clear hC HJ hbl
            go_wp2
            go_roundw
            case rel => exact ⟨i + 1, upd c p, by go_num, by omega, HC.out, HJ', HB.out⟩
            case measure => simp [intOf]; omega
          · have HM : Hid (JP O (kindsF f) c (p + 1) i) := HJ.out.move HI.out.2 (fun hi => by rw [HK.out hi, HQ.out]; intro e; exact he (by rw [← HO.out, nthO_get HI.out.2, ← e]))
            clear HJ
            go_wp2
            go_roundw
            case rel => exact ⟨p + 1, i, c, by go_num, rfl, by omega, by omega, hC, HM, hbl⟩
            case measure => simp [intOf]; omega
        · have HM : Hid (JP O (kindsF f) c (p + 1) i) := HJ.out.move (by rw [HN.out]; exact hlt) (fun hi => absurd hi (by rw [kindsF_len, HL.out]; omega))
          clear HJ
          go_wp2
          go_roundw
          case rel => exact ⟨p + 1, i, c, by go_num, rfl, by omega, by omega, hC, HM, hbl⟩
          case measure => simp [intOf]; omega
    · obtain rfl : p = n := by omega
      have HJ2 : Hid (JP O (kindsF f) c p i) := HJ
      have HC : Hid (CntB wr w.heap.size p c) := hC
      clear HJ hC
      go_wp2
      exact bodyPost_ret (v := .tuple #[fullS w.heap.size p, .bool ((i : Int) == (len : Int))]) (by simp [results, Tryz.results76, go_sem]) rfl ⟨w.heap.size, c, i, rfl, Nat.le_refl _, HC.out, hil, HJ2.out, hbl⟩
end Go.Proofs.YteejkmcljokloaaGreatDoor
