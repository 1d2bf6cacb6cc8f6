/- Both sides' Horizon, and the law on it, walked (stage 7). -/
import Derived.Test.YtmkagolechjjkaaVrM
namespace Go.Proofs.Ytmkagolechjjkaa
open Go.RowKit

/-- The least of the time and of the open ones' snapshots among the first k. -/
def hor (t : Int) (xs : List TX) : Nat → Int
  | 0 => t
  | k + 1 => if (nthX xs k).1 = true then min (hor t xs k) (nthX xs k).2.1 else hor t xs k
noncomputable def horR (t : Int) (vs : List TV) (xs : List TX) : Int := if asB (BaseP t vs xs) = true then hor t xs xs.length else 0
noncomputable def horC (t : Int) (vs : List TV) (xs : List TX) : Int := if asB (BaseP t vs xs) = true then 0 else 1

set_option maxRecDepth 100000 in
set_option maxHeartbeats 2000000 in
theorem leastSnap_any (t : Int) (v1 : Value) (xa : Option Addr) (xc : Nat) (xs : List TX) (w : World) (hx : RowX w xa xs) (lx : xs.length ≤ 1048576) :
    Calls Try.prog 53 #[BW t v1 (.slice xa xs.length xc)] w fun e w' => e = .returned (.int .i64 (hor t xs xs.length)) ∧ Below w.heap.size w w' := by
  have HX : Hid (RowX w xa xs) := hx
  clear hx
  obtain ⟨W0, hW0⟩ : ∃ W0, w.alloc (.cells #[.int .i64 t, v1, .slice xa xs.length xc] 25) = W0 := ⟨_, rfl⟩
  have B0 : Below w.heap.size w W0 := hW0 ▸ (Below.refl _ _).alloc (Nat.le_refl _) _
  have xb : W0.heap[w.heap.size]? = some (.cells #[.int .i64 t, v1, .slice xa xs.length xc] 25 (0, 0)) := by rw [← hW0]; exact heap_new' _ _ _ rfl
  have XB : Hid (W0.heap[w.heap.size]? = some (.cells #[.int .i64 t, v1, .slice xa xs.length xc] 25 (0, 0))) := xb
  have c0 : W0.cell? ⟨w.heap.size, 0, none⟩ = some (.int .i64 t) := by simp [World.cell?, xb]
  have c2 : W0.cell? ⟨w.heap.size, 2, none⟩ = some (.slice xa xs.length xc) := by simp [World.cell?, xb]
  clear xb
  obtain ⟨len, hlen⟩ : ∃ m, xs.length = m := ⟨_, rfl⟩
  have HL : Hid (xs.length = len) := hlen
  rw [hlen] at c2 lx hW0 XB ⊢
  clear hlen
  go_enter Try.func53, Try.ntmps53
  go_wp2
  go_loopw [3, 11] (fun l i wr => ∃ k : Nat, k ≤ len ∧ l = .int .i64 (hor t xs k) ∧ i = .int .i64 k ∧ Below W0.heap.size W0 wr) (fun _ i _ => len - (intOf i).toNat)
  case atStart => exact ⟨0, by omega, rfl, rfl, Below.refl _ _⟩
  case round =>
    obtain ⟨k, hk, rfl, rfl, hbl⟩ := hrel
    have hB := B0.trans (hbl.mono B0.size)
    clear c0 c2 hW0
    have xb := kpBlk XB.out hbl (slab_lt XB.out)
    by_cases hlt : k < len
    · have hltI : (k : Int) < (len : Int) := by omega
      obtain ⟨b, off, wa, wc, rfl, hlb, ⟨q0, q1, q2⟩, _, _⟩ := (HX.out.below hB) k (by rw [HL.out]; exact hlt)
      have HS : Hid (hor t xs (k + 1) = if (nthX xs k).1 = true then min (hor t xs k) (nthX xs k).2.1 else hor t xs k) := rfl
      generalize nthX xs k = x at *
      obtain ⟨ox, nx, ws⟩ := x
      generalize hor t xs k = h at *
      simp only at q0 q1 q2
      obtain ⟨W1, hW1⟩ : ∃ W1, wr.alloc (.cells #[.bool ox, .int .i64 nx, .slice wa ws.length wc] 62) = W1 := ⟨_, rfl⟩
      have b1 : Below wr.heap.size wr W1 := hW1 ▸ (Below.refl _ _).alloc (Nat.le_refl _) _
      have yb : W1.heap[wr.heap.size]? = some (.cells #[.bool ox, .int .i64 nx, .slice wa ws.length wc] 62 (0, 0)) := hW1 ▸ heap_new' _ _ _ rfl
      have y0 : W1.cell? ⟨wr.heap.size, 0, none⟩ = some (.bool ox) := slab_cell yb
      have y1 : W1.cell? ⟨wr.heap.size, 1, none⟩ = some (.int .i64 nx) := slab_cell yb
      have HB2 : Hid (Below W0.heap.size W0 W1) := below_step hbl (Nat.le_refl _) b1
      clear yb b1 xb
      cases ox with
      | true =>
        go_wp2
        go_roundw
        case rel => exact ⟨k + 1, by omega, by rw [HS.out]; first | rfl | (simp; omega), by go_num, HB2.out⟩
        case measure => simp [intOf]; omega
      | false =>
        go_wp2
        go_roundw
        case rel => exact ⟨k + 1, by omega, by rw [HS.out]; rfl, by go_num, HB2.out⟩
        case measure => simp [intOf]; omega
    · obtain rfl : k = len := by omega
      clear xb
      go_wp2
      go_ret
      exact ⟨rfl, hB⟩
set_option maxRecDepth 100000 in
set_option maxHeartbeats 2000000 in
theorem l07Horizon_any (t : Int) (v1 : Value) (xa : Option Addr) (xc : Nat) (xs : List TX) (w : World) (hx : RowX w xa xs) (lx : xs.length ≤ 1048576) :
    Calls Try.prog 52 #[BW t v1 (.slice xa xs.length xc)] w fun e w' => e = .returned (.int .i64 (hor t xs xs.length)) ∧ Below w.heap.size w w' := by
  have HX : Hid (RowX w xa xs) := hx
  clear hx
  obtain ⟨W0, hW0⟩ : ∃ W0, w.alloc (.cells #[.int .i64 t, v1, .slice xa xs.length xc] 25) = W0 := ⟨_, rfl⟩
  have B0 : Below w.heap.size w W0 := hW0 ▸ (Below.refl _ _).alloc (Nat.le_refl _) _
  have xb : W0.heap[w.heap.size]? = some (.cells #[.int .i64 t, v1, .slice xa xs.length xc] 25 (0, 0)) := by rw [← hW0]; exact heap_new' _ _ _ rfl
  have XB : Hid (W0.heap[w.heap.size]? = some (.cells #[.int .i64 t, v1, .slice xa xs.length xc] 25 (0, 0))) := xb
  have c0 : W0.cell? ⟨w.heap.size, 0, none⟩ = some (.int .i64 t) := by simp [World.cell?, xb]
  have c2 : W0.cell? ⟨w.heap.size, 2, none⟩ = some (.slice xa xs.length xc) := by simp [World.cell?, xb]
  clear xb
  obtain ⟨len, hlen⟩ : ∃ m, xs.length = m := ⟨_, rfl⟩
  have HL : Hid (xs.length = len) := hlen
  rw [hlen] at c2 lx hW0 XB ⊢
  clear hlen
  go_enter Try.func52, Try.ntmps52
  go_wp2
  go_loopw [3, 4] (fun l i wr => ∃ k : Nat, k ≤ len ∧ l = .int .i64 (hor t xs k) ∧ i = .int .i64 k ∧ Below W0.heap.size W0 wr) (fun _ i _ => len - (intOf i).toNat)
  case atStart => exact ⟨0, by omega, rfl, rfl, Below.refl _ _⟩
  case round =>
    obtain ⟨k, hk, rfl, rfl, hbl⟩ := hrel
    have hB := B0.trans (hbl.mono B0.size)
    clear c0 c2 hW0
    have xb := kpBlk XB.out hbl (slab_lt XB.out)
    by_cases hlt : k < len
    · have hltI : (k : Int) < (len : Int) := by omega
      obtain ⟨b, off, wa, wc, rfl, hlb, ⟨q0, q1, q2⟩, _, _⟩ := (HX.out.below hB) k (by rw [HL.out]; exact hlt)
      have HS : Hid (hor t xs (k + 1) = if (nthX xs k).1 = true then min (hor t xs k) (nthX xs k).2.1 else hor t xs k) := rfl
      generalize nthX xs k = x at *
      obtain ⟨ox, nx, ws⟩ := x
      generalize hor t xs k = h at *
      simp only at q0 q1 q2
      have cS : wr.cell? ⟨w.heap.size, 2, none⟩ = some (.slice (some ⟨b, off, none⟩) len xc) := slab_cell xb
      have HB2 : Hid (Below W0.heap.size W0 wr) := hbl
      clear xb
      cases ox with
      | true =>
        go_wp2
        go_roundw
        case rel => exact ⟨k + 1, by omega, by rw [HS.out]; first | rfl | (simp; omega), by go_num, HB2.out⟩
        case measure => simp [intOf]; omega
      | false =>
        go_wp2
        go_roundw
        case rel => exact ⟨k + 1, by omega, by rw [HS.out]; rfl, by go_num, HB2.out⟩
        case measure => simp [intOf]; omega
    · obtain rfl : k = len := by omega
      have cS : wr.cell? ⟨w.heap.size, 2, none⟩ = some (.slice xa k xc) := slab_cell xb
      clear xb
      go_wp2
      go_ret
      exact ⟨rfl, hB⟩
set_option maxRecDepth 100000 in
set_option maxHeartbeats 2000000 in
theorem implHorizon_any (t : Int) (va xa : Option Addr) (vc xc : Nat) (vs : List TV) (xs : List TX) (w : World) (hv : RowV w va vs) (hx : RowX w xa xs) (lv : vs.length ≤ 1048576) (lx : xs.length ≤ 1048576) (hz : ∀ i, i < xs.length → SmallX (nthX xs i)) :
    Calls Try.prog 25 #[BW t (.slice va vs.length vc) (.slice xa xs.length xc)] w fun e w' => e = .returned (.tuple #[.int .i64 (horR t vs xs), .int .i64 (horC t vs xs)]) ∧ Below w.heap.size w w' := by
  have H : Hid (RowV w va vs ∧ RowX w xa xs) := ⟨hv, hx⟩
  have HZ : Hid (∀ i, i < xs.length → SmallX (nthX xs i)) := hz
  clear hv hx hz
  have B0 : Below w.heap.size w (w.alloc (.cells #[.int .i64 t, .slice va vs.length vc, .slice xa xs.length xc] 25)) := (Below.refl _ _).alloc (Nat.le_refl _) _
  have X0 : Hid (BoxT w.heap.size t (.slice va vs.length vc) (.slice xa xs.length xc) (w.alloc (.cells #[.int .i64 t, .slice va vs.length vc, .slice xa xs.length xc] 25))) := BoxT.new 25
  go_enter Try.func25, Try.ntmps25
  go_wp2_with fail
  refine (implBaseOK_any t va xa vc xc vs xs _ (H.out.1.below B0) (H.out.2.below B0) lv HZ.out).mono ?_
  rintro r w1 ⟨rfl, b1⟩
  have B1 := B0.trans (b1.mono B0.size)
  obtain ⟨y0, y1, y2, _⟩ := X0.out.below b1
  clear B0 X0 b1
  cases hok : asB (BaseP t vs xs) with
  | false =>
    have HF : Hid (asB (BaseP t vs xs) = false) := hok
    clear hok y0 y1 y2
    go_wp2
    exact bodyPost_ret (v := .tuple #[.int .i64 0, .int .i64 1]) (by go_simp; simp [results, Try.results25, go_sem]) rfl ⟨by unfold horR horC; rw [HF.out]; rfl, B1⟩
  | true =>
    have HF : Hid (asB (BaseP t vs xs) = true) := hok
    clear hok
    go_wp2_with fail
    refine (leastSnap_any t _ xa xc xs w1 (H.out.2.below B1) lx).mono ?_
    rintro r w2 ⟨rfl, b2⟩
    have B2 := below_step B1 (Nat.le_refl _) b2
    clear b2 y0 y1 y2
    generalize hh : hor t xs xs.length = r at *
    have HH : Hid (hor t xs xs.length = r) := hh
    clear hh
    go_wp2
    exact bodyPost_ret (v := .tuple #[.int .i64 r, .int .i64 0]) (by go_simp; simp [results, Try.results25, go_sem]) rfl ⟨by unfold horR horC; rw [HF.out, ← HH.out]; rfl, B2⟩
set_option maxRecDepth 100000 in
set_option maxHeartbeats 2000000 in
theorem specHorizon_any (t : Int) (va xa : Option Addr) (vc xc : Nat) (vs : List TV) (xs : List TX) (w : World) (hv : RowV w va vs) (hx : RowX w xa xs) (lv : vs.length ≤ 1048576) (lx : xs.length ≤ 1048576) (hz : ∀ i, i < xs.length → SmallX (nthX xs i)) :
    Calls Try.prog 24 #[BW t (.slice va vs.length vc) (.slice xa xs.length xc)] w fun e w' => e = .returned (.tuple #[.int .i64 (horR t vs xs), .int .i64 (horC t vs xs)]) ∧ Below w.heap.size w w' := by
  have H : Hid (RowV w va vs ∧ RowX w xa xs) := ⟨hv, hx⟩
  have HZ : Hid (∀ i, i < xs.length → SmallX (nthX xs i)) := hz
  clear hv hx hz
  have B0 : Below w.heap.size w (w.alloc (.cells #[.int .i64 t, .slice va vs.length vc, .slice xa xs.length xc] 25)) := (Below.refl _ _).alloc (Nat.le_refl _) _
  have X0 : Hid (BoxT w.heap.size t (.slice va vs.length vc) (.slice xa xs.length xc) (w.alloc (.cells #[.int .i64 t, .slice va vs.length vc, .slice xa xs.length xc] 25))) := BoxT.new 25
  go_enter Try.func24, Try.ntmps24
  go_wp2_with fail
  refine (specBaseOK_any t va xa vc xc vs xs _ (H.out.1.below B0) (H.out.2.below B0) lv HZ.out).mono ?_
  rintro r w1 ⟨rfl, b1⟩
  have B1 := B0.trans (b1.mono B0.size)
  obtain ⟨y0, y1, y2, _⟩ := X0.out.below b1
  clear B0 X0 b1
  cases hok : asB (BaseP t vs xs) with
  | false =>
    have HF : Hid (asB (BaseP t vs xs) = false) := hok
    clear hok y0 y1 y2
    go_wp2
    exact bodyPost_ret (v := .tuple #[.int .i64 0, .int .i64 1]) (by go_simp; simp [results, Try.results24, go_sem]) rfl ⟨by unfold horR horC; rw [HF.out]; rfl, B1⟩
  | true =>
    have HF : Hid (asB (BaseP t vs xs) = true) := hok
    clear hok
    go_wp2_with fail
    refine (l07Horizon_any t _ xa xc xs w1 (H.out.2.below B1) lx).mono ?_
    rintro r w2 ⟨rfl, b2⟩
    have B2 := below_step B1 (Nat.le_refl _) b2
    clear b2 y0 y1 y2
    generalize hh : hor t xs xs.length = r at *
    have HH : Hid (hor t xs xs.length = r) := hh
    clear hh
    go_wp2
    exact bodyPost_ret (v := .tuple #[.int .i64 r, .int .i64 0]) (by go_simp; simp [results, Try.results24, go_sem]) rfl ⟨by unfold horR horC; rw [HF.out, ← HH.out]; rfl, B2⟩
set_option maxRecDepth 100000 in
set_option maxHeartbeats 4000000 in
theorem lawHorizon (t : Int) (va xa : Option Addr) (vc xc : Nat) (vs : List TV) (xs : List TX) (w : World) (hv : RowV w va vs) (hx : RowX w xa xs) (lv : vs.length ≤ maxLen) (lx : xs.length ≤ maxLen) :
    Calls Try.prog 7 #[BW t (.slice va vs.length vc) (.slice xa xs.length xc)] w fun r w' => r = .returned (.bool true) ∧ Below w.heap.size w w' := by
  have H : Hid (RowV w va vs ∧ RowX w xa xs) := ⟨hv, hx⟩
  have M : Hid (vs.length ≤ maxLen ∧ xs.length ≤ maxLen) := ⟨lv, lx⟩
  clear hv hx lv lx
  have B0 : Below w.heap.size w (w.alloc (.cells #[.int .i64 t, .slice va vs.length vc, .slice xa xs.length xc] 33)) := (Below.refl _ _).alloc (Nat.le_refl _) _
  have X0 : Hid (BoxT w.heap.size t (.slice va vs.length vc) (.slice xa xs.length xc) (w.alloc (.cells #[.int .i64 t, .slice va vs.length vc, .slice xa xs.length xc] 33))) := BoxT.new 33
  go_enter Try.func7, Try.ntmps7
  go_wp2_with fail
  refine (szB_any t va xa vc xc vs xs 1048576 _ (H.out.1.below B0) (H.out.2.below B0) M.out.1 M.out.2 (by omega) (by omega)).mono ?_
  rintro r w1 ⟨x, rfl, x0, x1, x2, b1⟩
  have B1 := B0.trans (b1.mono B0.size)
  have X1 := X0.out.below b1
  clear B0 X0 b1
  by_cases hx : x < 0
  · clear x2 X1
    go_wp2
    go_ret
    exact ⟨rfl, B1⟩
  have L1 : Hid (vs.length ≤ 1048576 ∧ ∀ i, i < vs.length → SmallV (nthV vs i)) := (x2 (by omega)).1
  have L2 : Hid (xs.length ≤ 1048576 ∧ ∀ i, i < xs.length → SmallX (nthX xs i)) := (x2 (by omega)).2
  clear x2
  have Y1 : Hid (BoxT _ _ _ _ w1) := X1
  obtain ⟨y0, y1, y2, _⟩ := X1
  go_wp2_with fail
  refine (toB_any t va xa vc xc vs xs w1 (H.out.1.below B1) (H.out.2.below B1) L1.out.1 L2.out.1 L2.out.2).mono ?_
  rintro r w2 ⟨_, rfl, ⟨h1, h2, rfl, S1, S2⟩, b2⟩
  have B2 := B1.trans (b2.mono B1.size)
  have Y2 : Hid (BoxT _ _ _ _ w2) := Y1.out.below b2
  have KS : Hid (RowV w2 (some ⟨h1, 0, none⟩) vs ∧ RowX w2 (some ⟨h2, 0, none⟩) xs) := ⟨S1.row L1.out.2, S2.row L2.out.2⟩
  clear S1 S2 y0 y1 y2 B1 b2 Y1
  go_wp2_with fail
  refine (specHorizon_any t _ _ _ _ vs xs w2 KS.out.1 KS.out.2 L1.out.1 L2.out.1 L2.out.2).mono ?_
  rintro r w3 ⟨rfl, b3⟩
  have B3 := B2.trans (b3.mono B2.size)
  have X3 := Y2.out.below b3
  have Y3 : Hid (BoxT _ _ _ _ w3) := X3
  obtain ⟨y0, y1, y2, _⟩ := X3
  clear KS B2 b3 Y2
  go_wp2_with fail
  refine (toB_any t va xa vc xc vs xs w3 (H.out.1.below B3) (H.out.2.below B3) L1.out.1 L2.out.1 L2.out.2).mono ?_
  rintro r w4 ⟨_, rfl, ⟨g1, g2, rfl, S1, S2⟩, b4⟩
  have B4 := B3.trans (b4.mono B3.size)
  have A4 : Below w4.heap.size w4 (w4.alloc (.cells #[.int .i64 t, fullS g1 vs.length, fullS g2 xs.length] 25)) := (Below.refl _ _).alloc (Nat.le_refl _) _
  have B5 := B4.trans (A4.mono B4.size)
  have Y5 : Hid (BoxT _ _ _ _ (w4.alloc (.cells #[.int .i64 t, fullS g1 vs.length, fullS g2 xs.length] 25))) := (Y3.out.below b4).below A4
  have Z5 : Hid (BoxT w4.heap.size t (fullS g1 vs.length) (fullS g2 xs.length) (w4.alloc (.cells #[.int .i64 t, fullS g1 vs.length, fullS g2 xs.length] 25))) := BoxT.new 25
  have KS : Hid (RowV (w4.alloc (.cells #[.int .i64 t, fullS g1 vs.length, fullS g2 xs.length] 25)) (some ⟨g1, 0, none⟩) vs ∧ RowX (w4.alloc (.cells #[.int .i64 t, fullS g1 vs.length, fullS g2 xs.length] 25)) (some ⟨g2, 0, none⟩) xs) := ⟨(S1.row L1.out.2).below A4, (S2.row L2.out.2).below A4⟩
  clear S1 S2 y0 y1 y2 B3 b4 Y3 A4 B4
  go_wp2_with fail
  refine (implHorizon_any t _ _ _ _ vs xs _ KS.out.1 KS.out.2 L1.out.1 L2.out.1 L2.out.2).mono ?_
  rintro r w6 ⟨rfl, b6⟩
  have B6 := B5.trans (b6.mono B5.size)
  have hL : TwoB w w.heap.size w4.heap.size t va xa vc xc g1 g2 vs xs w6.drew :=
    (show TwoB w w.heap.size w4.heap.size t va xa vc xc g1 g2 vs xs w6 from ⟨Y5.out.below b6, Z5.out.below b6, ⟨H.out.1.below B6, H.out.2.below B6⟩, ⟨KS.out.1.below b6, KS.out.2.below b6⟩, B6⟩).keep (Below.refl _ _).drew
  clear Y5 Z5 KS b6 B5 B6
  generalize horR t vs xs = ans1
  generalize horC t vs xs = ans2
  go_wp2_with fail
  go_region_held3 (TwoB w w.heap.size w4.heap.size t va xa vc xc g1 g2 vs xs) (first | exact hL | exact TwoB.keep (by assumption) hb)
    (first | (go_at_call 15; refine (toB_any t va xa vc xc vs xs _ (show TwoB w w.heap.size w4.heap.size t va xa vc xc g1 g2 vs xs _ by assumption).2.2.1.1 (show TwoB w w.heap.size w4.heap.size t va xa vc xc g1 g2 vs xs _ by assumption).2.2.1.2 L1.out.1 L2.out.1 L2.out.2).mono ?_; rintro r wA ⟨_, rfl, ⟨k1, k2, rfl, S1, S2⟩, hb⟩)
           | (go_at_call 10; refine (eqB_same t _ _ _ _ _ _ _ _ vs xs _ (show TwoB w w.heap.size w4.heap.size t va xa vc xc g1 g2 vs xs _ by assumption).2.2.2.1.1 (show TwoB w w.heap.size w4.heap.size t va xa vc xc g1 g2 vs xs _ by assumption).2.2.2.1.2 (S1.row L1.out.2) (S2.row L2.out.2) L1.out.1 L2.out.1 L2.out.2).mono ?_; rintro r wA ⟨rfl, hb⟩))
  rename_i hLL
  have hE := hLL.2.2.2.2
  clear hL hLL
  go_wp2
  go_ret
  exact ⟨rfl, hE⟩
end Go.Proofs.Ytmkagolechjjkaa
