/- The law on WidenRow, walked (stage 11). -/
import Derived.Test.YtffjnhhfplcloaaGreatDoorCrL
import Derived.Test.YtffjnhhfplcloaaGreatDoorWdE
import Derived.Test.YtffjnhhfplcloaaGreatDoorMkB
namespace Go.Proofs.YtffjnhhfplcloaaGreatDoor
open Go.RowKit

/-- A value in a block. -/
abbrev BoxV (b : Nat) (k n : Int) (t : ByteArray) (w : World) : Prop := w.cell? ⟨b, 0, none⟩ = some (.int .i64 k) ∧ w.cell? ⟨b, 1, none⟩ = some (.int .i64 n) ∧ w.cell? ⟨b, 2, none⟩ = some (.string t) ∧ b < w.heap.size
theorem BoxV.below {b : Nat} {k n : Int} {t : ByteArray} {w w' : World} (h : BoxV b k n t w) (hb : Below w.heap.size w w') : BoxV b k n t w' := ⟨(hb.cell (p := ⟨b, 0, none⟩) h.2.2.2).trans h.1, (hb.cell (p := ⟨b, 1, none⟩) h.2.2.2).trans h.2.1, (hb.cell (p := ⟨b, 2, none⟩) h.2.2.2).trans h.2.2.1, Nat.lt_of_lt_of_le h.2.2.2 hb.size⟩
/-- The arguments lie as they lay. -/
abbrev ArgW (w : World) (b y : Nat) (nm : ByteArray) (key : Int) (ca xa : Option Addr) (cc xc : Nat) (cs : List TC) (xs : List TX) (a : Option Addr) (vs : List V3) (k n : Int) (t : ByteArray) (w' : World) : Prop :=
  BoxT b nm (.slice ca cs.length cc) key (.slice xa xs.length xc) w' ∧ BoxV y k n t w' ∧ (RowC w' ca cs ∧ RowX w' xa xs ∧ RowV w' a vs) ∧ Below w.heap.size w w'
theorem ArgW.keep {w : World} {b y : Nat} {nm : ByteArray} {key : Int} {ca xa : Option Addr} {cc xc : Nat} {cs : List TC} {xs : List TX} {a : Option Addr} {vs : List V3} {k n : Int} {t : ByteArray} {w1 w2 : World} (h : ArgW w b y nm key ca xa cc xc cs xs a vs k n t w1) (hb : Below w1.heap.size w1 w2) : ArgW w b y nm key ca xa cc xc cs xs a vs k n t w2 :=
  ⟨h.1.below hb, h.2.1.below hb, ⟨h.2.2.1.1.below hb, h.2.2.1.2.1.below hb, h.2.2.1.2.2.below hb⟩, below_step h.2.2.2 (Nat.le_refl _) hb⟩
/-- What has come in the law till impl is called: arguments, copies, the other answer. -/
abbrev CpyW (A : World → Prop) (hi yb g1 g2 g3 : Nat) (nm : ByteArray) (key : Int) (cs : List TC) (xs : List TX) (vs l : List V3) (ua : Option Addr) (w' : World) : Prop :=
  A w' ∧ BoxT yb nm (fullS g1 cs.length) key (fullS g2 xs.length) w' ∧ ((RowC w' (some ⟨g1, 0, none⟩) cs ∧ RowX w' (some ⟨g2, 0, none⟩) xs) ∧ RowV w' (some ⟨g3, 0, none⟩) vs) ∧ (ShpC w' g1 cs.length ∧ ShpX w' hi g2 xs.length (fun i => (nthX xs i).2.length) ∧ MkV w' g3 vs.length 0 0) ∧ RowV w' ua l
theorem CpyW.keep {A : World → Prop} {hi yb g1 g2 g3 : Nat} {nm : ByteArray} {key : Int} {cs : List TC} {xs : List TX} {vs l : List V3} {ua : Option Addr} {w1 w2 : World} (hA : ∀ w1 w2, A w1 → Below w1.heap.size w1 w2 → A w2) (h : CpyW A hi yb g1 g2 g3 nm key cs xs vs l ua w1) (hb : Below w1.heap.size w1 w2) : CpyW A hi yb g1 g2 g3 nm key cs xs vs l ua w2 :=
  ⟨hA _ _ h.1 hb, h.2.1.below hb, ⟨⟨h.2.2.1.1.1.below hb, h.2.2.1.1.2.below hb⟩, h.2.2.1.2.below hb⟩, ⟨h.2.2.2.1.1.below hb, h.2.2.2.1.2.1.below hb, h.2.2.2.1.2.2.below hb⟩, h.2.2.2.2.below hb⟩
/-- And impl's answer. -/
abbrev AnsW (C : World → Prop) (B : Nat) (l : List V3) (ia : Option Addr) (ic : Nat) (wA w' : World) : Prop := C w' ∧ OwnV w' B (.slice ia l.length ic) l ∧ Below wA.heap.size wA w'
theorem AnsW.keep {C : World → Prop} {B : Nat} {l : List V3} {ia : Option Addr} {ic : Nat} {wA w1 w2 : World} (hC : ∀ w1 w2, C w1 → Below w1.heap.size w1 w2 → C w2) (h : AnsW C B l ia ic wA w1) (hb : Below w1.heap.size w1 w2) : AnsW C B l ia ic wA w2 :=
  ⟨hC _ _ h.1 hb, h.2.1.below hb, below_step h.2.2 (Nat.le_refl _) hb⟩
/-- Behind the marks: arguments, what is held, and what lay in wA. -/
abbrev EndW (A : World → Prop) (ia : Option Addr) (n : Nat) (wA w' : World) : Prop := A w' ∧ HeldQ ia n w' ∧ Below wA.heap.size wA w'
theorem EndW.keep {A : World → Prop} {ia : Option Addr} {n : Nat} {wA w1 w2 : World} (hA : ∀ w1 w2, A w1 → Below w1.heap.size w1 w2 → A w2) (h : EndW A ia n wA w1) (hb : Below w1.heap.size w1 w2) : EndW A ia n wA w2 :=
  ⟨hA _ _ h.1 hb, h.2.1.below hb, below_step h.2.2 (Nat.le_refl _) hb⟩
set_option maxRecDepth 100000 in
set_option maxHeartbeats 8000000 in
theorem lawWiden (nm : ByteArray) (ca xa : Option Addr) (cc xc : Nat) (cs : List TC) (key : Int) (xs : List TX) (a : Option Addr) (cap : Nat) (vs : List V3) (k n : Int) (t : ByteArray) (w : World) (hg : ErrT w) (hv : RowC w ca cs) (hx : RowX w xa xs) (hw : RowV w a vs) (lv : cs.length ≤ maxLen) (lx : xs.length ≤ maxLen) (ln : nm.size ≤ maxLen) (lw : vs.length ≤ maxLen) (lt : t.size ≤ maxLen) :
    Calls Tryz.prog 10 #[TbV nm (.slice ca cs.length cc) key (.slice xa xs.length xc), .slice a vs.length cap, VV k n t] w fun r w' => r = .returned (.bool true) ∧ Below w.heap.size w w' := by
  have H : Hid (RowC w ca cs ∧ RowX w xa xs ∧ RowV w a vs) := ⟨hv, hx, hw⟩
  have G : Hid (∀ w1, Below w.heap.size w w1 → ErrT w1) := fun w1 b => hg.below b hg.2
  have M : Hid (cs.length ≤ maxLen ∧ xs.length ≤ maxLen ∧ nm.size ≤ maxLen ∧ vs.length ≤ maxLen ∧ t.size ≤ maxLen) := ⟨lv, lx, ln, lw, lt⟩
  clear hv hx hw lv lx ln lw lt hg
  obtain ⟨W0, hW0⟩ : ∃ W0, (w.alloc (.cells #[.string nm, .slice ca cs.length cc, .int .i64 key, .slice xa xs.length xc] 75)).alloc (.cells #[.int .i64 k, .int .i64 n, .string t] 88) = W0 := ⟨_, rfl⟩
  have B0 : Below w.heap.size w W0 := hW0 ▸ ((Below.refl _ _).alloc (Nat.le_refl _) _).alloc (Nat.le_of_lt (by simp)) _
  have XB : Hid (W0.heap[w.heap.size]? = some (.cells #[.string nm, .slice ca cs.length cc, .int .i64 key, .slice xa xs.length xc] 75 (0, 0)) ∧ W0.heap[w.heap.size + 1]? = some (.cells #[.int .i64 k, .int .i64 n, .string t] 88 (0, 0))) := ⟨(hW0 ▸ (heap_old _ _ _ (by simp)).trans (heap_new' _ _ _ rfl) : W0.heap[w.heap.size]? = _), (hW0 ▸ heap_new' _ _ _ (by simp) : W0.heap[w.heap.size + 1]? = _)⟩
  have X0 : ArgW w w.heap.size (w.heap.size + 1) nm key ca xa cc xc cs xs a vs k n t W0 := ⟨⟨slab_cell XB.out.1, slab_cell XB.out.1, slab_cell XB.out.1, slab_cell XB.out.1, slab_lt XB.out.1⟩, ⟨slab_cell XB.out.2, slab_cell XB.out.2, slab_cell XB.out.2, slab_lt XB.out.2⟩, ⟨H.out.1.below B0, H.out.2.1.below B0, H.out.2.2.below B0⟩, B0⟩
  have Y0 : Hid (ArgW w w.heap.size (w.heap.size + 1) nm key ca xa cc xc cs xs a vs k n t W0) := X0
  obtain ⟨⟨y0, y1, y2, y3, _⟩, _, _, _⟩ := X0
  clear XB
  go_enter Tryz.func10, Tryz.ntmps10
  go_wp2_with fail
  refine (szT_any nm ca xa cc xc cs key xs 1048576 _ Y0.out.2.2.1.1 Y0.out.2.2.1.2.1 M.out.2.2.1 M.out.1 M.out.2.1 (by omega) (by omega)).mono ?_
  rintro r w1 ⟨x, rfl, x0, x1, x2, b1⟩
  have Y1 : Hid (ArgW w w.heap.size (w.heap.size + 1) nm key ca xa cc xc cs xs a vs k n t w1) := Y0.out.keep b1
  clear Y0 b1 y0 y1 y2 y3 B0 hW0
  by_cases hx : x < 0
  · clear x2
    have hB := Y1.out.2.2.2
    go_wp2
    go_ret
    exact ⟨rfl, hB⟩
  have LS : Hid (SmallT (nm, cs, key, xs)) := x2 (by omega)
  clear x2
  go_wp2_with fail
  refine (szS_any a cap vs x w1 Y1.out.2.2.1.2.2 M.out.2.2.2.1 (by omega) (by omega)).mono ?_
  rintro r w2 ⟨z, rfl, z0, z1, z2, b2⟩
  have X2 := Y1.out.keep b2
  have Y2 : Hid (ArgW w w.heap.size (w.heap.size + 1) nm key ca xa cc xc cs xs a vs k n t w2) := X2
  clear Y1 b2
  by_cases hz : z < 0
  · clear z2
    have hB := Y2.out.2.2.2
    go_wp2
    go_ret
    exact ⟨rfl, hB⟩
  have LW : Hid (vs.length ≤ 1048576) := by have := z2 (by omega); show _ ≤ _; omega
  clear z2
  obtain ⟨_, ⟨v0, v1, v2, _⟩, _, _⟩ := X2
  go_wp2_with fail
  refine (szValue_any k n z t w2 (by omega) (by omega) M.out.2.2.2.2).mono ?_
  rintro r w3 ⟨rfl, b3⟩
  have Y3 : Hid (ArgW w w.heap.size (w.heap.size + 1) nm key ca xa cc xc cs xs a vs k n t w3) := Y2.out.keep b3
  clear Y2 b3 v0 v1 v2
  have hlo : leftOf z t = -1 ∨ 0 ≤ leftOf z t := by unfold leftOf; split <;> omega
  generalize leftOf z t = lf at *
  by_cases hf : lf < 0
  · have hB := Y3.out.2.2.2
    go_wp2
    go_ret
    exact ⟨rfl, hB⟩
  clear hlo
  have hP := Y3.out.keep (Below.refl _ _).drew
  have LT : Hid (asB (TabP nm cs key xs) = true → 0 < cs.length) := fun h => by
    have h1 := asB_is h
    obtain ⟨_, _, _, h4, h5, _⟩ := h1
    omega
  go_wp2_with fail
  go_region_held3 (ArgW w w.heap.size (w.heap.size + 1) nm key ca xa cc xc cs xs a vs k n t) (first | exact hP | exact ArgW.keep (by assumption) hb)
    (first
    | (go_at_call 37; refine (toT_any nm ca xa cc xc cs key xs _ (show ArgW w w.heap.size (w.heap.size + 1) nm key ca xa cc xc cs xs a vs k n t _ by assumption).2.2.1.1 (show ArgW w w.heap.size (w.heap.size + 1) nm key ca xa cc xc cs xs a vs k n t _ by assumption).2.2.1.2.1 LS.out).mono ?_; rintro r wA ⟨_, rfl, ⟨h1, h2, rfl, ⟨_, S1⟩, _, S2⟩, hb⟩; have KC := And.intro (S1.row LS.out.2.1.2) (S2.row LS.out.2.2.2); clear S1 S2; (try have KV := KV.below hb))
    | (go_at_call 38; refine (toS_row a cap vs _ (show ArgW w w.heap.size (w.heap.size + 1) nm key ca xa cc xc cs xs a vs k n t _ by assumption).2.2.1.2.2 LW.out).mono ?_; rintro r wA ⟨h3, rfl, KV, hb⟩; (try have KC := And.intro (KC.1.below hb) (KC.2.below hb)))
    | (go_at_call 50; refine (toValue_any k n t _).mono ?_; rintro r wA ⟨rfl, hb⟩; (try have KC := And.intro (KC.1.below hb) (KC.2.below hb)); (try have KV := KV.below hb))
    | (go_at_call 49; refine (specWiden_any nm _ _ cs key _ _ vs k n t (asB (TabP nm cs key xs)) _ KC.1 KV LS.out.2.1.1 LW.out (fun w1 b => specTableOK_any nm _ _ _ _ cs key xs w1 (KC.1.below b) (KC.2.below b) (small_max LS.out.1) LS.out.2.1.1 LS.out.2.2.1 LS.out.2.2.2 (Nat.le_refl _) (Nat.le_refl _)) LT.out M.out.2.2.2.2).mono ?_; rintro r wA ⟨us, rfl, OS, hb⟩)
    | fail)
  rename_i hLL
  have A4 := hLL
  clear hP hLL KC KV Y3
  have TX : Hid ((∀ i, i < (wRow (asB (TabP nm cs key xs)) cs vs (k, n, t)).length → (nthV (wRow (asB (TabP nm cs key xs)) cs vs (k, n, t)) i).2.2.size ≤ maxLen) ∧ (wRow (asB (TabP nm cs key xs)) cs vs (k, n, t)).length ≤ 9) := wRow_small H.out.2.2.size M.out.2.2.2.2
  obtain ⟨ua, uc, rfl, UR⟩ := OS.row TX.out.1
  have U4 : Hid (ArgW w w.heap.size (w.heap.size + 1) nm key ca xa cc xc cs xs a vs k n t wA ∧ RowV wA ua (wRow (asB (TabP nm cs key xs)) cs vs (k, n, t))) := ⟨A4, UR⟩
  clear OS UR hb
  obtain ⟨⟨y0, y1, y2, y3, _⟩, _, _, _⟩ := A4
  go_wp2_with fail
  refine (toT_any nm ca xa cc xc cs key xs wA U4.out.1.2.2.1.1 U4.out.1.2.2.1.2.1 LS.out).mono ?_
  rintro r w5 ⟨_, rfl, ⟨g1, g2, rfl, ⟨hg1, S1⟩, ⟨hg2, hg12⟩, S2⟩, b5⟩
  have b5' : Below w5.heap.size w5 (w5.alloc (.cells #[.string nm, fullS g1 cs.length, .int .i64 key, fullS g2 xs.length] 26)) := (Below.refl _ _).alloc (Nat.le_refl _) _
  have Y5 : Hid (ArgW w w.heap.size (w.heap.size + 1) nm key ca xa cc xc cs xs a vs k n t (w5.alloc (.cells #[.string nm, fullS g1 cs.length, .int .i64 key, fullS g2 xs.length] 26)) ∧ RowV (w5.alloc (.cells #[.string nm, fullS g1 cs.length, .int .i64 key, fullS g2 xs.length] 26)) ua (wRow (asB (TabP nm cs key xs)) cs vs (k, n, t))) := ⟨(U4.out.1.keep b5).keep b5', (U4.out.2.below b5).below b5'⟩
  have K5 : Hid (((RowC (w5.alloc (.cells #[.string nm, fullS g1 cs.length, .int .i64 key, fullS g2 xs.length] 26)) (some ⟨g1, 0, none⟩) cs ∧ RowX (w5.alloc (.cells #[.string nm, fullS g1 cs.length, .int .i64 key, fullS g2 xs.length] 26)) (some ⟨g2, 0, none⟩) xs)) ∧ (ShpC (w5.alloc (.cells #[.string nm, fullS g1 cs.length, .int .i64 key, fullS g2 xs.length] 26)) g1 cs.length ∧ ShpX (w5.alloc (.cells #[.string nm, fullS g1 cs.length, .int .i64 key, fullS g2 xs.length] 26)) w5.heap.size g2 xs.length (fun i => (nthX xs i).2.length))) := ⟨⟨(S1.row LS.out.2.1.2).below b5', (S2.row LS.out.2.2.2).below b5'⟩, S1.shp.below b5', S2.shp.below b5'⟩
  have Z5 : Hid (BoxT w5.heap.size nm (fullS g1 cs.length) key (fullS g2 xs.length) (w5.alloc (.cells #[.string nm, fullS g1 cs.length, .int .i64 key, fullS g2 xs.length] 26))) := BoxT.new 26
  have L5 : Hid (wA.heap.size ≤ g1 ∧ g1 < g2 ∧ wA.heap.size ≤ w5.heap.size ∧ w.heap.size + 1 < wA.heap.size) := ⟨hg1, hg12, b5.size, U4.out.1.2.1.2.2.2⟩
  have BA5 : Hid (Below wA.heap.size wA (w5.alloc (.cells #[.string nm, fullS g1 cs.length, .int .i64 key, fullS g2 xs.length] 26))) := b5.trans (b5'.mono b5.size)
  clear S1 S2 y0 y1 y2 y3 b5 b5' hg1 hg2 hg12
  go_wp2_with fail
  refine (toS_any a cap vs _ Y5.out.1.2.2.1.2.2 LW.out).mono ?_
  rintro r w6 ⟨g3, rfl, hg3, S3, b6⟩
  have L6 : Hid (w5.heap.size < g3 ∧ g3 < w6.heap.size) := ⟨by simp at hg3; omega, S3.lt⟩
  have P6 : CpyW (ArgW w w.heap.size (w.heap.size + 1) nm key ca xa cc xc cs xs a vs k n t) w5.heap.size w5.heap.size g1 g2 g3 nm key cs xs vs (wRow (asB (TabP nm cs key xs)) cs vs (k, n, t)) ua w6.drew :=
    (show CpyW (ArgW w w.heap.size (w.heap.size + 1) nm key ca xa cc xc cs xs a vs k n t) w5.heap.size w5.heap.size g1 g2 g3 nm key cs xs vs (wRow (asB (TabP nm cs key xs)) cs vs (k, n, t)) ua w6 from ⟨Y5.out.1.keep b6, Z5.out.below b6, ⟨⟨K5.out.1.1.below b6, K5.out.1.2.below b6⟩, S3.row H.out.2.2.size⟩, ⟨K5.out.2.1.below b6, K5.out.2.2.below b6, S3.shp⟩, Y5.out.2.below b6⟩).keep (fun _ _ h hb => h.keep hb) (Below.refl _ _).drew
  have B6 : Hid (w6.heap.size ≤ w6.drew.heap.size) := Nat.le_refl _
  have BA6 : Hid (Below wA.heap.size wA w6) := (BA5.out.trans (b6.mono BA5.out.size))
  clear Y5 K5 Z5 S3 hg3 b6 BA5
  go_wp2_with fail
  go_region_held3 (CpyW (ArgW w w.heap.size (w.heap.size + 1) nm key ca xa cc xc cs xs a vs k n t) w5.heap.size w5.heap.size g1 g2 g3 nm key cs xs vs (wRow (asB (TabP nm cs key xs)) cs vs (k, n, t)) ua) (first | exact P6 | exact CpyW.keep (fun _ _ h hb => h.keep hb) (by assumption) hb)
    (first
    | (go_at_call 50; refine (toValue_any k n t _).mono ?_; rintro r wB ⟨rfl, hb⟩; have hs6 : w6.heap.size ≤ wB.heap.size := hb.size)
    | (go_at_call 26; refine (implWiden_any nm _ _ cs key _ g3 vs k n t (asB (TabP nm cs key xs)) _ (show CpyW (ArgW w w.heap.size (w.heap.size + 1) nm key ca xa cc xc cs xs a vs k n t) w5.heap.size w5.heap.size g1 g2 g3 nm key cs xs vs (wRow (asB (TabP nm cs key xs)) cs vs (k, n, t)) ua _ by assumption).2.2.1.1.1 (show CpyW (ArgW w w.heap.size (w.heap.size + 1) nm key ca xa cc xc cs xs a vs k n t) w5.heap.size w5.heap.size g1 g2 g3 nm key cs xs vs (wRow (asB (TabP nm cs key xs)) cs vs (k, n, t)) ua _ by assumption).2.2.1.2 LS.out.2.1.1 LW.out (fun w1 b => implTableOK_any nm _ _ _ _ cs key xs w1 ((show CpyW (ArgW w w.heap.size (w.heap.size + 1) nm key ca xa cc xc cs xs a vs k n t) w5.heap.size w5.heap.size g1 g2 g3 nm key cs xs vs (wRow (asB (TabP nm cs key xs)) cs vs (k, n, t)) ua _ by assumption).2.2.1.1.1.below b) ((show CpyW (ArgW w w.heap.size (w.heap.size + 1) nm key ca xa cc xc cs xs a vs k n t) w5.heap.size w5.heap.size g1 g2 g3 nm key cs xs vs (wRow (asB (TabP nm cs key xs)) cs vs (k, n, t)) ua _ by assumption).2.2.1.1.2.below b) (small_max LS.out.1) LS.out.2.1.1 LS.out.2.2.1 LS.out.2.2.2 (Nat.le_refl _) (Nat.le_refl _)) LT.out M.out.2.2.2.2 (G.out _ (show CpyW (ArgW w w.heap.size (w.heap.size + 1) nm key ca xa cc xc cs xs a vs k n t) w5.heap.size w5.heap.size g1 g2 g3 nm key cs xs vs (wRow (asB (TabP nm cs key xs)) cs vs (k, n, t)) ua _ by assumption).1.2.2.2)).mono ?_; rintro r wC ⟨ui, rfl, OI, hb⟩)
    | fail)
  rename_i hLL
  have O7 : OwnV wC w6.heap.size ui (wRow (asB (TabP nm cs key xs)) cs vs (k, n, t)) := own_mono OI hs6
  have A7 := hLL
  have hbB := (show Below w6.drew.heap.size w6.drew wB by assumption)
  have BA7 : Below wA.heap.size wA wC := below_step (below_step BA6.out.drew (Nat.le_refl _) hbB) (Nat.le_refl _) hb
  have LL6 : w6.heap.size ≤ wC.heap.size := Nat.le_trans hs6 hb.size
  clear OI hbB hb hLL P6 BA6 hs6 B6
  have HI : Hid (∀ w1, RowC w1 (some ⟨g1, 0, none⟩) cs → True) := fun _ _ => trivial
  obtain ⟨ia, ic, rfl, _⟩ := O7.row TX.out.1
  have IW : Hid (∀ (w1 : World) (h1 h2 h3 : Nat), ErrT w1 → (RowC w1 (some ⟨h1, 0, none⟩) cs ∧ RowX w1 (some ⟨h2, 0, none⟩) xs) → RowV w1 (some ⟨h3, 0, none⟩) vs → Calls Tryz.prog 26 #[TbV nm (fullS h1 cs.length) key (fullS h2 xs.length), .slice (some ⟨h3, 0, none⟩) vs.length vs.length, VV k n t] w1 (RetW (asB (TabP nm cs key xs)) cs vs (k, n, t) w1)) := fun w1 h1 h2 h3 hE hK hR =>
    implWiden_any nm _ _ cs key _ h3 vs k n t (asB (TabP nm cs key xs)) w1 hK.1 hR LS.out.2.1.1 LW.out (fun w2 b => implTableOK_any nm _ _ _ _ cs key xs w2 (hK.1.below b) (hK.2.below b) (small_max LS.out.1) LS.out.2.1.1 LS.out.2.2.1 LS.out.2.2.2 (Nat.le_refl _) (Nat.le_refl _)) LT.out M.out.2.2.2.2 hE
  unfold RetW at IW
  generalize wRow (asB (TabP nm cs key xs)) cs vs (k, n, t) = l at *
  generalize wCode (asB (TabP nm cs key xs)) cs vs (k, n, t) = cod at *
  have Y7 : Hid (AnsW (CpyW (ArgW w w.heap.size (w.heap.size + 1) nm key ca xa cc xc cs xs a vs k n t) w5.heap.size w5.heap.size g1 g2 g3 nm key cs xs vs l ua) w6.heap.size l ia ic wA wC) := ⟨A7, O7, BA7⟩
  clear A7 O7 BA7 HI LT
  obtain ⟨ja, jc, ej, IR⟩ := Y7.out.2.1.row TX.out.1
  cases ej
  go_wp2_with fail
  refine (eqS_same ia ua ic uc l wC IR Y7.out.1.2.2.2.2 (by have := TX.out.2; omega)).mono ?_
  rintro r w8 ⟨rfl, b8⟩
  have Y8 : Hid (AnsW (CpyW (ArgW w w.heap.size (w.heap.size + 1) nm key ca xa cc xc cs xs a vs k n t) w5.heap.size w5.heap.size g1 g2 g3 nm key cs xs vs l ua) w6.heap.size l ia ic wA w8) := Y7.out.keep (fun _ _ h hb => h.keep (fun _ _ h hb => h.keep hb) hb) b8
  have L8 : Hid (w6.heap.size ≤ w8.heap.size) := Nat.le_trans LL6 b8.size
  clear Y7 b8 IR LL6
  have P8 : AnsW (CpyW (ArgW w w.heap.size (w.heap.size + 1) nm key ca xa cc xc cs xs a vs k n t) w5.heap.size w5.heap.size g1 g2 g3 nm key cs xs vs l ua) w6.heap.size l ia ic wA w8.drew := Y8.out.keep (fun _ _ h hb => h.keep (fun _ _ h hb => h.keep hb) hb) (Below.refl _ _).drew
  go_wp2_with fail
  go_region_held3 (AnsW (CpyW (ArgW w w.heap.size (w.heap.size + 1) nm key ca xa cc xc cs xs a vs k n t) w5.heap.size w5.heap.size g1 g2 g3 nm key cs xs vs l ua) w6.heap.size l ia ic wA) (first | exact P8 | exact AnsW.keep (fun _ _ h hb => h.keep (fun _ _ h hb => h.keep hb) hb) (by assumption) hb)
    (first
    | (go_at_call 37; refine (toT_any nm ca xa cc xc cs key xs _ (show AnsW (CpyW (ArgW w w.heap.size (w.heap.size + 1) nm key ca xa cc xc cs xs a vs k n t) w5.heap.size w5.heap.size g1 g2 g3 nm key cs xs vs l ua) w6.heap.size l ia ic wA _ by assumption).1.1.2.2.1.1 (show AnsW (CpyW (ArgW w w.heap.size (w.heap.size + 1) nm key ca xa cc xc cs xs a vs k n t) w5.heap.size w5.heap.size g1 g2 g3 nm key cs xs vs l ua) w6.heap.size l ia ic wA _ by assumption).1.1.2.2.1.2.1 LS.out).mono ?_; rintro r wD ⟨_, rfl, ⟨k1, k2, rfl, ⟨_, S1⟩, _, S2⟩, hb⟩)
    | (go_at_call 39; refine (eqT_same nm _ _ _ _ _ _ _ _ cs key xs _ (show AnsW (CpyW (ArgW w w.heap.size (w.heap.size + 1) nm key ca xa cc xc cs xs a vs k n t) w5.heap.size w5.heap.size g1 g2 g3 nm key cs xs vs l ua) w6.heap.size l ia ic wA _ by assumption).1.2.2.1.1.1 (show AnsW (CpyW (ArgW w w.heap.size (w.heap.size + 1) nm key ca xa cc xc cs xs a vs k n t) w5.heap.size w5.heap.size g1 g2 g3 nm key cs xs vs l ua) w6.heap.size l ia ic wA _ by assumption).1.2.2.1.1.2 (S1.row LS.out.2.1.2) (S2.row LS.out.2.2.2) LS.out).mono ?_; rintro r wE ⟨rfl, hb⟩)
    | fail)
  rename_i hLL
  have Y9 : Hid (AnsW (CpyW (ArgW w w.heap.size (w.heap.size + 1) nm key ca xa cc xc cs xs a vs k n t) w5.heap.size w5.heap.size g1 g2 g3 nm key cs xs vs l ua) w6.heap.size l ia ic wA wE) := hLL
  have L9 : Hid (w6.heap.size ≤ wE.heap.size) := by
    have e1 := L8.out
    have e2 := hb.size
    have e3 := (show Below w8.drew.heap.size w8.drew wD by assumption).size
    have e4 : w8.heap.size ≤ wD.heap.size := e3
    show _ ≤ _
    omega
  clear hLL P8 Y8 L8 S1 S2 hb
  go_wp2_with fail
  refine (toS_row a cap vs wE Y9.out.1.1.2.2.1.2.2 LW.out).mono ?_
  rintro r w9 ⟨h4, rfl, R4, b9⟩
  have Y10 : Hid (AnsW (CpyW (ArgW w w.heap.size (w.heap.size + 1) nm key ca xa cc xc cs xs a vs k n t) w5.heap.size w5.heap.size g1 g2 g3 nm key cs xs vs l ua) w6.heap.size l ia ic wA w9) := Y9.out.keep (fun _ _ h hb => h.keep (fun _ _ h hb => h.keep hb) hb) b9
  have L10 : Hid (w6.heap.size ≤ w9.heap.size) := Nat.le_trans L9.out b9.size
  clear Y9 L9 b9
  go_wp2_with fail
  refine (eqS_same _ _ _ _ vs w9 Y10.out.1.2.2.1.2 R4 LW.out).mono ?_
  rintro r w10 ⟨rfl, b10⟩
  have X11 : AnsW (CpyW (ArgW w w.heap.size (w.heap.size + 1) nm key ca xa cc xc cs xs a vs k n t) w5.heap.size w5.heap.size g1 g2 g3 nm key cs xs vs l ua) w6.heap.size l ia ic wA w10 := Y10.out.keep (fun _ _ h hb => h.keep (fun _ _ h hb => h.keep hb) hb) b10
  have Y11 : Hid (AnsW (CpyW (ArgW w w.heap.size (w.heap.size + 1) nm key ca xa cc xc cs xs a vs k n t) w5.heap.size w5.heap.size g1 g2 g3 nm key cs xs vs l ua) w6.heap.size l ia ic wA w10) := X11
  have L11 : Hid (w6.heap.size ≤ w10.heap.size) := Nat.le_trans L10.out b10.size
  clear Y10 L10 b10 R4
  obtain ⟨⟨_, ⟨y0, y1, y2, y3, _⟩, _, _⟩, _, _⟩ := X11
  go_wp2_with fail
  refine (markT_any wA.heap.size w5.heap.size nm g1 g2 cs.length xs.length (fun i => (nthX xs i).2.length) key w10 Y11.out.1.2.2.2.1.1 Y11.out.1.2.2.2.1.2.1 L5.out.1 L5.out.2.1 (fun i hi => (LS.out.2.2.2 i hi).2) LS.out.2.1.1 LS.out.2.2.1).mono ?_
  rintro r w11 ⟨q, rfl, q0, q1, K11⟩
  have M11 : MkV w11 g3 vs.length 0 0 := Y11.out.1.2.2.2.1.2.2.kept K11 (fun h => by have := L6.out; have := h.2; omega)
  clear y0 y1 y2 y3
  go_wp2_with fail
  refine (markV_any g3 vs.length vs.length vs.length q 0 w11 M11 (Nat.le_refl _) (by omega) (by omega) (by have := LW.out; omega)).mono ?_
  rintro r w12 ⟨rfl, _, K12⟩
  have O12 : OwnV w12 w6.heap.size (.slice ia l.length ic) l := (Y11.out.2.1.block (fun g' hg' hB' => K11.block g' hg' (fun h => by have := L6.out; have := h.2; omega))).block (fun g' hg' hB' => K12.block g' hg' (fun h => by have h' : g' = g3 := h; have := L6.out; omega))
  have B11 : Below wA.heap.size w10 w11 := K11.below Y11.out.2.2.size (fun x hx => hx.1)
  have B12 : Below wA.heap.size w11 w12 := K12.below (Nat.le_trans Y11.out.2.2.size K11.size) (fun x hx => by have h' : x = g3 := hx; have := L6.out; have := L5.out; omega)
  have BA12 : Below wA.heap.size wA w12 := (Y11.out.2.2.trans B11).trans B12
  have Y12 : Hid (OwnV w12 w6.heap.size (.slice ia l.length ic) l ∧ Below wA.heap.size wA w12 ∧ w6.heap.size ≤ w12.heap.size) := ⟨O12, BA12, Nat.le_trans L11.out (Nat.le_trans K11.size K12.size)⟩
  have hq0 : ¬ q + 3 * (vs.length : Int) < 0 := by omega
  clear K11 K12 M11 O12 B11 B12 BA12 Y11 L11
  generalize q + 3 * (vs.length : Int) = q9 at *
  obtain ⟨ja, jc, ej, IR⟩ := Y12.out.1.row TX.out.1
  cases ej
  go_wp2_with fail
  refine (eqS_same ia ua ic uc l w12 IR (U4.out.2.below Y12.out.2.1) (by have := TX.out.2; omega)).mono ?_
  rintro r w13 ⟨rfl, b13⟩
  have Y13 : Hid (OwnV w13 w6.heap.size (.slice ia l.length ic) l ∧ Below wA.heap.size wA w13 ∧ w6.heap.size ≤ w13.heap.size) := ⟨Y12.out.1.below b13, below_step Y12.out.2.1 (Nat.le_refl _) b13, Nat.le_trans Y12.out.2.2 b13.size⟩
  clear Y12 b13 IR
  go_wp2_with fail
  refine (markO_any ia ic w6.heap.size l w13 Y13.out.1 TX.out.2).mono ?_
  rintro r w14 ⟨rfl, HQ14, K14⟩
  have BA14 : Below wA.heap.size wA w14 := Y13.out.2.1.trans (K14.below Y13.out.2.1.size (fun x hx => by have h' : w6.heap.size ≤ x := hx; have := L6.out; have := L5.out; omega))
  have Y14 : Hid (EndW (ArgW w w.heap.size (w.heap.size + 1) nm key ca xa cc xc cs xs a vs k n t) ia l.length wA w14) := ⟨U4.out.1.keep BA14, HQ14, BA14⟩
  clear Y13 K14 HQ14 BA14
  have hl3 : ¬ 1 + 3 * (l.length : Int) < 0 := by omega
  go_wp2_with fail
  refine (heldO_any ia ic l.length w14 Y14.out.2.1 TX.out.2).mono ?_
  rintro r w15 ⟨rfl, b15⟩
  have Y15 : Hid (EndW (ArgW w w.heap.size (w.heap.size + 1) nm key ca xa cc xc cs xs a vs k n t) ia l.length wA w15) := Y14.out.keep (fun _ _ h hb => h.keep hb) b15
  clear Y14 b15
  have P15 : EndW (ArgW w w.heap.size (w.heap.size + 1) nm key ca xa cc xc cs xs a vs k n t) ia l.length wA w15.drew := Y15.out.keep (fun _ _ h hb => h.keep hb) (Below.refl _ _).drew
  go_wp2_with fail
  go_region_held3 (EndW (ArgW w w.heap.size (w.heap.size + 1) nm key ca xa cc xc cs xs a vs k n t) ia l.length wA) (first | exact P15 | exact EndW.keep (fun _ _ h hb => h.keep hb) (by assumption) hb)
    (first
    | (go_at_call 37; refine (toT_any nm ca xa cc xc cs key xs _ (show EndW (ArgW w w.heap.size (w.heap.size + 1) nm key ca xa cc xc cs xs a vs k n t) ia l.length wA _ by assumption).1.2.2.1.1 (show EndW (ArgW w w.heap.size (w.heap.size + 1) nm key ca xa cc xc cs xs a vs k n t) ia l.length wA _ by assumption).1.2.2.1.2.1 LS.out).mono ?_; rintro r wF ⟨_, rfl, ⟨h1, h2, rfl, ⟨_, S1⟩, _, S2⟩, hb⟩; have KC := And.intro (S1.row LS.out.2.1.2) (S2.row LS.out.2.2.2); clear S1 S2; (try have KV := KV.below hb))
    | (go_at_call 38; refine (toS_row a cap vs _ (show EndW (ArgW w w.heap.size (w.heap.size + 1) nm key ca xa cc xc cs xs a vs k n t) ia l.length wA _ by assumption).1.2.2.1.2.2 LW.out).mono ?_; rintro r wF ⟨h3, rfl, KV, hb⟩; (try have KC := And.intro (KC.1.below hb) (KC.2.below hb)))
    | (go_at_call 50; refine (toValue_any k n t _).mono ?_; rintro r wF ⟨rfl, hb⟩; (try have KC := And.intro (KC.1.below hb) (KC.2.below hb)); (try have KV := KV.below hb))
    | (go_at_call 26; refine (IW.out _ _ _ _ (G.out _ (show EndW (ArgW w w.heap.size (w.heap.size + 1) nm key ca xa cc xc cs xs a vs k n t) ia l.length wA _ by assumption).1.2.2.2) KC KV).mono ?_; rintro r wF ⟨uh, rfl, OH, hb⟩)
    | fail)
  rename_i hLL
  have Y16 : Hid (EndW (ArgW w w.heap.size (w.heap.size + 1) nm key ca xa cc xc cs xs a vs k n t) ia l.length wA wF) := hLL
  clear hLL P15 Y15 hb KC KV
  obtain ⟨ha, hc, rfl, HR2⟩ := OH.row TX.out.1
  clear OH
  go_wp2_with fail
  refine (eqS_same ha ua hc uc l wF HR2 (U4.out.2.below Y16.out.2.2) (by have := TX.out.2; omega)).mono ?_
  rintro r w17 ⟨rfl, b17⟩
  have Y17 : Hid (EndW (ArgW w w.heap.size (w.heap.size + 1) nm key ca xa cc xc cs xs a vs k n t) ia l.length wA w17) := Y16.out.keep (fun _ _ h hb => h.keep hb) b17
  clear Y16 b17 HR2
  go_wp2_with fail
  refine (heldO_any ia ic l.length w17 Y17.out.2.1 TX.out.2).mono ?_
  rintro r w18 ⟨rfl, b18⟩
  have hE : Below w.heap.size w w18 := below_step Y17.out.1.2.2.2 (Nat.le_refl _) b18
  clear Y17 b18
  go_wp2
  go_ret
  exact ⟨rfl, hE⟩
end Go.Proofs.YtffjnhhfplcloaaGreatDoor
