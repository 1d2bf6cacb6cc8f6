/- The law on DiskRead, walked. -/
import Derived.Test.YtgfgaiimigchkaaDoorReadD
namespace Go.Proofs.YtgfgaiimigchkaaDoor
open Go.RowKit

set_option maxRecDepth 100000 in
set_option maxHeartbeats 4000000 in
theorem lawDiskRead (a a' : Option Addr) (c c' : Nat) (ss : List ByteArray) (ps : List P2) (k : Int) (b : Addr) (e0 e2 e3 : TypeId × Value) (w : World) (hs : RowS w a ss) (hp : RowP w a' ps) (hg : Gl4 w b e0 e2 e3) (hls : ss.length ≤ maxLen) (hlp : ps.length ≤ maxLen) :
    Calls Tryd.prog 6 #[DV a ss.length c a' ps.length c', .int .i64 k] w fun e w' => e = .returned (.bool true) ∧ Below w.heap.size w w' := by
  have HS : Hid (RowS w a ss) := hs
  have HP : Hid (RowP w a' ps) := hp
  have HG : Hid (Gl4 w b e0 e2 e3) := hg
  have LS : Hid (ss.length ≤ maxLen) := hls
  have LP : Hid (ps.length ≤ maxLen) := hlp
  clear hs hp hg hls hlp
  have B0 : Below w.heap.size w (w.alloc (.cells #[.slice a ss.length c, .slice a' ps.length c'] 49)) := (Below.refl _ _).alloc (Nat.le_refl _) _
  have X0 : BoxD w.heap.size a ss.length c a' ps.length c' (w.alloc (.cells #[.slice a ss.length c, .slice a' ps.length c'] 49)) := BoxD.new 49
  go_enter Tryd.func6, Tryd.ntmps6
  go_wp2_with fail
  refine (szDisk_any a a' c c' ss ps _ _ (HS.out.below B0) (HP.out.below B0) LS.out LP.out (by omega) (by omega)).mono ?_
  rintro e w1 ⟨x, rfl, x0, x1, x2, hb1⟩
  have B1 := B0.trans (hb1.mono B0.size)
  obtain ⟨y0, y1, y2⟩ := X0.below hb1
  clear B0 X0 hb1
  by_cases hx : x < 0
  · clear x2
    go_wp2
    go_ret
    exact ⟨rfl, B1⟩
  have gS : Hid (ss.length ≤ 1048576) := by have := (x2 (by omega)).1; show _ ≤ _; omega
  have gP : Hid (ps.length ≤ 1048576) := by have := (x2 (by omega)).2; show _ ≤ _; omega
  clear x2
  go_wp2_with fail
  refine (toDisk_any a a' c c' ss ps w1 (HS.out.below B1) (HP.out.below B1) gS.out gP.out).mono ?_
  rintro e w2 ⟨g, g', rfl, RS, RP, hb2⟩
  have B2 := B1.trans (hb2.mono B1.size)
  obtain ⟨y0', y1', y2'⟩ := BoxD.below ⟨y0, y1, y2⟩ hb2
  have KS : Hid (RowS w2 (some ⟨g, 0, none⟩) ss) := RS
  have KP : Hid (RowP w2 (some ⟨g', 0, none⟩) ps) := RP
  clear RS RP y0 y1 y2 B1 hb2
  go_wp2_with fail
  refine (specDiskRead_any _ _ _ _ ss ps k w2 KS.out KP.out gS.out gP.out).mono ?_
  rintro e w3 ⟨rfl, hb3⟩
  have B3 := B2.trans (hb3.mono B2.size)
  obtain ⟨y0, y1, y2⟩ := BoxD.below ⟨y0', y1', y2'⟩ hb3
  clear KS KP y0' y1' y2' B2 hb3
  go_wp2_with fail
  refine (toDisk_any a a' c c' ss ps w3 (HS.out.below B3) (HP.out.below B3) gS.out gP.out).mono ?_
  rintro e w4 ⟨q, q', rfl, RS, RP, hb4⟩
  have B4 := B3.trans (hb4.mono B3.size)
  obtain ⟨y0', y1', y2'⟩ := BoxD.below ⟨y0, y1, y2⟩ hb4
  clear y0 y1 y2 B3 hb4
  have A4 : Below w4.heap.size w4 (w4.alloc (.cells #[.slice (some ⟨q, 0, none⟩) ss.length ss.length, .slice (some ⟨q', 0, none⟩) ps.length ps.length] 28)) := (Below.refl _ _).alloc (Nat.le_refl _) _
  have B5 := B4.trans (A4.mono B4.size)
  obtain ⟨y0, y1, y2⟩ := BoxD.below ⟨y0', y1', y2'⟩ A4
  have KS : Hid (RowS _ (some ⟨q, 0, none⟩) ss) := RS.below A4
  have KP : Hid (RowP _ (some ⟨q', 0, none⟩) ps) := RP.below A4
  have X5 : BoxD w4.heap.size (some ⟨q, 0, none⟩) ss.length ss.length (some ⟨q', 0, none⟩) ps.length ps.length (w4.alloc (.cells #[.slice (some ⟨q, 0, none⟩) ss.length ss.length, .slice (some ⟨q', 0, none⟩) ps.length ps.length] 28)) := BoxD.new 28
  clear RS RP A4 B4
  go_wp2_with fail
  refine (implDiskRead_any _ _ _ _ ss ps k b e0 e2 e3 _ KS.out KP.out (Gl4.below HG.out B5) gS.out gP.out).mono ?_
  rintro e w6 ⟨rfl, hb6⟩
  have B6 := B5.trans (hb6.mono B5.size)
  obtain ⟨z0, z1, z2⟩ := BoxD.below ⟨y0, y1, y2⟩ hb6
  obtain ⟨u0, u1, u2⟩ := X5.below hb6
  have hL : LawS w w.heap.size w4.heap.size a a' (some ⟨q, 0, none⟩) (some ⟨q', 0, none⟩) c c' ss.length ps.length ss ps w6.drew :=
    ⟨z0, z1, u0, u1, z2, u2, ⟨(HS.out.below B6).below (Below.refl _ _).drew, (HP.out.below B6).below (Below.refl _ _).drew, (KS.out.below hb6).below (Below.refl _ _).drew, (KP.out.below hb6).below (Below.refl _ _).drew⟩, B6.drew⟩
  clear y0 y1 y2 y0' y1' y2' z0 z1 z2 u0 u1 u2 X5 KS KP hb6 B6 B5
  go_wp2_with fail
  go_region_held3 (LawS w w.heap.size w4.heap.size a a' (some ⟨q, 0, none⟩) (some ⟨q', 0, none⟩) c c' ss.length ps.length ss ps) (first | exact hL | exact LawS.keep (by assumption) hb)
    (first | (go_at_call 21; refine (toDisk_any a a' c c' ss ps _ ((show LawS w w.heap.size w4.heap.size a a' (some ⟨q, 0, none⟩) (some ⟨q', 0, none⟩) c c' ss.length ps.length ss ps _ by assumption).2.2.2.2.2.2.1.1) ((show LawS w w.heap.size w4.heap.size a a' (some ⟨q, 0, none⟩) (some ⟨q', 0, none⟩) c c' ss.length ps.length ss ps _ by assumption).2.2.2.2.2.2.1.2.1) gS.out gP.out).mono ?_; rintro e wA ⟨r, r', rfl, RS, RP, hb⟩)
           | (go_at_call 22; refine (eqDisk_same _ _ _ _ _ _ _ _ ss ps _ ((show LawS w w.heap.size w4.heap.size a a' (some ⟨q, 0, none⟩) (some ⟨q', 0, none⟩) c c' ss.length ps.length ss ps _ by assumption).2.2.2.2.2.2.1.2.2.1) ((show LawS w w.heap.size w4.heap.size a a' (some ⟨q, 0, none⟩) (some ⟨q', 0, none⟩) c c' ss.length ps.length ss ps _ by assumption).2.2.2.2.2.2.1.2.2.2) RS RP gS.out gP.out).mono ?_; rintro e wA ⟨rfl, hb⟩))
  rename_i hLL
  have hE := hLL.2.2.2.2.2.2.2
  clear hL hLL
  go_wp2
  go_ret
  exact ⟨rfl, hE⟩
end Go.Proofs.YtgfgaiimigchkaaDoor
