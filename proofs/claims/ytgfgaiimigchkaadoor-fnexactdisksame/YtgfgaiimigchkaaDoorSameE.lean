/- The law on DiskSame, walked. -/
import Derived.Test.YtgfgaiimigchkaaDoorSameD
namespace Go.Proofs.YtgfgaiimigchkaaDoor
open Go.RowKit

/-- Two disks and a copy of each lie in four blocks. -/
abbrev Four (w : World) (x y p p' r r' : Nat) (a a' q q' : Option Addr) (c c' d d' : Nat) (ss : List ByteArray) (ps : List P2) (us : List ByteArray) (qs : List P2) (w' : World) : Prop :=
  TwoD w w.heap.size (w.heap.size + 1) a a' q q' c c' d d' ss ps us qs w' ∧ TwoD w x y (some ⟨p, 0, none⟩) (some ⟨p', 0, none⟩) (some ⟨r, 0, none⟩) (some ⟨r', 0, none⟩) ss.length ps.length us.length qs.length ss ps us qs w'
theorem Four.keep {w : World} {x y p p' r r' : Nat} {a a' q q' : Option Addr} {c c' d d' : Nat} {ss : List ByteArray} {ps : List P2} {us : List ByteArray} {qs : List P2} {w1 w2 : World} (h : Four w x y p p' r r' a a' q q' c c' d d' ss ps us qs w1) (hb : Below w1.heap.size w1 w2) : Four w x y p p' r r' a a' q q' c c' d d' ss ps us qs w2 :=
  ⟨h.1.keep hb, h.2.keep hb⟩

set_option maxRecDepth 100000 in
set_option maxHeartbeats 8000000 in
theorem lawDiskSame (a a' q q' : Option Addr) (c c' d d' : Nat) (ss : List ByteArray) (ps : List P2) (us : List ByteArray) (qs : List P2) (t0 t1 : TypeId) (v0 v1 : Value) (w : World)
    (hs : RowS w a ss) (hp : RowP w a' ps) (hs' : RowS w q us) (hp' : RowP w q' qs) (hg : Gl w (.iface t0 v0) (.iface t1 v1)) (hls : ss.length ≤ maxLen) (hlp : ps.length ≤ maxLen) (hls' : us.length ≤ maxLen) (hlp' : qs.length ≤ maxLen) :
    Calls Tryd.prog 9 #[DV a ss.length c a' ps.length c', DV q us.length d q' qs.length d'] w fun e w' => e = .returned (.bool true) ∧ Below w.heap.size w w' := by
  have HG : Hid (Gl w (.iface t0 v0) (.iface t1 v1)) := hg
  have LS : Hid (ss.length ≤ maxLen) := hls
  have LP : Hid (ps.length ≤ maxLen) := hlp
  have LS' : Hid (us.length ≤ maxLen) := hls'
  have LP' : Hid (qs.length ≤ maxLen) := hlp'
  have A0 : Below w.heap.size w ((w.alloc (.cells #[.slice a ss.length c, .slice a' ps.length c'] 49)).alloc (.cells #[.slice q us.length d, .slice q' qs.length d'] 49)) := ((Below.refl _ _).alloc (Nat.le_refl _) _).alloc (by simp) _
  have HK : Hid (TwoD w w.heap.size (w.heap.size + 1) a a' q q' c c' d d' ss ps us qs ((w.alloc (.cells #[.slice a ss.length c, .slice a' ps.length c'] 49)).alloc (.cells #[.slice q us.length d, .slice q' qs.length d'] 49))) :=
    ⟨by go_simp, by go_simp, by go_simp, by go_simp, by simp; omega, by simp, ⟨hs.below A0, hp.below A0, hs'.below A0, hp'.below A0⟩, A0⟩
  clear hs hp hs' hp' hg hls hlp hls' hlp' A0
  go_enter Tryd.func9, Tryd.ntmps9
  go_wp2_with fail
  refine (szDisk_any a a' c c' ss ps _ _ HK.out.2.2.2.2.2.2.1.1 HK.out.2.2.2.2.2.2.1.2.1 LS.out LP.out (by omega) (by omega)).mono ?_
  rintro e w1 ⟨x, rfl, x0, x1, x2, hb1⟩
  have T1 := HK.out.keep hb1
  have HT1 : Hid (TwoD w w.heap.size (w.heap.size + 1) a a' q q' c c' d d' ss ps us qs w1) := T1
  obtain ⟨y0, y1, y2, y3, _, _, _, hE⟩ := T1
  clear HK hb1
  by_cases hx : x < 0
  · clear x2
    go_wp2
    go_ret
    exact ⟨rfl, hE⟩
  have gS : Hid (ss.length ≤ 1048576) := by have := (x2 (by omega)).1; show _ ≤ _; omega
  have gP : Hid (ps.length ≤ 1048576) := by have := (x2 (by omega)).2; show _ ≤ _; omega
  clear x2
  go_wp2_with fail
  refine (szDisk_any q q' d d' us qs x _ HT1.out.2.2.2.2.2.2.1.2.2.1 HT1.out.2.2.2.2.2.2.1.2.2.2 LS'.out LP'.out (by omega) (by omega)).mono ?_
  rintro e w2 ⟨z, rfl, z0, z1, z2, hb2⟩
  clear y0 y1 y2 y3 hE
  have T2 := HT1.out.keep hb2
  have hT : TwoD w w.heap.size (w.heap.size + 1) a a' q q' c c' d d' ss ps us qs w2.drew := T2.drew
  obtain ⟨y0, y1, y2, y3, _, _, _, hE⟩ := T2
  clear HT1 hb2
  by_cases hz : z < 0
  · clear z2 hT
    go_wp2
    go_ret
    exact ⟨rfl, hE⟩
  have gS' : Hid (us.length ≤ 1048576) := by have := (z2 (by omega)).1; show _ ≤ _; omega
  have gP' : Hid (qs.length ≤ 1048576) := by have := (z2 (by omega)).2; show _ ≤ _; omega
  clear z2 y0 y1 y2 y3 hE
  go_wp2_with fail
  go_region_held3 (TwoD w w.heap.size (w.heap.size + 1) a a' q q' c c' d d' ss ps us qs) (first | exact hT | exact TwoD.keep (by assumption) hb)
    (first
      | (go_at_call_of 21 (Value.agg #[Value.slice a ss.length c, Value.slice a' ps.length c']); refine (toDisk_any a a' c c' ss ps _ ((show TwoD w w.heap.size (w.heap.size + 1) a a' q q' c c' d d' ss ps us qs _ by assumption).2.2.2.2.2.2.1.1) ((show TwoD w w.heap.size (w.heap.size + 1) a a' q q' c c' d d' ss ps us qs _ by assumption).2.2.2.2.2.2.1.2.1) gS.out gP.out).mono ?_; rintro e wA ⟨ga, ga', rfl, RA, RA', hb⟩)
      | (go_at_call_of 21 (Value.agg #[Value.slice q us.length d, Value.slice q' qs.length d']); refine (toDisk_any q q' d d' us qs _ ((show TwoD w w.heap.size (w.heap.size + 1) a a' q q' c c' d d' ss ps us qs _ by assumption).2.2.2.2.2.2.1.2.2.1) ((show TwoD w w.heap.size (w.heap.size + 1) a a' q q' c c' d d' ss ps us qs _ by assumption).2.2.2.2.2.2.1.2.2.2) gS'.out gP'.out).mono ?_; rintro e wA ⟨gb, gb', rfl, RB, RB', hb⟩)
      | (go_at_call 39; refine (specDiskSame_any _ _ _ _ _ _ _ _ ss ps us qs _ (by first | assumption | exact RA.below hb) (by first | assumption | exact RA'.below hb) (by first | assumption | exact RB.below hb) (by first | assumption | exact RB'.below hb) gS.out gP.out gS'.out gP'.out).mono ?_; rintro e wA ⟨rfl, hb⟩))
  rename_i hLL
  have H4 : Hid (TwoD w w.heap.size (w.heap.size + 1) a a' q q' c c' d d' ss ps us qs _) := hLL
  obtain ⟨y0, y1, y2, y3, _, _, _, _⟩ := hLL
  clear hT
  go_wp2_with fail
  refine (toDisk_any a a' c c' ss ps _ H4.out.2.2.2.2.2.2.1.1 H4.out.2.2.2.2.2.2.1.2.1 gS.out gP.out).mono ?_
  rintro e w5 ⟨p, p', rfl, RP, RP', hb5⟩
  clear y0 y1 y2 y3
  have T5 := H4.out.keep hb5
  have A5 : Below w5.heap.size w5 (w5.alloc (.cells #[.slice (some ⟨p, 0, none⟩) ss.length ss.length, .slice (some ⟨p', 0, none⟩) ps.length ps.length] 28)) := (Below.refl _ _).alloc (Nat.le_refl _) _
  have T5b := T5.keep A5
  have H5 : Hid (TwoD w w.heap.size (w.heap.size + 1) a a' q q' c c' d d' ss ps us qs _) := T5b
  have K5 : Hid (RowS _ (some ⟨p, 0, none⟩) ss) := RP.below A5
  have K5' : Hid (RowP _ (some ⟨p', 0, none⟩) ps) := RP'.below A5
  have X5 : Hid (BoxD w5.heap.size (some ⟨p, 0, none⟩) ss.length ss.length (some ⟨p', 0, none⟩) ps.length ps.length (w5.alloc (.cells #[.slice (some ⟨p, 0, none⟩) ss.length ss.length, .slice (some ⟨p', 0, none⟩) ps.length ps.length] 28))) := BoxD.new 28
  clear H4 RP RP' hb5 A5 T5
  obtain ⟨y0, y1, y2, y3, _, _, _, _⟩ := T5b
  go_wp2_with fail
  refine (toDisk_any q q' d d' us qs _ H5.out.2.2.2.2.2.2.1.2.2.1 H5.out.2.2.2.2.2.2.1.2.2.2 gS'.out gP'.out).mono ?_
  rintro e w6 ⟨r, r', rfl, RR, RR', hb6⟩
  clear y0 y1 y2 y3
  have A6 : Below w6.heap.size w6 (w6.alloc (.cells #[.slice (some ⟨r, 0, none⟩) us.length us.length, .slice (some ⟨r', 0, none⟩) qs.length qs.length] 28)) := (Below.refl _ _).alloc (Nat.le_refl _) _
  have X6 : BoxD w6.heap.size (some ⟨r, 0, none⟩) us.length us.length (some ⟨r', 0, none⟩) qs.length qs.length (w6.alloc (.cells #[.slice (some ⟨r, 0, none⟩) us.length us.length, .slice (some ⟨r', 0, none⟩) qs.length qs.length] 28)) := BoxD.new 28
  have X5b := (X5.out.below hb6).below A6
  have T6 := (H5.out.keep hb6).keep A6
  have H6 : Hid (Four w w5.heap.size w6.heap.size p p' r r' a a' q q' c c' d d' ss ps us qs (w6.alloc (.cells #[.slice (some ⟨r, 0, none⟩) us.length us.length, .slice (some ⟨r', 0, none⟩) qs.length qs.length] 28))) :=
    ⟨T6, X5b.1, X5b.2.1, X6.1, X6.2.1, X5b.2.2, X6.2.2, ⟨(K5.out.below hb6).below A6, (K5'.out.below hb6).below A6, RR.below A6, RR'.below A6⟩, T6.2.2.2.2.2.2.2⟩
  have G6 : Hid (Gl _ (.iface t0 v0) (.iface t1 v1)) := HG.out.below H6.out.1.2.2.2.2.2.2.2
  clear H5 K5 K5' X5 RR RR' hb6 A6 X6 X5b T6
  obtain ⟨⟨y0, y1, y2, y3, _, _, _, _⟩, ⟨y4, y5, y6, y7, _, _, _, _⟩⟩ := H6.out
  go_wp2_with fail
  refine (implDiskSame_any _ _ _ _ _ _ _ _ ss ps us qs t0 t1 v0 v1 _ H6.out.2.2.2.2.2.2.2.1.1 H6.out.2.2.2.2.2.2.2.1.2.1 H6.out.2.2.2.2.2.2.2.1.2.2.1 H6.out.2.2.2.2.2.2.2.1.2.2.2 G6.out gS.out gP.out gS'.out gP'.out).mono ?_
  rintro e w7 ⟨rfl, hb7⟩
  have h7 : Four w w5.heap.size w6.heap.size p p' r r' a a' q q' c c' d d' ss ps us qs w7.drew := (Four.keep H6.out hb7).keep (Below.refl _ _).drew
  clear y0 y1 y2 y3 y4 y5 y6 y7 H6 G6 hb7
  go_wp2_with fail
  go_region_held3 (Four w w5.heap.size w6.heap.size p p' r r' a a' q q' c c' d d' ss ps us qs) (first | exact h7 | exact Four.keep (by assumption) hb)
    (first
      | (go_at_call 21; refine (toDisk_any a a' c c' ss ps _ ((show Four w w5.heap.size w6.heap.size p p' r r' a a' q q' c c' d d' ss ps us qs _ by assumption).1.2.2.2.2.2.2.1.1) ((show Four w w5.heap.size w6.heap.size p p' r r' a a' q q' c c' d d' ss ps us qs _ by assumption).1.2.2.2.2.2.2.1.2.1) gS.out gP.out).mono ?_; rintro e wA ⟨ga, ga', rfl, RA, RA', hb⟩)
      | (go_at_call 22; refine (eqDisk_same _ _ _ _ _ _ _ _ ss ps _ ((show Four w w5.heap.size w6.heap.size p p' r r' a a' q q' c c' d d' ss ps us qs _ by assumption).2.2.2.2.2.2.2.1.1) ((show Four w w5.heap.size w6.heap.size p p' r r' a a' q q' c c' d d' ss ps us qs _ by assumption).2.2.2.2.2.2.2.1.2.1) RA RA' gS.out gP.out).mono ?_; rintro e wA ⟨rfl, hb⟩))
  rename_i hL8
  have h8 : Four w w5.heap.size w6.heap.size p p' r r' a a' q q' c c' d d' ss ps us qs _ := hL8.keep (Below.refl _ _).drew
  clear h7 hL8
  go_wp2_with fail
  go_region_held3 (Four w w5.heap.size w6.heap.size p p' r r' a a' q q' c c' d d' ss ps us qs) (first | exact h8 | exact Four.keep (by assumption) hb)
    (first
      | (go_at_call 21; refine (toDisk_any q q' d d' us qs _ ((show Four w w5.heap.size w6.heap.size p p' r r' a a' q q' c c' d d' ss ps us qs _ by assumption).1.2.2.2.2.2.2.1.2.2.1) ((show Four w w5.heap.size w6.heap.size p p' r r' a a' q q' c c' d d' ss ps us qs _ by assumption).1.2.2.2.2.2.2.1.2.2.2) gS'.out gP'.out).mono ?_; rintro e wA ⟨ga, ga', rfl, RA, RA', hb⟩)
      | (go_at_call 22; refine (eqDisk_same _ _ _ _ _ _ _ _ us qs _ ((show Four w w5.heap.size w6.heap.size p p' r r' a a' q q' c c' d d' ss ps us qs _ by assumption).2.2.2.2.2.2.2.1.2.2.1) ((show Four w w5.heap.size w6.heap.size p p' r r' a a' q q' c c' d d' ss ps us qs _ by assumption).2.2.2.2.2.2.2.1.2.2.2) RA RA' gS'.out gP'.out).mono ?_; rintro e wA ⟨rfl, hb⟩))
  rename_i hL9
  have hE := hL9.1.2.2.2.2.2.2.2
  clear h8 hL9
  go_wp2
  go_ret
  exact ⟨rfl, hE⟩
end Go.Proofs.YtgfgaiimigchkaaDoor
