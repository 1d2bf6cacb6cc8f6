/- impl.DiskRead and spec.DiskRead answer the same. -/
import Derived.Test.YtgfgaiimigchkaaDoorReadC
import Derived.Test.YtgfgaiimigchkaaDoorDiskH
namespace Go.Proofs.YtgfgaiimigchkaaDoor
open Go.RowKit

def rdS (ss : List ByteArray) (ps : List P2) (x : Int) : ByteArray := if okDisk ss ps = true ∧ okAt x ss.length = true then readK ss ps x.toNat ps.length else ⟨#[]⟩
def rdC (ss : List ByteArray) (ps : List P2) (x : Int) : Int := if okDisk ss ps = true then (if okAt x ss.length = true then 0 else 4) else 1

theorem nat_of_okAt {x : Int} {n : Nat} (h : okAt x n = true) : ∃ m : Nat, x = (m : Int) ∧ m < n := by
  unfold okAt at h
  have h := of_decide_eq_true h
  exact ⟨x.toNat, by omega, by omega⟩
theorem ret2 {s s' : ByteArray} {k k' : Int} (h1 : s = s') (h2 : k = k') : Ending.returned (.tuple #[.string s, .int .i64 k]) = .returned (.tuple #[.string s', .int .i64 k']) := by rw [h1, h2]

set_option maxRecDepth 100000 in
set_option maxHeartbeats 4000000 in
theorem implDiskRead_any (a a' : Option Addr) (c c' : Nat) (ss : List ByteArray) (ps : List P2) (x : Int) (b : Addr) (e0 e2 e3 : TypeId × Value) (w : World) (hs : RowS w a ss) (hp : RowP w a' ps) (hg : Gl4 w b e0 e2 e3) (hls : ss.length ≤ 1048576) (hlp : ps.length ≤ 1048576) :
    Calls Tryd.prog 24 #[DV a ss.length c a' ps.length c', .int .i64 x] w fun e w' => e = .returned (.tuple #[.string (rdS ss ps x), .int .i64 (rdC ss ps x)]) ∧ Below w.heap.size w w' := by
  have HS : Hid (RowS w a ss) := hs
  have HP : Hid (RowP w a' ps) := hp
  have HG : Hid (Gl4 w b e0 e2 e3) := hg
  clear hs hp hg
  have B0 : Below w.heap.size w (w.alloc (.cells #[.slice a ss.length c, .slice a' ps.length c'] 28)) := (Below.refl _ _).alloc (Nat.le_refl _) _
  have X0 : BoxD w.heap.size a ss.length c a' ps.length c' (w.alloc (.cells #[.slice a ss.length c, .slice a' ps.length c'] 28)) := BoxD.new 28
  go_enter Tryd.func24, Tryd.ntmps24
  go_wp2_with fail
  refine (implDiskOK_any _ _ _ _ ss ps _ _ _ _ _ (HS.out.below B0) (HP.out.below B0) (Gl4.below HG.out B0).1 hls hlp).mono ?_
  rintro e w1 ⟨rfl, hb1⟩
  have B1 := B0.trans (hb1.mono B0.size)
  obtain ⟨y0, y1, y2⟩ := X0.below hb1
  clear B0 X0 hb1
  by_cases h1 : okDisk ss ps = true
  · rw [h1]
    by_cases h2 : okAt x ss.length = true
    · obtain ⟨m, rfl, hm⟩ := nat_of_okAt h2
      have R1 : Hid (rdS ss ps m = readK ss ps m ps.length) := by show _ = _; unfold rdS; rw [if_pos ⟨h1, h2⟩]; rfl
      have R2 : Hid (rdC ss ps m = 0) := by show _ = _; unfold rdC; rw [if_pos h1, if_pos h2]
      clear h1 h2
      go_wp2_with fail
      refine (readSector_ok a a' c c' ss ps m _ _ _ _ w1 (HS.out.below B1) (HP.out.below B1) (Gl4.below HG.out B1).1 hlp hm).mono ?_
      rintro e w2 ⟨rfl, hb2⟩
      have B2 := B1.trans (hb2.mono B1.size)
      clear y0 y1 y2 B1 hb2
      go_wp2_with fail
      refine (diskCode_nil b e0 e2 e3 w2 (Gl4.below HG.out B2)).mono ?_
      rintro e w3 ⟨rfl, rfl⟩
      go_wp2
      go_ret2
      exact ⟨ret2 R1.out.symm R2.out.symm, B2⟩
    · have R1 : Hid (rdS ss ps x = ⟨#[]⟩) := by show _ = _; unfold rdS; rw [if_neg (fun h => h2 h.2)]
      have R2 : Hid (rdC ss ps x = 4) := by show _ = _; unfold rdC; rw [if_pos h1, if_neg h2]
      have h2' : okAt x ss.length = false := by simpa using h2
      clear h1 h2
      go_wp2_with fail
      refine (readSector_bad a a' c c' ss ps x _ _ _ _ w1 (Gl4.below HG.out B1).1 h2').mono ?_
      rintro e w2 ⟨rfl, hb2⟩
      have B2 := B1.trans (hb2.mono B1.size)
      clear y0 y1 y2 B1 hb2
      go_wp2_with fail
      refine (diskCode_bad x b e0 e2 e3 w2 (Gl4.below HG.out B2)).mono ?_
      rintro e w3 ⟨rfl, hb3⟩
      have B3 := B2.trans (hb3.mono B2.size)
      go_wp2
      go_ret2
      exact ⟨ret2 R1.out.symm R2.out.symm, B3⟩
  · have R1 : Hid (rdS ss ps x = ⟨#[]⟩) := by show _ = _; unfold rdS; rw [if_neg (fun h => h1 h.1)]
    have R2 : Hid (rdC ss ps x = 1) := by show _ = _; unfold rdC; rw [if_neg h1]
    have h1' : okDisk ss ps = false := by simpa using h1
    rw [h1']
    clear h1 h1'
    go_wp2
    go_ret2
    exact ⟨ret2 R1.out.symm R2.out.symm, B1⟩

set_option maxRecDepth 100000 in
set_option maxHeartbeats 4000000 in
theorem specDiskRead_any (a a' : Option Addr) (c c' : Nat) (ss : List ByteArray) (ps : List P2) (x : Int) (w : World) (hs : RowS w a ss) (hp : RowP w a' ps) (hls : ss.length ≤ 1048576) (hlp : ps.length ≤ 1048576) :
    Calls Tryd.prog 23 #[DV a ss.length c a' ps.length c', .int .i64 x] w fun e w' => e = .returned (.tuple #[.string (rdS ss ps x), .int .i64 (rdC ss ps x)]) ∧ Below w.heap.size w w' := by
  have HS : Hid (RowS w a ss) := hs
  have HP : Hid (RowP w a' ps) := hp
  clear hs hp
  have B0 : Below w.heap.size w (w.alloc (.cells #[.slice a ss.length c, .slice a' ps.length c'] 28)) := (Below.refl _ _).alloc (Nat.le_refl _) _
  have X0 : BoxD w.heap.size a ss.length c a' ps.length c' (w.alloc (.cells #[.slice a ss.length c, .slice a' ps.length c'] 28)) := BoxD.new 28
  go_enter Tryd.func23, Tryd.ntmps23
  go_wp2_with fail
  refine (specDiskOK_any _ _ _ _ ss ps _ (HS.out.below B0) (HP.out.below B0) hls hlp).mono ?_
  rintro e w1 ⟨rfl, hb1⟩
  have B1 := B0.trans (hb1.mono B0.size)
  obtain ⟨y0, y1, y2⟩ := X0.below hb1
  clear B0 X0 hb1
  by_cases h1 : okDisk ss ps = true
  · rw [h1]
    by_cases h2 : okAt x ss.length = true
    · obtain ⟨m, rfl, hm⟩ := nat_of_okAt h2
      have R1 : Hid (rdS ss ps m = readK ss ps m ps.length) := by show _ = _; unfold rdS; rw [if_pos ⟨h1, h2⟩]; rfl
      have R2 : Hid (rdC ss ps m = 0) := by show _ = _; unfold rdC; rw [if_pos h1, if_pos h2]
      have h3 : inB (m : Int) 0 ((ss.length : Int) - 1) = true := by rw [← okAt_in]; exact h2
      have H3 : Hid _ := h3
      clear h1 h2 h3
      go_wp2_with fail
      refine (l01In_is H3.out w1).mono ?_
      rintro e w2 ⟨rfl, rfl⟩
      go_wp2_with fail
      refine (l02Read_any a a' c c' ss ps m _ (HS.out.below B1) (HP.out.below B1) hlp hm).mono ?_
      rintro e w3 ⟨rfl, hb2⟩
      have B2 := B1.trans (hb2.mono B1.size)
      clear y0 y1 y2 B1 hb2
      go_wp2
      go_ret2
      exact ⟨ret2 R1.out.symm R2.out.symm, B2⟩
    · have R1 : Hid (rdS ss ps x = ⟨#[]⟩) := by show _ = _; unfold rdS; rw [if_neg (fun h => h2 h.2)]
      have R2 : Hid (rdC ss ps x = 4) := by show _ = _; unfold rdC; rw [if_pos h1, if_neg h2]
      have h3 : inB x 0 ((ss.length : Int) - 1) = false := by rw [← okAt_in]; simpa using h2
      have H3 : Hid _ := h3
      clear h1 h2 h3
      go_wp2_with fail
      refine (l01In_is H3.out w1).mono ?_
      rintro e w2 ⟨rfl, rfl⟩
      go_wp2
      go_ret2
      exact ⟨ret2 R1.out.symm R2.out.symm, B1⟩
  · have R1 : Hid (rdS ss ps x = ⟨#[]⟩) := by show _ = _; unfold rdS; rw [if_neg (fun h => h1 h.1)]
    have R2 : Hid (rdC ss ps x = 1) := by show _ = _; unfold rdC; rw [if_neg h1]
    have h1' : okDisk ss ps = false := by simpa using h1
    rw [h1']
    clear h1 h1'
    go_wp2
    go_ret2
    exact ⟨ret2 R1.out.symm R2.out.symm, B1⟩

end Go.Proofs.YtgfgaiimigchkaaDoor
