/- What both sides' DiskSame answer. -/
import Derived.Test.YtgfgaiimigchkaaDoorSameB
namespace Go.Proofs.YtgfgaiimigchkaaDoor
open Go.RowKit

def HeldT (a a' q q' : Option Addr) (ss : List ByteArray) (ps : List P2) (us : List ByteArray) (qs : List P2) (w : World) : Prop := RowS w a ss ∧ RowP w a' ps ∧ RowS w q us ∧ RowP w q' qs
theorem HeldT.below {a a' q q' : Option Addr} {ss : List ByteArray} {ps : List P2} {us : List ByteArray} {qs : List P2} {w w' : World} (h : HeldT a a' q q' ss ps us qs w) (hb : Below w.heap.size w w') : HeldT a a' q q' ss ps us qs w' :=
  ⟨h.1.below hb, h.2.1.below hb, h.2.2.1.below hb, h.2.2.2.below hb⟩

/-- Two disks lie in two blocks; what lay in w lies there still. -/
abbrev TwoD (w : World) (b x : Nat) (a a' q q' : Option Addr) (c c' d d' : Nat) (ss : List ByteArray) (ps : List P2) (us : List ByteArray) (qs : List P2) (w' : World) : Prop :=
  w'.cell? ⟨b, 0, none⟩ = some (.slice a ss.length c) ∧ w'.cell? ⟨b, 1, none⟩ = some (.slice a' ps.length c') ∧ w'.cell? ⟨x, 0, none⟩ = some (.slice q us.length d) ∧ w'.cell? ⟨x, 1, none⟩ = some (.slice q' qs.length d') ∧ b < w'.heap.size ∧ x < w'.heap.size ∧ HeldT a a' q q' ss ps us qs w' ∧ Below w.heap.size w w'
theorem TwoD.keep {w : World} {b x : Nat} {a a' q q' : Option Addr} {c c' d d' : Nat} {ss : List ByteArray} {ps : List P2} {us : List ByteArray} {qs : List P2} {w1 w2 : World} (h : TwoD w b x a a' q q' c c' d d' ss ps us qs w1) (hb : Below w1.heap.size w1 w2) : TwoD w b x a a' q q' c c' d d' ss ps us qs w2 := by
  obtain ⟨h1, h2, h3, h4, h5, h6, h7, h8⟩ := h
  exact ⟨(hb.cell (p := ⟨b, 0, none⟩) h5).trans h1, (hb.cell (p := ⟨b, 1, none⟩) h5).trans h2, (hb.cell (p := ⟨x, 0, none⟩) h6).trans h3, (hb.cell (p := ⟨x, 1, none⟩) h6).trans h4, Nat.lt_of_lt_of_le h5 hb.size, Nat.lt_of_lt_of_le h6 hb.size, h7.below hb, below_step h8 (Nat.le_refl _) hb⟩
theorem TwoD.drew {w : World} {b x : Nat} {a a' q q' : Option Addr} {c c' d d' : Nat} {ss : List ByteArray} {ps : List P2} {us : List ByteArray} {qs : List P2} {w1 : World} (h : TwoD w b x a a' q q' c c' d d' ss ps us qs w1) : TwoD w b x a a' q q' c c' d d' ss ps us qs w1.drew := h.keep (Below.refl _ _).drew

/-- Both disks read the same. -/
def sameD (ss : List ByteArray) (ps : List P2) (us : List ByteArray) (qs : List P2) : Bool :=
  decide (ss.length = us.length) && eqAll (fun j => readK ss ps j ps.length) (fun j => readK us qs j qs.length) ss.length
def sameR (ss : List ByteArray) (ps : List P2) (us : List ByteArray) (qs : List P2) : Bool := okDisk ss ps && okDisk us qs && sameD ss ps us qs
def sameE (ss : List ByteArray) (ps : List P2) (us : List ByteArray) (qs : List P2) : Int := if okDisk ss ps && okDisk us qs then 0 else 1
theorem sameR_bad {ss : List ByteArray} {ps : List P2} {us : List ByteArray} {qs : List P2} (h : (okDisk ss ps && okDisk us qs) = false) : sameR ss ps us qs = false ∧ sameE ss ps us qs = 1 := by
  unfold sameR sameE; rw [h]; exact ⟨rfl, rfl⟩
theorem sameR_ok {ss : List ByteArray} {ps : List P2} {us : List ByteArray} {qs : List P2} (h1 : okDisk ss ps = true) (h2 : okDisk us qs = true) : sameR ss ps us qs = sameD ss ps us qs ∧ sameE ss ps us qs = 0 := by
  unfold sameR sameE; rw [h1, h2]; exact ⟨rfl, rfl⟩
abbrev BI (b : Bool) (n : Int) : Value := .tuple #[.bool b, .int .i64 n]
theorem ret_bi {b b' : Bool} {n n' : Int} (h : b' = b) (h' : n' = n) : Ending.returned (BI b n) = .returned (BI b' n') := by rw [h, h']

set_option maxRecDepth 100000 in
set_option maxHeartbeats 4000000 in
theorem implDiskSame_any (a a' q q' : Option Addr) (c c' d d' : Nat) (ss : List ByteArray) (ps : List P2) (us : List ByteArray) (qs : List P2) (t0 t1 : TypeId) (v0 v1 : Value) (w : World)
    (hs : RowS w a ss) (hp : RowP w a' ps) (hs' : RowS w q us) (hp' : RowP w q' qs) (hg : Gl w (.iface t0 v0) (.iface t1 v1)) (hls : ss.length ≤ 1048576) (hlp : ps.length ≤ 1048576) (hls' : us.length ≤ 1048576) (hlp' : qs.length ≤ 1048576) :
    Calls Tryd.prog 14 #[DV a ss.length c a' ps.length c', DV q us.length d q' qs.length d'] w fun e w' => e = .returned (BI (sameR ss ps us qs) (sameE ss ps us qs)) ∧ Below w.heap.size w w' := by
  have HG : Hid (Gl w (.iface t0 v0) (.iface t1 v1)) := hg
  have gS : Hid (ss.length ≤ 1048576) := hls
  have gP : Hid (ps.length ≤ 1048576) := hlp
  have gS' : Hid (us.length ≤ 1048576) := hls'
  have gP' : Hid (qs.length ≤ 1048576) := hlp'
  have A0 : Below w.heap.size w ((w.alloc (.cells #[.slice a ss.length c, .slice a' ps.length c'] 28)).alloc (.cells #[.slice q us.length d, .slice q' qs.length d'] 28)) := ((Below.refl _ _).alloc (Nat.le_refl _) _).alloc (by simp) _
  have T0 : TwoD w w.heap.size (w.heap.size + 1) a a' q q' c c' d d' ss ps us qs ((w.alloc (.cells #[.slice a ss.length c, .slice a' ps.length c'] 28)).alloc (.cells #[.slice q us.length d, .slice q' qs.length d'] 28)) :=
    ⟨by go_simp, by go_simp, by go_simp, by go_simp, by simp; omega, by simp, ⟨hs.below A0, hp.below A0, hs'.below A0, hp'.below A0⟩, A0⟩
  have G0 := Gl.below HG.out A0
  have HK : Hid (TwoD w w.heap.size (w.heap.size + 1) a a' q q' c c' d d' ss ps us qs ((w.alloc (.cells #[.slice a ss.length c, .slice a' ps.length c'] 28)).alloc (.cells #[.slice q us.length d, .slice q' qs.length d'] 28))) := T0
  have HGl : Hid (Gl ((w.alloc (.cells #[.slice a ss.length c, .slice a' ps.length c'] 28)).alloc (.cells #[.slice q us.length d, .slice q' qs.length d'] 28)) (.iface t0 v0) (.iface t1 v1)) := G0
  clear hs hp hs' hp' hg hls hlp hls' hlp' A0 T0 G0
  cases h1 : okDisk ss ps with
  | false =>
    have HB : Hid _ := sameR_bad (ss := ss) (ps := ps) (us := us) (qs := qs) (by rw [h1]; rfl)
    go_enter Tryd.func14, Tryd.ntmps14
    go_wp2_with fail
    refine (implDiskOK_any a a' c c' ss ps t0 t1 v0 v1 _ HK.out.2.2.2.2.2.2.1.1 HK.out.2.2.2.2.2.2.1.2.1 HGl.out gS.out gP.out).mono ?_
    rintro e w1 ⟨rfl, hb1⟩
    have T1 := HK.out.keep hb1
    have hE := T1.2.2.2.2.2.2.2
    rw [h1]
    clear T1 hb1
    go_wp2
    go_ret2
    exact ⟨ret_bi HB.out.1 HB.out.2, hE⟩
  | true =>
    cases h2 : okDisk us qs with
    | false =>
      have HB : Hid _ := sameR_bad (ss := ss) (ps := ps) (us := us) (qs := qs) (by rw [h1, h2]; rfl)
      go_enter Tryd.func14, Tryd.ntmps14
      go_wp2_with fail
      refine (implDiskOK_any a a' c c' ss ps t0 t1 v0 v1 _ HK.out.2.2.2.2.2.2.1.1 HK.out.2.2.2.2.2.2.1.2.1 HGl.out gS.out gP.out).mono ?_
      rintro e w1 ⟨rfl, hb1⟩
      have T1 := HK.out.keep hb1
      have HT : Hid (TwoD w w.heap.size (w.heap.size + 1) a a' q q' c c' d d' ss ps us qs w1) := T1
      have G1 : Hid (Gl w1 (.iface t0 v0) (.iface t1 v1)) := HGl.out.below hb1
      obtain ⟨y0, y1, y2, y3, _, _, _, _⟩ := T1
      rw [h1]
      clear hb1
      go_wp2_with fail
      refine (implDiskOK_any q q' d d' us qs t0 t1 v0 v1 _ HT.out.2.2.2.2.2.2.1.2.2.1 HT.out.2.2.2.2.2.2.1.2.2.2 G1.out gS'.out gP'.out).mono ?_
      rintro e w2 ⟨rfl, hb2⟩
      have hE := (HT.out.keep hb2).2.2.2.2.2.2.2
      rw [h2]
      clear y0 y1 y2 y3 hb2
      go_wp2
      go_ret2
      exact ⟨ret_bi HB.out.1 HB.out.2, hE⟩
    | true =>
      have HB : Hid _ := sameR_ok h1 h2
      have o1 := okDisk_parts h1
      have o2 := okDisk_parts h2
      have L1 : Hid (1 ≤ ss.length) := o1.1.1
      have L2 : Hid (1 ≤ us.length) := o2.1.1
      have A1 : Hid (∀ j, j < ps.length → 0 ≤ (nthP ps j).1 ∧ (nthP ps j).1 < ss.length) := fun j hj => (o1.2.2 j hj).1
      have A2 : Hid (∀ j, j < qs.length → 0 ≤ (nthP qs j).1 ∧ (nthP qs j).1 < us.length) := fun j hj => (o2.2.2 j hj).1
      clear o1 o2
      go_enter Tryd.func14, Tryd.ntmps14
      go_wp2_with fail
      refine (implDiskOK_any a a' c c' ss ps t0 t1 v0 v1 _ HK.out.2.2.2.2.2.2.1.1 HK.out.2.2.2.2.2.2.1.2.1 HGl.out gS.out gP.out).mono ?_
      rintro e w1 ⟨rfl, hb1⟩
      have T1 := HK.out.keep hb1
      have HT : Hid (TwoD w w.heap.size (w.heap.size + 1) a a' q q' c c' d d' ss ps us qs w1) := T1
      have G1 : Hid (Gl w1 (.iface t0 v0) (.iface t1 v1)) := HGl.out.below hb1
      obtain ⟨y0, y1, y2, y3, _, _, _, _⟩ := T1
      rw [h1]
      clear hb1
      go_wp2_with fail
      refine (implDiskOK_any q q' d d' us qs t0 t1 v0 v1 _ HT.out.2.2.2.2.2.2.1.2.2.1 HT.out.2.2.2.2.2.2.1.2.2.2 G1.out gS'.out gP'.out).mono ?_
      rintro e w2 ⟨rfl, hb2⟩
      have hT : TwoD w w.heap.size (w.heap.size + 1) a a' q q' c c' d d' ss ps us qs w2.drew := (HT.out.keep hb2).drew
      rw [h2]
      clear y0 y1 y2 y3 hb2 HT HK
      go_wp2_with fail
      go_region_held3 (TwoD w w.heap.size (w.heap.size + 1) a a' q q' c c' d d' ss ps us qs) (first | exact hT | exact TwoD.keep (by assumption) hb)
        (first
          | (go_at_call_of 49 (Value.slice a ss.length c); refine (settled_any a a' c c' ss ps _ ((show TwoD w w.heap.size (w.heap.size + 1) a a' q q' c c' d d' ss ps us qs _ by assumption).2.2.2.2.2.2.1.1) ((show TwoD w w.heap.size (w.heap.size + 1) a a' q q' c c' d d' ss ps us qs _ by assumption).2.2.2.2.2.2.1.2.1) L1.out gS.out gP.out A1.out).mono ?_; rintro e wA ⟨ga, da, rfl, hga, SA, hb⟩)
          | (go_at_call_of 49 (Value.slice q us.length d); refine (settled_any q q' d d' us qs _ ((show TwoD w w.heap.size (w.heap.size + 1) a a' q q' c c' d d' ss ps us qs _ by assumption).2.2.2.2.2.2.1.2.2.1) ((show TwoD w w.heap.size (w.heap.size + 1) a a' q q' c c' d d' ss ps us qs _ by assumption).2.2.2.2.2.2.1.2.2.2) L2.out gS'.out gP'.out A2.out).mono ?_; rintro e wA ⟨gb, db, rfl, hgb, SB, hb⟩)
          | (go_at_call 48; refine (equal_any _ _ ss.length us.length _ _ (fun j => readK ss ps j ps.length) (fun j => readK us qs j qs.length) _ (by first | assumption | exact SA.below hb SA.lt) (by first | assumption | exact SB.below hb SB.lt) gS.out gS'.out).mono ?_; rintro e wA ⟨rfl, hb⟩))
      rename_i hLL
      have hE := hLL.2.2.2.2.2.2.2
      clear hT hLL
      go_wp2
      go_ret2
      exact ⟨ret_bi HB.out.1 HB.out.2, hE⟩
end Go.Proofs.YtgfgaiimigchkaaDoor
