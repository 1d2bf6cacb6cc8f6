/- Disks: a copy of one, and when two are the same. -/
import Derived.Test.YtgfgaiimigchkaaDoorDiskB
namespace Go.Proofs.YtgfgaiimigchkaaDoor
open Go.RowKit

theorem set_other {w : World} {p : Addr} {g : Nat} (v : Value) (h : p.block ≠ g) : (w.setCell p v).heap[g]? = w.heap[g]? := by
  simp [World.setCell, Array.getElem?_modify, h]
theorem SlabS.set {w : World} {g n k : Nat} {ss : List ByteArray} {p : Addr} (h : SlabS w g n ss k) (hp : p.block ≠ g) (v : Value) : SlabS (w.setCell p v) g n ss k := by
  obtain ⟨cur, hh, r⟩ := h
  exact ⟨cur, (set_other v hp).trans hh, r⟩
theorem SlabP.set {w : World} {g n k : Nat} {ps : List P2} {p : Addr} (h : SlabP w g n ps k) (hp : p.block ≠ g) (v : Value) : SlabP (w.setCell p v) g n ps k := by
  obtain ⟨cur, hh, r⟩ := h
  exact ⟨cur, (set_other v hp).trans hh, r⟩

set_option maxRecDepth 100000 in
set_option maxHeartbeats 1000000 in
theorem toDisk_any (a a' : Option Addr) (c c' : Nat) (ss : List ByteArray) (ps : List P2) (w : World) (hs : RowS w a ss) (hp : RowP w a' ps) (hls : ss.length ≤ 1048576) (hlp : ps.length ≤ 1048576) :
    Calls Tryd.prog 21 #[DV a ss.length c a' ps.length c'] w fun e w' => ∃ g g', e = .returned (DV (some ⟨g, 0, none⟩) ss.length ss.length (some ⟨g', 0, none⟩) ps.length ps.length) ∧ RowS w' (some ⟨g, 0, none⟩) ss ∧ RowP w' (some ⟨g', 0, none⟩) ps ∧ Below w.heap.size w w' := by
  have HS : Hid (RowS w a ss) := hs
  have HP : Hid (RowP w a' ps) := hp
  have LS : Hid (ss.length ≤ 1048576) := hls
  have LP : Hid (ps.length ≤ 1048576) := hlp
  clear hs hp hls hlp
  have B0 : Below w.heap.size w (((w.alloc (.cells #[.slice a ss.length c, .slice a' ps.length c'] 49)).alloc (.cells #[.slice none 0 0, .slice none 0 0] 28)).alloc (.cells #[.slice none 0 0, .slice none 0 0] 28)) := (((Below.refl _ _).alloc (Nat.le_refl _) _).alloc (by simp) _).alloc (by simp; omega) _
  go_enter Tryd.func21, Tryd.ntmps21
  go_wp2_with fail
  refine (toS_any a c ss _ (HS.out.below B0) LS.out).mono ?_
  rintro e w1 ⟨g, rfl, hg, hS, hb1⟩
  have B1 := B0.trans (hb1.mono B0.size)
  have c1 : w1.cell? ⟨w.heap.size, 1, none⟩ = some (.slice a' ps.length c') := (hb1.cell (p := ⟨w.heap.size, 1, none⟩) (by simp; omega)).trans (by go_simp)
  have c2 : w1.cell? ⟨w.heap.size + 1, 0, none⟩ = some (.slice none 0 0) := (hb1.cell (p := ⟨w.heap.size + 1, 0, none⟩) (by simp)).trans (by go_simp)
  have c3 : w1.cell? ⟨w.heap.size + 1, 1, none⟩ = some (.slice none 0 0) := (hb1.cell (p := ⟨w.heap.size + 1, 1, none⟩) (by simp)).trans (by go_simp)
  have c4 : w1.cell? ⟨w.heap.size + 2, 0, none⟩ = some (.slice none 0 0) := (hb1.cell (p := ⟨w.heap.size + 2, 0, none⟩) (by simp)).trans (by go_simp)
  have c5 : w1.cell? ⟨w.heap.size + 2, 1, none⟩ = some (.slice none 0 0) := (hb1.cell (p := ⟨w.heap.size + 2, 1, none⟩) (by simp)).trans (by go_simp)
  have f2 : ∀ o, w1.frozen? ⟨w.heap.size + 1, o, none⟩ = false := fun o => (hb1.frozen (p := ⟨w.heap.size + 1, o, none⟩) (by simp)).trans (by go_simp)
  have f4 : ∀ o, w1.frozen? ⟨w.heap.size + 2, o, none⟩ = false := fun o => (hb1.frozen (p := ⟨w.heap.size + 2, o, none⟩) (by simp)).trans (by go_simp)
  have hn1 : w.heap.size + 2 < w1.heap.size := by have := hb1.size; simp at this; omega
  have hg' : w.heap.size + 3 ≤ g := by simpa using hg
  have hsz := HS.out.size
  have HSz : Hid (∀ i, i < ss.length → (nthS ss i).size ≤ maxLen) := hsz
  clear hsz
  have B1s : Below w.heap.size w (w1.setCell ⟨w.heap.size + 2, 0, none⟩ (.slice (some ⟨g, 0, none⟩) ss.length ss.length)) := B1.setCell (p := ⟨w.heap.size + 2, 0, none⟩) (by simp) _
  have K1 : Hid (SlabS (w1.setCell ⟨w.heap.size + 2, 0, none⟩ (.slice (some ⟨g, 0, none⟩) ss.length ss.length)) g ss.length ss ss.length) := hS.set (by show _ ≠ _; simp; omega) _
  clear hS hb1 B0 hg B1
  go_wp2_with fail
  refine (toP_any a' c' ps _ (HP.out.below B1s) LP.out).mono ?_
  rintro e w2 ⟨g', rfl, hgp, hSp, hb2⟩
  have B2 := B1s.trans (hb2.mono B1s.size)
  have hK2 := K1.out.below hb2 K1.out.lt
  have d2 : w2.cell? ⟨w.heap.size + 1, 0, none⟩ = some (.slice none 0 0) := (hb2.cell (p := ⟨w.heap.size + 1, 0, none⟩) (by simp; omega)).trans (by go_simp)
  have d3 : w2.cell? ⟨w.heap.size + 1, 1, none⟩ = some (.slice none 0 0) := (hb2.cell (p := ⟨w.heap.size + 1, 1, none⟩) (by simp; omega)).trans (by go_simp)
  have d4 : w2.cell? ⟨w.heap.size + 2, 0, none⟩ = some (.slice (some ⟨g, 0, none⟩) ss.length ss.length) := (hb2.cell (p := ⟨w.heap.size + 2, 0, none⟩) (by simp; omega)).trans (by go_simp)
  have d5 : w2.cell? ⟨w.heap.size + 2, 1, none⟩ = some (.slice none 0 0) := (hb2.cell (p := ⟨w.heap.size + 2, 1, none⟩) (by simp; omega)).trans (by go_simp)
  have e2 : ∀ o, w2.frozen? ⟨w.heap.size + 1, o, none⟩ = false := fun o => (hb2.frozen (p := ⟨w.heap.size + 1, o, none⟩) (by simp; omega)).trans (by go_simp)
  have e4 : ∀ o, w2.frozen? ⟨w.heap.size + 2, o, none⟩ = false := fun o => (hb2.frozen (p := ⟨w.heap.size + 2, o, none⟩) (by simp; omega)).trans (by go_simp)
  have hgp' : w.heap.size + 3 ≤ g' := by simp at hgp; omega
  have K2 : Hid (SlabS w2 g ss.length ss ss.length) := hK2
  have KP : Hid (SlabP w2 g' ps.length ps ps.length) := hSp
  clear hK2 hSp hb2 hgp c1 c2 c3 c4 c5 f2 f4 K1 B1s
  go_wp2
  refine bodyPost_ret (v := DV (some ⟨g, 0, none⟩) ss.length ss.length (some ⟨g', 0, none⟩) ps.length ps.length) (by go_simp; simp [results, Tryd.results21, go_sem, d2, d3]) rfl ⟨g, g', rfl, ?_, ?_, ?_⟩
  · exact (((K2.out.set (by show _ ≠ _; simp; omega) _).set (by show _ ≠ _; simp; omega) _).set (by show _ ≠ _; simp; omega) _).row HSz.out
  · exact (((KP.out.set (by show _ ≠ _; simp; omega) _).set (by show _ ≠ _; simp; omega) _).set (by show _ ≠ _; simp; omega) _).row HP.out.size
  · exact ((B2.setCell (p := ⟨w.heap.size + 2, 1, none⟩) (by simp) _).setCell (p := ⟨w.heap.size + 1, 0, none⟩) (by simp) _).setCell (p := ⟨w.heap.size + 1, 1, none⟩) (by simp) _
end Go.Proofs.YtgfgaiimigchkaaDoor
