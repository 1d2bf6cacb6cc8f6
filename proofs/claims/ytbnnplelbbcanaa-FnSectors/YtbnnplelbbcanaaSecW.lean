/- One byte of a sector's bytes is changed (towards FnSectors). -/
import Derived.Test.YtbnnplelbbcanaaAt
import Derived.Test.YtbnnplelbbcanaaSecM
import Derived.Test.YtbnnplelbbcanaaPagE
namespace Go.Proofs.Ytbnnplelbbcanaa
open Go.RowKit

theorem OwnL.look {w : World} {B g n cap k : Nat} {l : List UInt8} (h : OwnL w B (.slice (some ⟨g, 0, none⟩) n cap) l) (hk : k < l.length) : w.cell? ⟨g, k, none⟩ = some (.int .u8 (byU l k)) ∧ w.frozen? ⟨g, k, none⟩ = false ∧ g < w.heap.size := by
  obtain ⟨g', cap', cur, fz, e, hB, hh, hf, hl, _, hs, hc⟩ := h
  simp only [Value.slice.injEq, Option.some.injEq, Addr.mk.injEq] at e
  obtain ⟨⟨rfl, _⟩, rfl, rfl⟩ := e
  exact ⟨by rw [row_cell hh]; exact hc k hk, row_free hh (by omega), slab_lt hh⟩
theorem OwnL.put {w : World} {B g n cap k : Nat} {l : List UInt8} (h : OwnL w B (.slice (some ⟨g, 0, none⟩) n cap) l) (hk : k < l.length) (x : UInt8) : OwnL (w.setCell ⟨g, k, none⟩ (.int .u8 (x.toNat : Int))) B (.slice (some ⟨g, 0, none⟩) n cap) (l.set k x) := by
  obtain ⟨g', cap', cur, fz, e, hB, hh, hf, hl, hm, hs, hc⟩ := h
  simp only [Value.slice.injEq, Option.some.injEq, Addr.mk.injEq] at e
  obtain ⟨⟨rfl, _⟩, rfl, rfl⟩ := e
  refine ⟨g, cap, _, fz, by rw [List.length_set], hB, row_set hh _, hf, by rw [List.length_set]; exact hl, hm, by simpa using hs, fun i hi => ?_⟩
  rw [List.length_set] at hi
  by_cases e : i = k
  · subst e
    rw [Array.getElem?_setIfInBounds_self_of_lt (by omega)]
    unfold byU
    rw [List.getD_eq_getElem?_getD, List.getElem?_set_self hk]
    rfl
  · rw [Array.getElem?_setIfInBounds_ne (by omega), hc i hi]
    unfold byU
    rw [List.getD_eq_getElem?_getD, List.getD_eq_getElem?_getD, List.getElem?_set_ne (by omega)]
/-- A byte, xor a number from 1 to 255, is another byte. -/
theorem xor_byte (c : UInt8) (r : Int) (h0 : 0 ≤ r) (h1 : r < 255) : ∃ x : UInt8, bits .xor .u8 (c.toNat : Int) (1 + r) = (x.toNat : Int) ∧ x ≠ c := by
  obtain ⟨m, rfl⟩ := Int.eq_ofNat_of_zero_le h0
  have hm : m + 1 < 256 := by omega
  refine ⟨c ^^^ UInt8.ofNat (m + 1), ?_, fun h => ?_⟩
  · have e1 : (1 : Int) + (m : Int) = ((m + 1 : Nat) : Int) := by omega
    rw [e1, UInt8.toNat_xor]
    have e2 : (UInt8.ofNat (m + 1)).toNat = m + 1 := by rw [UInt8.toNat_ofNat']; omega
    rw [e2]
    have hc := c.toNat_lt
    exact u8_xor_nat _ _ hc hm
  · have e2 : (UInt8.ofNat (m + 1)).toNat = m + 1 := by rw [UInt8.toNat_ofNat']; omega
    have h2 : c ^^^ (c ^^^ UInt8.ofNat (m + 1)) = c ^^^ c := by rw [h]
    rw [← UInt8.xor_assoc, UInt8.xor_self, UInt8.zero_xor] at h2
    rw [h2] at e2
    simp at e2
theorem at_n {w : World} {a : Option Addr} {cap n : Nat} {l : List UInt8} (h : ReadL w a l) (hl : Hid (l.length = n)) (hlen : n ≤ 1048576) (i : Nat) (m : Int) (hi : i ≤ 10) (hn : 1 < m) (hn2 : m ≤ 10000) :
    Calls Try.prog 9 #[.slice a n cap, .int .i64 i, .int .i64 m] w fun e w' => ∃ r : Int, e = .returned (.int .i64 r) ∧ 0 ≤ r ∧ r < m ∧ Below w.heap.size w w' := by
  have e := hl.out
  subst e
  exact at_any h hlen i m hi hn hn2
theorem blobOf_n {w : World} {a : Option Addr} {cap n : Nat} {l : List UInt8} (h : ReadL w a l) (hl : Hid (l.length = n)) (hlen : n ≤ 1048576) :
    Calls Try.prog 10 #[.slice a n cap] w fun e w' => ∃ t : ByteArray, e = .returned (.string t) ∧ t.size ≤ 400 ∧ Below w.heap.size w w' := by
  have e := hl.out
  subst e
  exact blobOf_any h (by omega)
theorem pageR_ok {page next epoch : Int} {s : ByteArray} (p0 : 2 ≤ page) (p1 : page ≤ 255) (hx : next = 0 ∨ (2 ≤ next ∧ next ≤ 255)) (e0 : 1 ≤ epoch) (e1 : epoch ≤ 5000) (hs : s.size ≤ 27) : pageR page next epoch s = (tx (pageL page next epoch s.data.toList), 0) := by
  unfold pageR
  rw [if_neg (by omega), if_pos ⟨decide_eq_true (by omega), hx.imp id (fun h => decide_eq_true h), decide_eq_true (by omega), hs⟩]
theorem readV_right {page next epoch : Int} {s : ByteArray} (p0 : 2 ≤ page) (p1 : page ≤ 255) (hx : next = 0 ∨ (2 ≤ next ∧ next ≤ 255)) (e0 : 1 ≤ epoch) (e1 : epoch ≤ 5000) (hs : s.size ≤ 27) :
    readV page epoch (tx (pageL page next epoch s.data.toList)) = T3 next ((tx (pageL page next epoch s.data.toList)).extract 1 28) 0 := by
  have hl : s.data.toList.length ≤ 27 := hs
  have hz : (tx (pageL page next epoch s.data.toList)).size = 32 := (tx_size _).trans (pageL_len _ _ _ _ hl)
  rw [readV_ok (by omega) (decide_eq_true (by omega)) (decide_eq_true (by omega)) hz, if_pos (page_right _ _ _ _ hl), page_first _ _ _ _ (by omega) (by omega)]
theorem readV_bad {page epoch : Int} {T : ByteArray} (p0 : 2 ≤ page) (p1 : page ≤ 255) (e0 : 1 ≤ epoch) (e1 : epoch ≤ 5001) (hz : T.size = 32) (h : sumB page epoch T = false) : readV page epoch T = T3 0 ⟨#[]⟩ 8 := by
  rw [readV_ok (by omega) (decide_eq_true (by omega)) (decide_eq_true (by omega)) hz, if_neg (by rw [h]; simp)]
theorem back_data {page next epoch : Int} {s : ByteArray} (hs : s.size ≤ 27) : ((tx (pageL page next epoch s.data.toList)).extract 1 28).extract 0 s.size = s := by
  apply ByteArray.ext
  apply Array.toList_inj.1
  rw [ext_list, page_data _ _ _ _ hs, List.drop_zero]
  exact List.take_left' (by rw [Nat.sub_zero]; rfl)
def pairN (r : Int) (k : Nat) : Int := if k = 0 then 0 else 2 + r

theorem okM_ok {e f l : Int} (e0 : 1 ≤ e) (e1 : e ≤ 5000) (f0 : 2 ≤ f) (f1 : f ≤ 255) (l0 : 1 ≤ l) (l1 : l ≤ 3000) : okM e f l = true := by
  unfold okM
  rw [if_neg (by omega)]
  have h1 : inB e 1 4294967295 = true := decide_eq_true (by omega)
  have h2 : inB l 0 3000 = true := decide_eq_true (by omega)
  have h3 : inB f 2 255 = true := decide_eq_true (by omega)
  rw [h1, h2, h3]
  rfl
theorem metaR_ok {e f l : Int} (e0 : 1 ≤ e) (e1 : e ≤ 5000) (f0 : 2 ≤ f) (f1 : f ≤ 255) (l0 : 1 ≤ l) (l1 : l ≤ 3000) : metaR e f l = (tx (metaL e f l), 0) := by
  unfold metaR
  rw [if_pos (okM_ok e0 e1 f0 f1 l0 l1)]
theorem rmV_right {e f l : Int} (e0 : 1 ≤ e) (e1 : e ≤ 5000) (f0 : 2 ≤ f) (f1 : f ≤ 255) (l0 : 1 ≤ l) (l1 : l ≤ 3000) : rmV (tx (metaL e f l)) = T2 e f l 0 := by
  obtain ⟨E, rfl⟩ := Int.eq_ofNat_of_zero_le (show 0 ≤ e by omega)
  obtain ⟨L, rfl⟩ := Int.eq_ofNat_of_zero_le (show 0 ≤ l by omega)
  rw [rmV_ok ((tx_size _).trans (metaL_len _ _ _)), if_pos (meta_right E f L (okM_ok e0 e1 f0 f1 l0 l1) (by omega) ⟨by omega, by omega⟩ (by omega)), meta_E E f L (by omega), meta_F _ f _ (by omega) (by omega), meta_L _ _ L (by omega)]
theorem rmV_bad {s : ByteArray} (h : s.size = 32) (h2 : mOK s = false) : rmV s = T2 0 0 0 3 := by
  rw [rmV_ok h, if_neg (by rw [h2]; simp)]
theorem set_oth {w : World} {b o g : Nat} (v : Value) (h : b ≠ g) : (w.setCell ⟨b, o, none⟩ v).heap[g]? = w.heap[g]? := by
  simp [World.setCell, Array.getElem?_modify, h]
theorem specPSum_n (a : Option Addr) (c n : Nat) (l : List UInt8) (w : World) (h : ReadL w a l) (hl : Hid (l.length = n)) (hn : n ≤ 65536) :
    Calls Try.prog 17 #[.slice a n c] w fun e w' => e = .returned (.int .i64 (sumL l)) ∧ w' = w := by
  have e := hl.out
  subst e
  have := specPageSum_any a c l w h (by omega)
  rwa [if_neg (by omega)] at this
theorem wrap_small (x : Int) (h0 : 0 ≤ x) (h1 : x < 256) : IntKind.u8.wrap (IntKind.i64.wrap x) = x := by
  have e1 : IntKind.i64.wrap x = x := by rw [IntKind.wrap_i64]; omega
  rw [e1]
  simp [IntKind.wrap, IntKind.signed, IntKind.bits]
  omega
end Go.Proofs.Ytbnnplelbbcanaa
