/- Unary signs: impl's UnaryValue (stage 12). -/
import Derived.Test.YthdilgggjkekaaaBvD
namespace Go.Proofs.Ythdilgggjkekaaa
open Go.RowKit

theorem NgS.start (w : World) (k n : Int) (t : ByteArray) : NgS w k n t ((w.alloc (.cells #[.int .i64 k, .int .i64 n, .string t] 27)).alloc (.cells #[.int .i64 0, .int .i64 0, .string noT] 27)) :=
  NgS.mk ⟨by simp, below2 w _ _, blk1' w _ _, blk2' w _ _⟩
theorem row1 {w : World} {g : Nat} {k n : Int} {t : ByteArray} (h : BoxV w g k n t) (ht : t.size ≤ maxLen) : RowV w (some ⟨g, 0, none⟩) [(k, n, t)] := fun i hi => by
  obtain rfl : i = 0 := by simp at hi; omega
  obtain ⟨a, b, c, _, _, _⟩ := box_facts h
  exact ⟨g, 0, rfl, (Array.getElem?_eq_some_iff.1 h).1, ⟨a, b, c⟩, ht⟩
theorem fit1 (l : Int) (v : V3) : (!([v].any fun u => !fitK u.1 (opK l (nthV [v] 0).1))) = fitK v.1 (opK l v.1) := by simp [nthV]
/-- What UnaryValue answers of a name that is found, with the level l and the work X. -/
def unX (l : Int) (k n : Int) (t : ByteArray) (X : V3 × Int) : V3 × Int := if okV k n t = false then zA 1 else if fitK k (opK l k) = false then zA 10 else X
/-- What UnaryValue answers. -/
def unA (s : ByteArray) (k n : Int) (t : ByteArray) : V3 × Int :=
  if 65536 < s.size then zA 2
  else if s = sNeg then unX 7 k n t (reckA subR subC (2, 0, noT) (k, n, t))
  else if s = sNot then unX 3 k n t (if k = 0 then zA 0 else ((1, bit (n == 0), noT), 0))
  else if s = sNul then unX 4 k n t ((1, bit (k == 0), noT), 0)
  else if s = sNnl then unX 4 k n t ((1, bit (!(k == 0)), noT), 0)
  else zA 1
theorem bytes_eq {s r : ByteArray} (h : s.toList = r.toList) : s = r := by
  rw [ByteArray.toList_eq, ByteArray.toList_eq] at h
  obtain ⟨⟨a⟩⟩ := s
  obtain ⟨⟨b⟩⟩ := r
  simp at h
  rw [h]
end Go.Proofs.Ythdilgggjkekaaa
