/- What impl.OpenSeal answers, whole. -/
import Derived.Test.YtjiehohfbddpcaaOpC
namespace Go.Proofs.Ytjiehohfbddpcaa
open Go.RowKit

theorem OwnZ.le {w : World} {B B' : Nat} {v : Value} {l : List UInt8} (h : OwnZ w B v l) (hB : B' ≤ B) : OwnZ w B' v l := h.imp (fun ⟨g, cap, cur, fz, e, hg, r⟩ => ⟨g, cap, cur, fz, e, Nat.le_trans hB hg, r⟩) id
theorem opB_not {l : List UInt8} {n : Nat} (hl : Hid (l.length = n)) (h : ¬ opB l) : 10 ≤ n ∧ l.take 2 = [66, 75] ∧ (numOf ((l.drop 2).take 4) : Int) = (n : Int) - 10 := by
  have e := hl.out
  unfold opB at h
  rw [e] at h
  by_cases h1 : n < 10
  · exact absurd (.inl h1) h
  by_cases h2 : l.take 2 = [66, 75]
  · by_cases h3 : (numOf ((l.drop 2).take 4) : Int) = (n : Int) - 10
    · exact ⟨by omega, h2, h3⟩
    · exact absurd (.inr (.inr h3)) h
  · exact absurd (.inr (.inl h2)) h

set_option maxRecDepth 100000 in
set_option maxHeartbeats 4000000 in
theorem implOpen_good (b off c n m k : Nat) (l : List UInt8) (w : World) (h : ReadL w (some ⟨b, off, none⟩) l) (hl : Hid (l.length = n)) (hn : n ≤ 65536) (hnc : n ≤ c) (hm : n = m + 4) (hk : m = k + 6) (hcm : c ≤ 1048576) (hb : ¬ opB l) :
    Calls Try.prog 12 #[.slice (some ⟨b, off, none⟩) n c] w (OpP l w) := by
  obtain ⟨h10, hp, hnum⟩ := opB_not hl hb
  have h1I : ¬ (65536 : Int) < (n : Int) := by omega
  have h2I : ¬ (n : Int) < 10 := by omega
  have h3I : (6 : Int) ≤ (c : Int) := by omega
  have hcv := bk_run w w.heap.size rfl
  obtain ⟨w2, hw2⟩ : ∃ w2, w.alloc (.cells bkC 5 (2, 3)) = w2 := ⟨_, rfl⟩
  have B2 : Hid (Below w.heap.size w w2) := by rw [← hw2]; exact (Below.refl _ _).alloc (Nat.le_refl _) _
  have R2 : ReadL w2 (some ⟨w.heap.size, 0, none⟩) [66, 75] := by rw [← hw2]; exact bk_read w _ rfl
  have HP := hasPrefix_n b off c n w.heap.size l w2 (h.below B2.out) hl (by omega) hnc hcm R2
  rw [decide_eq_true hp] at HP
  rw [hw2] at hcv
  have hL4 := sub_len l 2 4 (by rw [hl.out]; omega)
  have hc4 := conv_n w2 b (off + 2) (c - 2) 4 _ ((h.below B2.out).sub 2 4 (by rw [hl.out]; omega)) hL4
  have HN := numberOf_any (tx ((l.drop 2).take 4)) w2 (by rw [tx_size, hL4]; omega)
  rw [tx_list] at HN
  rw [hnum] at HN
  have HR : Hid (ReadL w (some ⟨b, off, none⟩) l) := h
  generalize tx ((l.drop 2).take 4) = t at *
  have m1 : (n : Int) - 4 = (m : Int) := by omega
  have m2 : (m : Int) ≤ (c : Int) := by omega
  have m3 : (6 : Int) ≤ (m : Int) := by omega
  have m4 : (m : Int) ≤ (n : Int) := by omega
  have m5 : (n : Int) ≤ (c : Int) := by omega
  have HM : Hid (n = m + 4 ∧ m = k + 6 ∧ n ≤ 65536) := ⟨hm, hk, hn⟩
  clear hw2 R2 h hL4 hp hm hk hnum h10 hn hnc
  go_enter Try.func12, Try.ntmps12
  go_wp2_with fail
  refine HP.mono ?_
  rintro e w' ⟨rfl, e'⟩
  obtain rfl := e'.symm
  clear e' HP hcv
  go_wp2_with fail
  refine HN.mono ?_
  rintro e w' ⟨rfl, e'⟩
  obtain rfl := e'.symm
  clear e' HN hc4
  go_wp2_with fail
  have HS : Hid (Below w.heap.size w w2.drew) := B2.out.drew
  have RM : Hid (ReadL w2.drew (some ⟨b, off, none⟩) ((l.drop 0).take m)) := by
    have := (HR.out.below HS.out).sub 0 m (by have := HM.out; rw [hl.out]; omega)
    rwa [Nat.add_zero] at this
  have LM : Hid (((l.drop 0).take m).length = m) := sub_len l 0 m (by have := HM.out; rw [hl.out]; omega)
  have LT : Hid (((l.drop m).take 4).length = n - m) := by
    have := HM.out
    show _ = _
    rw [sub_len l m 4 (by rw [hl.out]; omega)]
    omega
  go_region_held3 (StB w.heap.size w) (first | exact HB3.out | exact HS.out) ((first | (go_at_call 16; refine (sealSum_any (some ⟨b, off, none⟩) c m _ _ RM.out LM (by have := HM.out; omega)).mono ?_; rintro e w3 ⟨v3, rfl, o3, b3⟩; obtain ⟨q, k3, c3, rfl, N3, _, R3⟩ := o3.open; have HB3 : Hid (StB w.heap.size w w3) := HS.out.trans (b3.mono HS.out.size)) | (go_at_call 20; refine (equal_n ⟨q, 0, none⟩ ⟨b, off + m, none⟩ c3 (c - m) k3 (n - m) _ ((l.drop m).take 4) _ rfl rfl R3.out ((HR.out.below HB3.out).sub m 4 (by have := HM.out; rw [hl.out]; omega)) N3 LT).mono ?_; rintro e w4 ⟨rfl, e4⟩; obtain rfl := e4.symm)))
  have HB4 := HB3
  clear HB3 RM LM LT N3 R3 HS B2
  by_cases hs : low4 (sumL (l.take m)) = (l.drop m).take 4
  · rw [decide_eq_true hs]
    have hS : opS l := by unfold opS; rw [hl.out, show n - 4 = m by have := HM.out; omega]; simpa using hs
    obtain ⟨e1, e2⟩ := opC_ok hl (by have := HM.out; omega) hb hS
    have HE : Hid (opC l = 0 ∧ opL l = (l.drop 6).take k) := ⟨e1, by rw [e2, show n - 10 = k by have := HM.out; omega]⟩
    have hk6 : Hid (m - 6 = k) := by have := HM.out; show _ = _; omega
    have LK : Hid (((l.drop 6).take k).length = m - 6) := by
      have := HM.out
      show _ = _
      rw [sub_len l 6 k (by rw [hl.out]; omega)]
      omega
    have RK : Hid (ReadL (w3.alloc (.cells #[.slice (some ⟨b, off + 6, none⟩) (m - 6) (c - 6)] 22)) (some ⟨b, off + 6, none⟩) ((l.drop 6).take k)) :=
      ((HR.out.below HB4.out).sub 6 k (by have := HM.out; rw [hl.out]; omega)).below ((Below.refl _ _).alloc (Nat.le_refl _) _)
    have HW : Hid (Below w.heap.size w (w3.alloc (.cells #[.slice (some ⟨b, off + 6, none⟩) (m - 6) (c - 6)] 22))) := HB4.out.alloc HB4.out.size _
    have G := concat1_any w3.heap.size b (off + 6) (c - 6) (m - 6) _ (w3.alloc (.cells #[.slice (some ⟨b, off + 6, none⟩) (m - 6) (c - 6)] 22)) (by simp) (by simp) RK.out LK (by have := HM.out; omega)
    clear hs hS e1 e2 HR hl hb HM
    go_wp2_with fail
    refine G.mono ?_
    rintro e w5 ⟨u5, rfl, z5, b5⟩
    have HB5 : Hid (Below w.heap.size w w5) := HW.out.trans (b5.mono HW.out.size)
    have HZ : Hid (OwnZ w5 w.heap.size u5 ((l.drop 6).take k)) := z5.le HW.out.size
    clear G z5 b5 HW
    go_wp2
    refine bodyPost_ret (v := .tuple #[u5, .int .i64 0]) (by simp [results, Try.results12, go_sem]) rfl ⟨u5, by rw [HE.out.1], by rw [HE.out.2]; exact HZ.out, HB5.out⟩
  · rw [decide_eq_false hs]
    have hS : ¬ opS l := by unfold opS; rw [hl.out, show n - 4 = m by have := HM.out; omega]; simpa using hs
    obtain ⟨e1, e2⟩ := opC_sum hl (by have := HM.out; omega) hb hS
    have HE : Hid (opC l = 8 ∧ opL l = []) := ⟨e1, e2⟩
    clear hs hS e1 e2 HR hl hb HM
    go_wp2
    refine bodyPost_ret (v := .tuple #[.slice none 0 0, .int .i64 8]) (by simp [results, Try.results12, go_sem]) rfl ⟨_, by rw [HE.out.1], by rw [HE.out.2]; exact .inr ⟨rfl, _, rfl⟩, HB4.out⟩

theorem implOpen_all (b off n : Nat) (l : List UInt8) (w : World) (h : ReadL w (some ⟨b, off, none⟩) l) (hl : Hid (l.length = n)) (hn : n ≤ 1048576) :
    Calls Try.prog 12 #[.slice (some ⟨b, off, none⟩) n n] w (OpP l w) := by
  by_cases hx : 65536 < n ∨ n < 10
  · exact implOpen_short b off n n l w hl hn hx
  · by_cases hb : opB l
    · exact implOpen_bad b off n n l w h hl (by omega) (by omega) (Nat.le_refl _) hn hb
    · exact implOpen_good b off n n (n - 4) (n - 10) l w h hl (by omega) (Nat.le_refl _) (by omega) (by omega) hn hb
end Go.Proofs.Ytjiehohfbddpcaa
