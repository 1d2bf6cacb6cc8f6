/- spec's look at a history (stage 8). -/
import Derived.Test.YtlcgmifibekegaaHoC
namespace Go.Proofs.Ytlcgmifibekegaa
open Go.RowKit

/-- Act i is right in its history. -/
def OkC (ss : List TH) (i : Nat) : Prop := OkB ss i ∧ ∃ j, j < ss.length ∧ EndAt ss (nthH ss i).1 j
theorem done_neg {ss : List TH} {t r : Int} (h : DoneIs ss t r) (hr : r < 0) : ¬ ∃ j, j < ss.length ∧ EndAt ss t j := by
  rcases h with ⟨_, h⟩ | ⟨k, rfl, _⟩
  · exact fun ⟨j, h1, h2⟩ => h j h1 h2
  · omega
theorem done_lt {ss : List TH} {t r : Int} {i : Nat} (h : DoneIs ss t r) (h0 : ¬ r < 0) (hr : r < (i : Int)) : ¬ ∀ j, j < i → ¬ EndAt ss t j := by
  rcases h with ⟨rfl, h⟩ | ⟨k, rfl, _, he, _⟩
  · omega
  · exact fun h => h k (by omega) he
theorem done_ok {ss : List TH} {t r : Int} {i : Nat} (h : DoneIs ss t r) (h0 : ¬ r < 0) (hr : ¬ r < (i : Int)) : (∀ j, j < i → ¬ EndAt ss t j) ∧ ∃ j, j < ss.length ∧ EndAt ss t j := by
  rcases h with ⟨rfl, h⟩ | ⟨k, rfl, hk, he, hb⟩
  · omega
  · exact ⟨fun j hj => hb j (by omega), k, hk, he⟩

set_option maxRecDepth 100000 in
set_option maxHeartbeats 4000000 in
theorem specHistoryOK_any (a : Option Addr) (cap : Nat) (ss : List TH) (w : World) (h : RowH w a ss) (hl : ss.length ≤ 1048576) :
    Calls Try.prog 35 #[.slice a ss.length cap] w fun e w' => e = .returned (.bool (asB (HistP ss))) ∧ Below w.heap.size w w' := by
  have HR : Hid (RowH w a ss) := h
  clear h
  obtain ⟨len, hlen⟩ : ∃ m, ss.length = m := ⟨_, rfl⟩
  have HL : Hid (ss.length = len) := hlen
  rw [hlen] at hl ⊢
  clear hlen
  by_cases h4 : (4096 : Int) < (len : Int)
  · go_enter Try.func35, Try.ntmps35
    go_wp2
    go_ret
    exact ⟨ret_bool' (asB_false (fun h => by have := h.1; rw [HL.out] at this; omega)), Below.refl _ _⟩
  by_cases h60 : (60 : Int) < (len : Int)
  · go_enter Try.func35, Try.ntmps35
    go_wp2
    go_ret
    exact ⟨ret_bool' (asB_false (fun h => by have := h.1; rw [HL.out] at this; omega)), Below.refl _ _⟩
  go_enter Try.func35, Try.ntmps35
  go_wp2
  go_loopw [3] (fun i wr => ∃ k : Nat, k ≤ len ∧ i = .int .i64 k ∧ Hid (∀ i, i < k → OkC ss i) ∧ Below w.heap.size w wr) (fun i _ => len - (intOf i).toNat)
  case atStart => exact ⟨0, by omega, rfl, fun i hi => by omega, Below.refl _ _⟩
  case round =>
    obtain ⟨k, hk, rfl, HS, hbl⟩ := hrel
    by_cases hlt : k < len
    · obtain ⟨b, off, rfl, hlb, ⟨q0, q1, q2, q3⟩, z1, z2⟩ := (HR.out.below hbl) k (by rw [HL.out]; exact hlt)
      have hltI : (k : Int) < (len : Int) := by omega
      obtain ⟨x, hx⟩ : ∃ x, nthH ss k = x := ⟨_, rfl⟩
      have HX : Hid (nthH ss k = x) := hx
      rw [hx] at q0 q1 q2 q3 z1 z2
      clear hx
      obtain ⟨tx, kd, ky, va⟩ := x
      have HZ : Hid (ky.size ≤ maxLen ∧ va.size ≤ maxLen) := ⟨z1, z2⟩
      simp only at z2
      unfold maxLen at z2
      obtain ⟨W1, hW1⟩ : ∃ W1, wr.alloc (.cells #[.int .i64 tx, .int .i64 kd, .string ky, .string va] 107) = W1 := ⟨_, rfl⟩
      have b1 : Below wr.heap.size wr W1 := hW1 ▸ (Below.refl _ _).alloc (Nat.le_refl _) _
      have yb : W1.heap[wr.heap.size]? = some (.cells #[.int .i64 tx, .int .i64 kd, .string ky, .string va] 107 (0, 0)) := hW1 ▸ heap_new' _ _ _ rfl
      have hB1 := below_step hbl (Nat.le_refl _) b1
      have m0 : W1.cell? ⟨wr.heap.size, 0, none⟩ = some (.int .i64 tx) := slab_cell yb
      have m1 : W1.cell? ⟨wr.heap.size, 1, none⟩ = some (.int .i64 kd) := slab_cell yb
      have m2 : W1.cell? ⟨wr.heap.size, 2, none⟩ = some (.string ky) := slab_cell yb
      have m3 : W1.cell? ⟨wr.heap.size, 3, none⟩ = some (.string va) := slab_cell yb
      clear z1 yb b1
      go_wp2_with fail
      refine (l01In_any tx 0 5 W1).mono ?_
      rintro e w2 ⟨rfl, hq⟩
      obtain rfl := hq.symm
      cases ht : inB tx 0 5 with
      | false =>
        have NOT : Hid (¬ OpP (tx, kd, ky, va)) := fun h => of_decide_eq_false ht h.1
        clear ht
        have HN : Hid (¬ HistP ss) := fun h => NOT.out (by have := (h.2 k (by rw [HL.out]; exact hlt)).1.1; rw [HX.out] at this; exact this)
        go_wp2
        go_ret
        exact ⟨ret_bool' (asB_false HN.out), hB1⟩
      | true =>
        have HT : Hid (0 ≤ tx ∧ tx ≤ 5) := (of_decide_eq_true ht : 0 ≤ tx ∧ tx ≤ 5)
        clear ht q0 q1 q2 q3 hW1
        go_wp2_with fail
        refine (l01In_any kd 1 4 W1).mono ?_
        rintro e w2 ⟨rfl, hq⟩
        obtain rfl := hq.symm
        cases hc : inB kd 1 4 with
        | false =>
          have NOT : Hid (¬ OpP (tx, kd, ky, va)) := fun h => of_decide_eq_false hc (by rcases h.2 with h | h | h <;> have := h.1 <;> simp only at this <;> omega)
          clear hc
          have HN : Hid (¬ HistP ss) := fun h => NOT.out (by have := (h.2 k (by rw [HL.out]; exact hlt)).1.1; rw [HX.out] at this; exact this)
          go_wp2
          go_ret
          exact ⟨ret_bool' (asB_false HN.out), hB1⟩
        | true =>
          obtain ⟨c1, c2⟩ := of_decide_eq_true hc
          clear hc
          obtain c | c | c | c : kd = 1 ∨ kd = 2 ∨ kd = 3 ∨ kd = 4 := by omega
          · subst c
            go_wp2_with fail
            refine (l07Key_any ky W1 HZ.out.1).mono ?_
            rintro e w3 ⟨rfl, hq⟩
            obtain rfl := hq.symm
            cases hk : asB (KeyP ky) with
            | false =>
              have HK : Hid (¬ KeyP ky) := asB_not hk
              clear hk
              have NOT : Hid (¬ OpP (tx, 1, ky, va)) := fun h => by
                rcases h.2 with h | h | h
                · exact HK.out h.2.1
                · exact HK.out h.2.1
                · have := h.1; simp at this
              have HN : Hid (¬ HistP ss) := fun h => NOT.out (by have := (h.2 k (by rw [HL.out]; exact hlt)).1.1; rw [HX.out] at this; exact this)
              go_wp2
              go_ret
              exact ⟨ret_bool' (asB_false HN.out), hB1⟩
            | true =>
              have HK : Hid (KeyP ky) := asB_is hk
              clear hk
              cases he : va.toList.isEmpty with
              | false =>
                have NOT : Hid (¬ OpP (tx, 1, ky, va)) := fun h => by
                  rcases h.2 with h | h | h
                  · exact empF he h.2.2
                  · have := h.1; simp at this
                  · have := h.1; simp at this
                have HN : Hid (¬ HistP ss) := fun h => NOT.out (by have := (h.2 k (by rw [HL.out]; exact hlt)).1.1; rw [HX.out] at this; exact this)
                go_wp2
                go_ret
                exact ⟨ret_bool' (asB_false HN.out), hB1⟩
              | true =>
                have HV : Hid (va.size = 0) := empT he
                have hv200 : ¬ (200 : Int) < (va.size : Int) := by have := HV.out; omega
                have HO : Hid (OpP (tx, 1, ky, va)) := ⟨HT.out, .inl ⟨rfl, HK.out, HV.out⟩⟩
                have hcall := l08Done_any (some ⟨b, off, none⟩) cap ss tx W1 (HR.out.below hB1) (by rw [HL.out]; omega)
                rw [HL.out] at hcall
                go_wp2_with fail
                refine hcall.mono ?_
                clear hcall
                rintro e w3 ⟨r, rfl, hd, hq⟩
                obtain rfl := hq.symm
                have HD : Hid (DoneIs ss tx r) := hd
                clear hd
                by_cases r0 : r < 0
                · have HN : Hid (¬ HistP ss) := fun h => done_neg HD.out r0 (by have := (h.2 k (by rw [HL.out]; exact hlt)).2; rw [HX.out] at this; exact this)
                  go_wp2
                  go_ret
                  exact ⟨ret_bool' (asB_false HN.out), hB1⟩
                by_cases r1 : r < (k : Int)
                · have HN : Hid (¬ HistP ss) := fun h => done_lt HD.out r0 r1 (by have := (h.2 k (by rw [HL.out]; exact hlt)).1.2; rw [HX.out] at this; exact this)
                  go_wp2
                  go_ret
                  exact ⟨ret_bool' (asB_false HN.out), hB1⟩
                have HNX : Hid (∀ i, i < k + 1 → OkC ss i) := fun i hi => by
                  by_cases e : i = k
                  · subst e
                    have := done_ok HD.out r0 r1
                    exact ⟨⟨by rw [HX.out]; exact HO.out, by rw [HX.out]; exact this.1⟩, by rw [HX.out]; exact this.2⟩
                  · exact HS.out i (by omega)
                go_wp2
                go_roundw
                case rel => exact ⟨k + 1, by omega, by go_num, HNX, hB1⟩
                case measure => simp [intOf]; omega
          · subst c
            go_wp2_with fail
            refine (l07Key_any ky W1 HZ.out.1).mono ?_
            rintro e w3 ⟨rfl, hq⟩
            obtain rfl := hq.symm
            cases hk : asB (KeyP ky) with
            | false =>
              have HK : Hid (¬ KeyP ky) := asB_not hk
              clear hk
              have NOT : Hid (¬ OpP (tx, 2, ky, va)) := fun h => by
                rcases h.2 with h | h | h
                · exact HK.out h.2.1
                · exact HK.out h.2.1
                · have := h.1; simp at this
              have HN : Hid (¬ HistP ss) := fun h => NOT.out (by have := (h.2 k (by rw [HL.out]; exact hlt)).1.1; rw [HX.out] at this; exact this)
              go_wp2
              go_ret
              exact ⟨ret_bool' (asB_false HN.out), hB1⟩
            | true =>
              have HK : Hid (KeyP ky) := asB_is hk
              clear hk
              by_cases hv200 : (200 : Int) < (va.size : Int)
              · have NOT : Hid (¬ OpP (tx, 2, ky, va)) := fun h => by
                  rcases h.2 with h | h | h
                  · have := h.1; simp at this
                  · have := h.2.2; simp only at this; omega
                  · have := h.1; simp at this
                have HN : Hid (¬ HistP ss) := fun h => NOT.out (by have := (h.2 k (by rw [HL.out]; exact hlt)).1.1; rw [HX.out] at this; exact this)
                go_wp2
                go_ret
                exact ⟨ret_bool' (asB_false HN.out), hB1⟩
              · have HO : Hid (OpP (tx, 2, ky, va)) := ⟨HT.out, .inr (.inl ⟨rfl, HK.out, by simp only; omega⟩)⟩
                have hcall := l08Done_any (some ⟨b, off, none⟩) cap ss tx W1 (HR.out.below hB1) (by rw [HL.out]; omega)
                rw [HL.out] at hcall
                go_wp2_with fail
                refine hcall.mono ?_
                clear hcall
                rintro e w3 ⟨r, rfl, hd, hq⟩
                obtain rfl := hq.symm
                have HD : Hid (DoneIs ss tx r) := hd
                clear hd
                by_cases r0 : r < 0
                · have HN : Hid (¬ HistP ss) := fun h => done_neg HD.out r0 (by have := (h.2 k (by rw [HL.out]; exact hlt)).2; rw [HX.out] at this; exact this)
                  go_wp2
                  go_ret
                  exact ⟨ret_bool' (asB_false HN.out), hB1⟩
                by_cases r1 : r < (k : Int)
                · have HN : Hid (¬ HistP ss) := fun h => done_lt HD.out r0 r1 (by have := (h.2 k (by rw [HL.out]; exact hlt)).1.2; rw [HX.out] at this; exact this)
                  go_wp2
                  go_ret
                  exact ⟨ret_bool' (asB_false HN.out), hB1⟩
                have HNX : Hid (∀ i, i < k + 1 → OkC ss i) := fun i hi => by
                  by_cases e : i = k
                  · subst e
                    have := done_ok HD.out r0 r1
                    exact ⟨⟨by rw [HX.out]; exact HO.out, by rw [HX.out]; exact this.1⟩, by rw [HX.out]; exact this.2⟩
                  · exact HS.out i (by omega)
                go_wp2
                go_roundw
                case rel => exact ⟨k + 1, by omega, by go_num, HNX, hB1⟩
                case measure => simp [intOf]; omega
          · subst c
            cases hy : ky.toList.isEmpty with
            | false =>
              have NOT : Hid (¬ OpP (tx, 3, ky, va)) := fun h => by
                rcases h.2 with h | h | h
                · have := h.1; simp at this
                · have := h.1; simp at this
                · exact empF hy h.2.1
              have HN : Hid (¬ HistP ss) := fun h => NOT.out (by have := (h.2 k (by rw [HL.out]; exact hlt)).1.1; rw [HX.out] at this; exact this)
              go_wp2
              go_ret
              exact ⟨ret_bool' (asB_false HN.out), hB1⟩
            | true =>
              have HY : Hid (ky.size = 0) := empT hy
              cases he : va.toList.isEmpty with
              | false =>
                have NOT : Hid (¬ OpP (tx, 3, ky, va)) := fun h => by
                  rcases h.2 with h | h | h
                  · have := h.1; simp at this
                  · have := h.1; simp at this
                  · exact empF he h.2.2
                have HN : Hid (¬ HistP ss) := fun h => NOT.out (by have := (h.2 k (by rw [HL.out]; exact hlt)).1.1; rw [HX.out] at this; exact this)
                go_wp2
                go_ret
                exact ⟨ret_bool' (asB_false HN.out), hB1⟩
              | true =>
                have HV : Hid (va.size = 0) := empT he
                have hv200 : ¬ (200 : Int) < (va.size : Int) := by have := HV.out; omega
                have HO : Hid (OpP (tx, 3, ky, va)) := ⟨HT.out, .inr (.inr ⟨.inl rfl, HY.out, HV.out⟩)⟩
                have hcall := l08Done_any (some ⟨b, off, none⟩) cap ss tx W1 (HR.out.below hB1) (by rw [HL.out]; omega)
                rw [HL.out] at hcall
                go_wp2_with fail
                refine hcall.mono ?_
                clear hcall
                rintro e w3 ⟨r, rfl, hd, hq⟩
                obtain rfl := hq.symm
                have HD : Hid (DoneIs ss tx r) := hd
                clear hd
                by_cases r0 : r < 0
                · have HN : Hid (¬ HistP ss) := fun h => done_neg HD.out r0 (by have := (h.2 k (by rw [HL.out]; exact hlt)).2; rw [HX.out] at this; exact this)
                  go_wp2
                  go_ret
                  exact ⟨ret_bool' (asB_false HN.out), hB1⟩
                by_cases r1 : r < (k : Int)
                · have HN : Hid (¬ HistP ss) := fun h => done_lt HD.out r0 r1 (by have := (h.2 k (by rw [HL.out]; exact hlt)).1.2; rw [HX.out] at this; exact this)
                  go_wp2
                  go_ret
                  exact ⟨ret_bool' (asB_false HN.out), hB1⟩
                have HNX : Hid (∀ i, i < k + 1 → OkC ss i) := fun i hi => by
                  by_cases e : i = k
                  · subst e
                    have := done_ok HD.out r0 r1
                    exact ⟨⟨by rw [HX.out]; exact HO.out, by rw [HX.out]; exact this.1⟩, by rw [HX.out]; exact this.2⟩
                  · exact HS.out i (by omega)
                go_wp2
                go_roundw
                case rel => exact ⟨k + 1, by omega, by go_num, HNX, hB1⟩
                case measure => simp [intOf]; omega
          · subst c
            cases hy : ky.toList.isEmpty with
            | false =>
              have NOT : Hid (¬ OpP (tx, 4, ky, va)) := fun h => by
                rcases h.2 with h | h | h
                · have := h.1; simp at this
                · have := h.1; simp at this
                · exact empF hy h.2.1
              have HN : Hid (¬ HistP ss) := fun h => NOT.out (by have := (h.2 k (by rw [HL.out]; exact hlt)).1.1; rw [HX.out] at this; exact this)
              go_wp2
              go_ret
              exact ⟨ret_bool' (asB_false HN.out), hB1⟩
            | true =>
              have HY : Hid (ky.size = 0) := empT hy
              cases he : va.toList.isEmpty with
              | false =>
                have NOT : Hid (¬ OpP (tx, 4, ky, va)) := fun h => by
                  rcases h.2 with h | h | h
                  · have := h.1; simp at this
                  · have := h.1; simp at this
                  · exact empF he h.2.2
                have HN : Hid (¬ HistP ss) := fun h => NOT.out (by have := (h.2 k (by rw [HL.out]; exact hlt)).1.1; rw [HX.out] at this; exact this)
                go_wp2
                go_ret
                exact ⟨ret_bool' (asB_false HN.out), hB1⟩
              | true =>
                have HV : Hid (va.size = 0) := empT he
                have hv200 : ¬ (200 : Int) < (va.size : Int) := by have := HV.out; omega
                have HO : Hid (OpP (tx, 4, ky, va)) := ⟨HT.out, .inr (.inr ⟨.inr rfl, HY.out, HV.out⟩)⟩
                have hcall := l08Done_any (some ⟨b, off, none⟩) cap ss tx W1 (HR.out.below hB1) (by rw [HL.out]; omega)
                rw [HL.out] at hcall
                go_wp2_with fail
                refine hcall.mono ?_
                clear hcall
                rintro e w3 ⟨r, rfl, hd, hq⟩
                obtain rfl := hq.symm
                have HD : Hid (DoneIs ss tx r) := hd
                clear hd
                by_cases r0 : r < 0
                · have HN : Hid (¬ HistP ss) := fun h => done_neg HD.out r0 (by have := (h.2 k (by rw [HL.out]; exact hlt)).2; rw [HX.out] at this; exact this)
                  go_wp2
                  go_ret
                  exact ⟨ret_bool' (asB_false HN.out), hB1⟩
                by_cases r1 : r < (k : Int)
                · have HN : Hid (¬ HistP ss) := fun h => done_lt HD.out r0 r1 (by have := (h.2 k (by rw [HL.out]; exact hlt)).1.2; rw [HX.out] at this; exact this)
                  go_wp2
                  go_ret
                  exact ⟨ret_bool' (asB_false HN.out), hB1⟩
                have HNX : Hid (∀ i, i < k + 1 → OkC ss i) := fun i hi => by
                  by_cases e : i = k
                  · subst e
                    have := done_ok HD.out r0 r1
                    exact ⟨⟨by rw [HX.out]; exact HO.out, by rw [HX.out]; exact this.1⟩, by rw [HX.out]; exact this.2⟩
                  · exact HS.out i (by omega)
                go_wp2
                go_roundw
                case rel => exact ⟨k + 1, by omega, by go_num, HNX, hB1⟩
                case measure => simp [intOf]; omega
    · obtain rfl : k = len := by omega
      go_wp2
      go_ret
      exact ⟨ret_bool' (asB_true ⟨by rw [HL.out]; omega, fun i hi => HS.out i (by rw [← HL.out]; exact hi)⟩), hbl⟩
end Go.Proofs.Ytlcgmifibekegaa
