/- Rows drawn of a source of choices (stage 13). -/
import Derived.Test.YthdilgggjkekaaaDrA
import Derived.Test.YthdilgggjkekaaaPrE
namespace Go.Proofs.Ythdilgggjkekaaa.R
open Go.RowKit

theorem OwnV.slab' {w : World} {B : Nat} {u : Value} {l : List V3} (h : OwnV w B u l) : ∃ a n cap, u = .slice a n cap := by
  obtain ⟨a, cap, e, _⟩ := OwnV.slab h
  exact ⟨a, _, cap, e⟩
/-- Right values, small ones. -/
def GoodV (vs : List V3) : Prop := ∀ v ∈ vs, okV3 v = true ∧ In64 v.2.1 ∧ v.2.2.size ≤ 8
def GoodR (nw : Nat) (rs : Rs) : Prop := ∀ vs ∈ rs, vs.length = nw ∧ GoodV vs
theorem OwnV.but {w w' : World} {b B : Nat} {v : Value} {l : List V3} (h : OwnV w B v l) (hb : But b w w') (hB : b < B) : OwnV w' B v l := OwnV.block h fun g hg hg2 => hb.block g hg (by omega)
theorem BldR.but {w w' : World} {b B hi : Nat} {v : Value} {rs : Rs} (h : BldR w B hi v rs) (hb : But b w w') (hB : b < B) : BldR w' B hi v rs := by
  obtain ⟨xs, gs, ns, cs, ax, ⟨h1, h2⟩, hc, hd⟩ := h
  refine ⟨xs, gs, ns, cs, ax, ⟨h1, ?_⟩, fun i hi => ⟨(hc i hi).1, fun h0 => by obtain ⟨q1, q2, q3, q4, q5⟩ := (hc i hi).2 h0; exact ⟨q1, q2, q3, q4, q5.at (hb.block _ q5.lt (by omega))⟩⟩, hd⟩
  rcases h2 with h | ⟨g, cap, cur, e, hg, hh, r⟩
  · exact .inl h
  · exact .inr ⟨g, cap, cur, e, hg, (hb.block g (slab_lt hh) (by omega)).trans hh, r⟩
theorem But.grow {w W w' : World} {b H : Nat} (h : But b w W) (hb : Below H W w') (hH : w.heap.size ≤ H) : But b w w' :=
  ⟨hb.os.trans h.os, hb.tape.trans h.tape, hb.output.trans h.output, Nat.le_trans h.size hb.size, fun k hk hne => (hb.block k (by omega)).trans (h.block k hk hne)⟩
theorem Src.grow {w w' : World} {b H : Nat} {a : Option Addr} {len cap m : Nat} (h : Src w b a len cap m) (hb : Below H w w') (hl : b < H) (hc : 0 < len → ∀ x, a = some x → x.block < H) : Src w' b a len cap m := by
  obtain ⟨k, seed, hk, h1, h2, h3, h4⟩ := h.ks
  refine ⟨(hb.cell (p := ⟨b, 0, none⟩) hl).trans h.c0, ⟨k, seed, hk, (hb.cell (p := ⟨b, 1, none⟩) hl).trans h1, (hb.cell (p := ⟨b, 2, none⟩) hl).trans h2, h3, h4⟩, (hb.frozen (p := ⟨b, 1, none⟩) hl).trans h.f1, (hb.frozen (p := ⟨b, 2, none⟩) hl).trans h.f2, h.lenle, fun i hi => ?_⟩
  obtain ⟨cb, off, c, e, hne, hlt, h0, h5, hcl⟩ := h.code i hi
  have hcb : cb < H := hc (by omega) _ e
  exact ⟨cb, off, c, e, hne, Nat.lt_of_lt_of_le hlt hb.size, h0, h5, (hb.cell (p := ⟨cb, off + i, none⟩) hcb).trans hcl⟩
theorem one_row (w : World) (k n : Int) (t : ByteArray) (ht : t.size ≤ 8) : RowV (w.alloc (.cells #[.int .i64 k, .int .i64 n, .string t] 27)) (some ⟨w.heap.size, 0, none⟩) [(k, n, t)] := fun i hi => by
  have : i = 0 := by simpa using hi
  subst this
  exact ⟨w.heap.size, 0, rfl, by simp, ⟨by simp [nthV], by simp [nthV], by simp [nthV]⟩, by simp [nthV, maxLen]; omega⟩
set_option maxRecDepth 100000 in
set_option maxHeartbeats 8000000 in
theorem rows_any {w : World} {b : Nat} {a : Option Addr} {len cap m : Nat} (h : Src w b a len cap m) (hm : m ≤ 50000) (hcode : 0 < len → ∀ x, a = some x → x.block < w.heap.size) :
    Calls Try.prog 9 #[.pointer (some ⟨b, 0, none⟩)] w fun e w' => ∃ v rs nw, e = .returned v ∧ BldR w' w.heap.size w'.heap.size v rs ∧ rs.length ≤ 7 ∧ (1 ≤ nw ∧ nw ≤ 3) ∧ GoodR nw rs ∧ But b w w' := by
  have hbw := h.lt
  have B0 : Below w.heap.size w (w.alloc (.cells #[] 25)) := (Below.refl _ _).alloc (Nat.le_refl _) _
  have O0 : Hid (BldR (w.alloc (.cells #[] 25)) w.heap.size (w.alloc (.cells #[] 25)).heap.size (.slice (some ⟨w.heap.size, 0, none⟩) 0 0) []) := BldR.made (Nat.le_refl _)
  have N1 := next_any 3 (h.below B0) (by omega) (by omega) (by omega)
  have BW : Hid (But b w (w.alloc (.cells #[] 25))) := But.of_below B0
  have HC : Hid (0 < len → ∀ x, a = some x → x.block < w.heap.size) := hcode
  clear h hcode B0
  go_enter Try.func9, Try.ntmps9
  go_wp2_with fail
  refine N1.mono ?_
  rintro e w1 ⟨r1, rfl, r10, r13, S1, b1⟩
  have N2 := next_any 8 S1 (by omega) (by omega) (by omega)
  have P1 : Hid (BldR w1 w.heap.size w1.heap.size (.slice (some ⟨w.heap.size, 0, none⟩) 0 0) [] ∧ But b w w1) := ⟨(O0.out.but b1 hbw).mono b1.size, BW.out.trans b1⟩
  clear N1 b1 O0 BW S1
  go_wp2_with fail
  refine N2.mono ?_
  rintro e w2 ⟨r2, rfl, r20, r28, S2, b2⟩
  have P2 : Hid (Src w2 b a len cap (m + 1 + 1) ∧ BldR w2 w.heap.size w2.heap.size (.slice (some ⟨w.heap.size, 0, none⟩) 0 0) [] ∧ But b w w2) := ⟨S2, (P1.out.1.but b2 hbw).mono b2.size, P1.out.2.trans b2⟩
  clear N2 b2 P1 S2
  obtain ⟨nw, hnw⟩ : ∃ nw : Nat, 1 + r1 = (nw : Int) := ⟨(1 + r1).toNat, by omega⟩
  have hn1 : 1 ≤ nw ∧ nw ≤ 3 := by omega
  obtain ⟨r0, hr0⟩ : ∃ r0 : Nat, r2 = (r0 : Int) := ⟨r2.toNat, by omega⟩
  subst hr0
  go_wp2
  go_loopw [3, 5] (fun v i wr => ∃ (q : Nat) (rs : Rs), q ≤ r0 ∧ i = .int .i64 q ∧ rs.length + q = r0 ∧ Hid (GoodR nw rs ∧ Src wr b a len cap (m + 2 + 20 * rs.length) ∧ BldR wr w.heap.size wr.heap.size v rs ∧ But b w wr)) (fun _ i _ => (intOf i).toNat)
  case atStart => exact ⟨r0, [], by omega, rfl, by simp, fun vs hv => by simp at hv, P2.out.1.mono (by simp), P2.out.2.1, P2.out.2.2⟩
  case round =>
    clear P2
    obtain ⟨q, rs, hq, rfl, hrq, HW⟩ := hrel
    by_cases hq0 : 0 < q
    · have hqI : (0 : Int) < (q : Int) := by omega
      obtain ⟨wo, hwo⟩ : ∃ wo, wo = wr := ⟨_, rfl⟩
      have HO : Hid (GoodR nw rs ∧ Src wo b a len cap (m + 2 + 20 * rs.length) ∧ BldR wo w.heap.size wo.heap.size u3 rs ∧ But b w wo) := by rw [hwo]; exact HW.out
      have hwl : w.heap.size ≤ wo.heap.size := HO.out.2.2.2.size
      have B0 : Below wo.heap.size wo (wr.alloc (.cells #[] 27)) := by rw [hwo]; exact (Below.refl _ _).alloc (Nat.le_refl _) _
      have I0 : Hid (Src (wr.alloc (.cells #[] 27)) b a len cap (m + 2 + 20 * rs.length) ∧ OwnV (wr.alloc (.cells #[] 27)) wo.heap.size (.slice (some ⟨wr.heap.size, 0, none⟩) 0 0) [] ∧ But b wo (wr.alloc (.cells #[] 27))) := ⟨HO.out.2.1.below B0, by rw [hwo]; exact OwnV.empty (Nat.le_refl _), But.of_below B0⟩
      clear HW B0 hwo
      go_wp2
      go_loopw [6, 7] (fun v k wq => ∃ (c : Nat) (vs : List V3), c ≤ nw ∧ k = .int .i64 c ∧ vs.length = c ∧ Hid (GoodV vs ∧ Src wq b a len cap (m + 2 + 20 * rs.length + 5 * c) ∧ OwnV wq wo.heap.size v vs ∧ But b wo wq)) (fun _ k _ => nw - (intOf k).toNat)
      case atStart => exact ⟨0, [], by omega, rfl, rfl, fun v hv => by simp at hv, I0.out.1, I0.out.2.1, I0.out.2.2⟩
      case round =>
        clear I0
        obtain ⟨c, vs, hc, rfl, hvl, HQ⟩ := hrel
        by_cases hcn : c < nw
        · have hcI : (c : Int) < (nw : Int) := by omega
          have hcd : 0 < len → ∀ x, a = some x → x.block < wo.heap.size := fun h x e => Nat.lt_of_lt_of_le (HC.out h x e) hwl
          have V := value_any HQ.out.2.1 (by omega) (fun h x e => Nat.lt_of_lt_of_le (hcd h x e) HQ.out.2.2.2.size)
          go_wp2_with fail
          refine V.mono ?_
          rintro e w1 ⟨k1, n1, t1, rfl, o1, i1, s1, S1, b1⟩
          have Bw : But b wo w1 := HQ.out.2.2.2.trans b1
          have Ba : Below w1.heap.size w1 (w1.alloc (.cells #[.int .i64 k1, .int .i64 n1, .string t1] 27)) := (Below.refl _ _).alloc (Nat.le_refl _) _
          have O1 : OwnV (w1.alloc (.cells #[.int .i64 k1, .int .i64 n1, .string t1] 27)) wo.heap.size u6 vs := OwnV.below (HQ.out.2.2.1.but b1 (by omega)) Ba
          obtain ⟨v', w', hr, O2, g2⟩ := app_V u6 vs [(k1, n1, t1)] _ wo.heap.size w1.heap.size 0 1 O1 (by simp; omega) (one_row w1 k1 n1 t1 s1) (Nat.le_trans Bw.size Ba.size)
          have Bg : Below wo.heap.size (w1.alloc (.cells #[.int .i64 k1, .int .i64 n1, .string t1] 27)) w' := own_grown (Below.refl _ _) (Nat.le_trans Bw.size Ba.size) O1 g2
          have HN : Hid (GoodV (vs ++ [(k1, n1, t1)]) ∧ Src w' b a len cap (m + 2 + 20 * rs.length + 5 * (c + 1)) ∧ OwnV w' wo.heap.size v' (vs ++ [(k1, n1, t1)]) ∧ But b wo w') := by
            refine ⟨fun v hv => ?_, ((S1.below Ba).grow Bg (by omega) hcd).mono (by omega), O2, (Bw.trans (But.of_below Ba)).grow Bg (Nat.le_refl _)⟩
            rcases List.mem_append.1 hv with h | h
            · exact HQ.out.1 v h
            · simp at h; subst h; exact ⟨o1, i1, s1⟩
          have hr' : Sem.run Try.prog (Builtin.append_ #[25, 25] 25 #[u6, .slice (some ⟨w1.heap.size, 0, none⟩) 1 1]) (w1.alloc (.cells #[.int .i64 k1, .int .i64 n1, .string t1] 27)) = .ok v' w' := hr
          clear V HQ S1 b1 Bw Ba O1 hr O2 g2 Bg o1 i1 s1 hcd
          go_wp2_with (at_builtin; refine Lib.wpList_append_run _ rfl _ _ _ _ rfl _ _ rfl rfl _ _ hr' ?_)
          go_roundw
          case rel => exact ⟨c + 1, vs ++ [(k1, n1, t1)], by omega, by go_num, by simp [hvl], HN⟩
          case measure => simp [intOf]; omega
        · obtain rfl : c = nw := by omega
          have hcI : ¬ (c : Int) < (c : Int) := by omega
          obtain ⟨gv, S1, O1, b1⟩ := HQ.out
          obtain ⟨ua, un, uc, rfl⟩ := OwnV.slab' O1
          have Ba : Below wr.heap.size wr (wr.alloc (.cells #[.slice ua un uc] 25)) := (Below.refl _ _).alloc (Nat.le_refl _) _
          have R1 : BldR (wr.alloc (.cells #[.slice ua un uc] 25)) w.heap.size wo.heap.size u3 rs := (HO.out.2.2.1.but b1 hbw).below Ba
          have hWl : w.heap.size ≤ (wr.alloc (.cells #[.slice ua un uc] 25)).heap.size := Nat.le_trans hwl (Nat.le_trans b1.size Ba.size)
          obtain ⟨v', w', hr, R2, g2⟩ := app_R (c := 1) R1 hWl (by omega) (World.cell?_alloc_at _ _ _ _ rfl) (OwnV.below O1 Ba) (Nat.le_refl _) hwl
          have Bg : Below w.heap.size (wr.alloc (.cells #[.slice ua un uc] 25)) w' := BldR.grown (Below.refl _ _) hWl R1 g2
          have hcd : 0 < len → ∀ x, a = some x → x.block < w.heap.size := HC.out
          have HN : Hid (GoodR c (rs ++ [vs]) ∧ Src w' b a len cap (m + 2 + 20 * (rs ++ [vs]).length) ∧ BldR w' w.heap.size w'.heap.size v' (rs ++ [vs]) ∧ But b w w') := by
            refine ⟨fun x hx => ?_, ((S1.below Ba).grow Bg hbw hcd).mono (by simp; omega), R2, ((HO.out.2.2.2.trans b1).trans (But.of_below Ba)).grow Bg (Nat.le_refl _)⟩
            rcases List.mem_append.1 hx with h | h
            · exact HO.out.1 x h
            · simp at h; subst h; exact ⟨hvl, gv⟩
          have hr' : Sem.run Try.prog (Builtin.append_ #[23, 23] 23 #[u3, .slice (some ⟨wr.heap.size, 0, none⟩) 1 1]) (wr.alloc (.cells #[.slice ua un uc] 25)) = .ok v' w' := hr
          obtain ⟨q', hq'⟩ : ∃ q', q' + 1 = q := ⟨q - 1, by omega⟩
          have hq'I : (q : Int) - 1 = (q' : Int) := by omega
          have HJ : Hid (q' + 1 = q ∧ rs.length + q = r0) := ⟨hq', hrq⟩
          clear HQ gv S1 O1 b1 Ba R1 hWl hr R2 g2 Bg hcd hq' HO
          go_wp2_with (at_builtin; refine Lib.wpList_append_run _ rfl _ _ _ _ rfl _ _ rfl rfl _ _ hr' ?_)
          go_roundw
          case rel => exact ⟨q', rs ++ [vs], by have := HJ.out; omega, by go_num, by have := HJ.out; simp; omega, HN⟩
          case measure => have := HJ.out; simp [intOf]; omega
    · obtain rfl : q = 0 := by omega
      have HE := HW.out
      go_wp2
      go_ret
      exact ⟨_, rs, nw, rfl, HE.2.2.1, by omega, hn1, HE.1, HE.2.2.2⟩
set_option maxRecDepth 100000 in
theorem rowsOf_any {w : World} {a : Option Addr} {len cap : Nat} (h : Code w a len) (hlen : len ≤ 4194304) :
    Calls Try.prog 4 #[.slice a len cap] w fun e w' => ∃ v rs nw, e = .returned v ∧ BldR w' w.heap.size w'.heap.size v rs ∧ rs.length ≤ 7 ∧ (1 ≤ nw ∧ nw ≤ 3) ∧ GoodR nw rs ∧ Below w.heap.size w w' := by
  have C1 := source_any (cap := cap) h hlen
  have hlt := h.lt
  have HL : Hid (∀ w1, Below w.heap.size w w1 → 0 < len → ∀ x, a = some x → x.block < w1.heap.size) := fun w1 b h0 x e => Nat.lt_of_lt_of_le (hlt h0 x e) b.size
  clear h hlt
  go_enter Try.func4, Try.ntmps4
  go_wp2_with fail
  refine C1.mono ?_
  rintro e w1 ⟨rfl, S1, b1⟩
  have C2 := rows_any S1 (by omega) (HL.out w1 b1)
  have hs := b1.size
  clear C1 HL S1
  go_wp2_with fail
  refine C2.mono ?_
  rintro e w2 ⟨v, rs, nw, rfl, R2, l2, n2, g2, b2⟩
  have HE : Hid (BldR w2 w.heap.size w2.heap.size v rs ∧ Below w.heap.size w w2) := ⟨R2.base hs, b2.below b1 (Nat.le_refl _) hs⟩
  clear C2 R2 b2 b1
  go_wp2
  go_ret
  exact ⟨v, rs, nw, rfl, HE.out.1, l2, n2, g2, HE.out.2⟩
end Go.Proofs.Ythdilgggjkekaaa.R
