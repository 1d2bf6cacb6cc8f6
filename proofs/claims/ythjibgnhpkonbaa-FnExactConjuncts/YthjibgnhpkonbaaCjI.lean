/- spec's parts that and joins (stage 14). -/
import Derived.Test.YthjibgnhpkonbaaCjH
namespace Go.Proofs.Ythjibgnhpkonbaa
open Go.RowKit

/-- Which blocks an append leaves alone. -/
theorem grown_kept {w w' : World} {v : Value} (h : w.grownBy w' v.ownBlock) {b : Nat} (hb : b < w.heap.size) (hn : v.ownBlock ≠ some b) : w'.heap[b]? = w.heap[b]? := h.block b hb (fun e => hn e.symm)
theorem OwnTr.lt {w : World} {B : Nat} {v : Value} {l : List E} (h : OwnTr w B v l) {g : Nat} (hg : v.ownBlock = some g) : B ≤ g ∧ g < w.heap.size := by
  rcases h.slab with ⟨rfl, _⟩ | ⟨g', cap, cur, rfl, h1, _, h3, _⟩
  · simp [Value.ownBlock] at hg
  · simp [Value.ownBlock] at hg
    subst hg
    exact ⟨h1, slab_lt h3⟩
/-- Behind an append: the new own block, and what stays. -/
def StepOwn (w w' : World) (v v' : Value) : Prop := w.heap.size ≤ w'.heap.size ∧ (∀ b, b < w.heap.size → v.ownBlock ≠ some b → w'.heap[b]? = w.heap[b]?) ∧ (v'.ownBlock = v.ownBlock ∨ ∀ g, v'.ownBlock = some g → w.heap.size ≤ g)
theorem StepOwn.trans {w w1 w2 : World} {v v1 v2 : Value} (h : StepOwn w w1 v v1) (h' : StepOwn w1 w2 v1 v2) : StepOwn w w2 v v2 := by
  obtain ⟨a1, a2, a3⟩ := h
  obtain ⟨b1, b2, b3⟩ := h'
  refine ⟨Nat.le_trans a1 b1, fun b hb hn => (b2 b (by omega) fun e => ?_).trans (a2 b hb hn), ?_⟩
  · rcases a3 with a3 | a3
    · rw [a3] at e; exact hn e
    · have := a3 b e; omega
  · rcases b3 with b3 | b3
    · rw [b3]; exact a3
    · exact .inr fun g hg => Nat.le_trans a1 (b3 g hg)
theorem StepOwn.pre {w w1 w2 : World} {v v' : Value} (hb : Below w.heap.size w w1) (h : StepOwn w1 w2 v v') : StepOwn w w2 v v' := by
  obtain ⟨b1, b2, b3⟩ := h
  refine ⟨Nat.le_trans hb.size b1, fun b p hn => (b2 b (Nat.lt_of_lt_of_le p hb.size) hn).trans (hb.block b p), ?_⟩
  rcases b3 with b3 | b3
  · exact .inl b3
  · exact .inr fun g hg => Nat.le_trans hb.size (b3 g hg)
theorem cellT_new' {w : World} {g : Nat} (x : ND) (s : Value) (ty : TypeId) (hg : g = w.heap.size) : CellT (w.alloc (.cells #[.int .i64 x.k, .int .i64 x.n, .string x.nm, .string x.of, .int .i64 x.vk, .int .i64 x.vn, .string x.vt, s] ty)) g 0 x s := by
  subst hg
  exact cellT_new x s ty
/-- What spec's l14Ands does. -/
def AnS (x : ND) (ks : Fo) : Prop := ∀ (ka : Option Addr) (kc : Nat) (w0 : World), RowT 0 w0 ka 0 ks → ks.len ≤ kc → ks.size ≤ 1000 → TextsN maxLen x → exprB x ks true = true →
    ∀ (v : Value) (es : List E) (w : World), Below w0.heap.size w0 w → OwnTr w w0.heap.size v es → es.length + ks.size + 1 ≤ 4096 →
    Calls Try.prog 25 #[ValT x (.slice ka ks.len kc), v] w fun e w' => ∃ v' ts, e = .returned v' ∧ OwnTr w' w0.heap.size v' (es ++ ts) ∧ KidE w0 ts (andsF x ks) ∧ Below w0.heap.size w0 w' ∧ StepOwn w w' v v'
theorem own_ne {w w' : World} {v v' : Value} {y : Nat} (st : StepOwn w w' v v') (h : ∀ g, v.ownBlock = some g → g < y) (hy : y < w.heap.size) (e : v'.ownBlock = some y) : False := by
  rcases st.2.2 with q | q
  · rw [q] at e
    have := h _ e
    omega
  · have := q _ e
    omega
/-- The tree in its block, and its two kids. -/
abbrev AndR (w0 : World) (y : Nat) (x : ND) (s : Value) (b o : Nat) (x0 x1 : ND) (s0 s1 : Value) (w' : World) : Prop := CellT w' y 0 x s ∧ CellT w' b o x0 s0 ∧ CellT w' b (o + 8) x1 s1 ∧ y < w'.heap.size ∧ b < w'.heap.size ∧ b < w0.heap.size ∧ Below w0.heap.size w0 w'
theorem AndR.own {w0 : World} {y : Nat} {x : ND} {s : Value} {b o : Nat} {x0 x1 : ND} {s0 s1 : Value} {w1 w2 : World} {v v' : Value} (h : AndR w0 y x s b o x0 x1 s0 s1 w1) (st : StepOwn w1 w2 v v') (hB : Below w0.heap.size w0 w2) (hy : v.ownBlock = some y → False) (hb : v.ownBlock = some b → False) : AndR w0 y x s b o x0 x1 s0 s1 w2 := by
  have ey := st.2.1 y h.2.2.2.1 (fun e => hy e)
  have eb := st.2.1 b h.2.2.2.2.1 (fun e => hb e)
  exact ⟨h.1.same ey, h.2.1.same eb, h.2.2.1.same eb, Nat.lt_of_lt_of_le h.2.2.2.1 st.1, Nat.lt_of_lt_of_le h.2.2.2.2.1 st.1, h.2.2.2.2.2.1, hB⟩
set_option maxRecDepth 100000 in
set_option maxHeartbeats 8000000 in
theorem l14Ands_step (x : ND) (ks : Fo) (ih : ∀ i, i < ks.len → AnS (ks.node i) (ks.kids i)) : AnS x ks := by
  intro ka kc w0 hrow hkc hsz ht he v es w hbw how hes
  have B1 : Below w.heap.size w (w.alloc (.cells #[.int .i64 x.k, .int .i64 x.n, .string x.nm, .string x.of, .int .i64 x.vk, .int .i64 x.vn, .string x.vt, .slice ka ks.len kc] 33)) := (Below.refl _ _).alloc (Nat.le_refl _) _
  have X1 : Hid (CellT (w.alloc (.cells #[.int .i64 x.k, .int .i64 x.n, .string x.nm, .string x.of, .int .i64 x.vk, .int .i64 x.vn, .string x.vt, .slice ka ks.len kc] 33)) w.heap.size 0 x (.slice ka ks.len kc)) := cellT_new x _ 33
  obtain ⟨va, vc, rfl, _⟩ := how.row
  cases ha : isAnd x with
  | false =>
    have HO : Hid (KidE w0 [((x, ka, ks.len, kc) : E)] (andsF x ks)) := by
      show KidE _ _ _
      rw [andsF_no ha]
      exact KidE.one hrow hkc (by have := ks.len_le; unfold maxLen; omega) ht
    have HR : Hid (∃ v' w', (Builtin.append_ #[31, 31] 31 #[.slice va es.length vc, .slice (some ⟨w.heap.size + 1, 0, none⟩) 1 1]).run Try.prog ((w.alloc (.cells #[.int .i64 x.k, .int .i64 x.n, .string x.nm, .string x.of, .int .i64 x.vk, .int .i64 x.vn, .string x.vt, .slice ka ks.len kc] 33)).alloc (.cells #[.int .i64 x.k, .int .i64 x.n, .string x.nm, .string x.of, .int .i64 x.vk, .int .i64 x.vn, .string x.vt, .slice ka ks.len kc] 33)) = .ok v' w' ∧ OwnTr w' w0.heap.size v' (es ++ [((x, ka, ks.len, kc) : E)]) ∧ Below w0.heap.size w0 w' ∧ StepOwn w w' (.slice va es.length vc) v') := by
      have B2 := B1.alloc (by simp) (.cells #[.int .i64 x.k, .int .i64 x.n, .string x.nm, .string x.of, .int .i64 x.vk, .int .i64 x.vn, .string x.vt, .slice ka ks.len kc] 33)
      have o2 := how.below B2
      obtain ⟨v', w', r1, r2, r3, r4⟩ := app_Tr_at (.slice va es.length vc) es [((x, ka, ks.len, kc) : E)] _ w0.heap.size (w.heap.size + 1) 0 1 o2 (by simp; omega) (fun i hi => by
        obtain rfl : i = 0 := by simp at hi; omega
        exact ⟨w.heap.size + 1, 0, rfl, by simp, cellT_new' x (.slice ka ks.len kc) 33 (by simp)⟩) (by have := hbw.size; simp; omega)
      refine ⟨v', w', r1, r2, own_grown (hbw.trans (B2.mono hbw.size)) (by have := hbw.size; simp; omega) o2 r3, StepOwn.pre B2 ⟨r3.size, fun b p q => grown_kept r3 p q, ?_⟩⟩
      rcases r4 with r4 | r4
      · exact .inl r4
      · exact .inr fun g hg => by rw [r4] at hg; cases hg; exact Nat.le_refl _
    obtain ⟨v', w', hr, h1, h2, h3⟩ := HR.out
    have HF : Hid (OwnTr w' w0.heap.size v' (es ++ [((x, ka, ks.len, kc) : E)]) ∧ Below w0.heap.size w0 w' ∧ StepOwn w w' (.slice va es.length vc) v') := ⟨h1, h2, h3⟩
    have HK : Hid ((¬ x.k = 16) ∨ (x.k = 16 ∧ (x.nm.toList == [97, 110, 100]) = false)) := by
      show _ ∨ _
      unfold isAnd at ha
      cases hb : (x.k == 16) with
      | false => exact .inl (beq_eq_false_iff_ne.1 hb)
      | true =>
        rw [hb] at ha
        exact .inr ⟨beq_iff_eq.1 hb, by simpa using ha⟩
    obtain ⟨y0, y1, y2, y3, y4, y5, y6, y7⟩ := X1.out
    clear ha HR h1 h2 h3 how hbw hrow he ih B1
    obtain ⟨k, n, nm, of, vk, vn, vt⟩ := x
    simp only at y0 y1 y2 y3 y4 y5 y6 y7
    have hk := HK.out
    simp only at hk
    clear HK
    rcases hk with hk | ⟨rfl, hn⟩
    all_goals
      go_enter Try.func25, Try.ntmps25
      go_wp2_with (at_builtin; refine Lib.wpList_append_run _ rfl _ _ _ _ rfl _ _ rfl rfl _ _ hr ?_)
      go_ret
      exact ⟨_, rfl, _, HF.out.1, HO.out, HF.out.2.1, HF.out.2.2⟩
  | true =>
    have h16 := isAnd_16 ha
    obtain ⟨h2, hek⟩ := exprB_kids he h16
    have hnm : (x.nm.toList == [97, 110, 100]) = true := by
      unfold isAnd at ha
      rw [Bool.and_eq_true] at ha
      exact ha.2
    obtain ⟨b, o, ka0, kc0, rfl, _, hlb, d0, ⟨m0, m1, m2⟩, r0⟩ := hrow.at 0 (by omega)
    obtain ⟨b', o', ka1, kc1, eb, _, _, d1, ⟨n0, n1, n2⟩, r1⟩ := hrow.at 1 (by omega)
    cases eb
    have hs2 := two_kids h2
    have l0 := andsF_size _ (ks.node 0) (ks.kids 0) (Nat.lt_succ_self _) (hek 0 (by omega))
    have l0' := (andsF (ks.node 0) (ks.kids 0)).len_le
    have C0 := ih 0 (by omega) ka0 kc0 w0 r0 m0 (by omega) m2 (hek 0 (by omega))
    have C1 := ih 1 (by omega) ka1 kc1 w0 r1 n0 (by omega) n2 (hek 1 (by omega))
    have HC : Hid ((∀ (v : Value) (es : List E) (w : World), Below w0.heap.size w0 w → OwnTr w w0.heap.size v es → es.length + (ks.kids 0).size + 1 ≤ 4096 → Calls Try.prog 25 #[ValT (ks.node 0) (.slice ka0 (ks.kids 0).len kc0), v] w fun e w' => ∃ v' ts, e = .returned v' ∧ OwnTr w' w0.heap.size v' (es ++ ts) ∧ KidE w0 ts (andsF (ks.node 0) (ks.kids 0)) ∧ Below w0.heap.size w0 w' ∧ StepOwn w w' v v') ∧
      (∀ (v : Value) (es : List E) (w : World), Below w0.heap.size w0 w → OwnTr w w0.heap.size v es → es.length + (ks.kids 1).size + 1 ≤ 4096 → Calls Try.prog 25 #[ValT (ks.node 1) (.slice ka1 (ks.kids 1).len kc1), v] w fun e w' => ∃ v' ts, e = .returned v' ∧ OwnTr w' w0.heap.size v' (es ++ ts) ∧ KidE w0 ts (andsF (ks.node 1) (ks.kids 1)) ∧ Below w0.heap.size w0 w' ∧ StepOwn w w' v v')) := ⟨C0, C1⟩
    have HLN : Hid (es.length + (ks.kids 0).size + 1 ≤ 4096 ∧ ∀ ts, KidE w0 ts (andsF (ks.node 0) (ks.kids 0)) → (es ++ ts).length + (ks.kids 1).size + 1 ≤ 4096) := ⟨by omega, fun ts h => by rw [List.length_append, h.1]; omega⟩
    have HA : Hid (andsF x ks = (andsF (ks.node 0) (ks.kids 0)).app (andsF (ks.node 1) (ks.kids 1))) := andsF_and ha h2
    have hb0 := hbw.size
    have BW := hbw.trans (B1.mono hbw.size)
    have HV : Hid (OwnTr (w.alloc (.cells #[.int .i64 x.k, .int .i64 x.n, .string x.nm, .string x.of, .int .i64 x.vk, .int .i64 x.vn, .string x.vt, .slice (some ⟨b, o, none⟩) ks.len kc] 33)).drew w0.heap.size (.slice va es.length vc) es ∧ Below w0.heap.size w0 (w.alloc (.cells #[.int .i64 x.k, .int .i64 x.n, .string x.nm, .string x.of, .int .i64 x.vk, .int .i64 x.vn, .string x.vt, .slice (some ⟨b, o, none⟩) ks.len kc] 33)).drew ∧ Below w.heap.size w (w.alloc (.cells #[.int .i64 x.k, .int .i64 x.n, .string x.nm, .string x.of, .int .i64 x.vk, .int .i64 x.vn, .string x.vt, .slice (some ⟨b, o, none⟩) ks.len kc] 33)).drew) := ⟨how.below B1.drew, BW.drew, B1.drew⟩
    have HNO : Hid (∀ g, Value.ownBlock (.slice va es.length vc) = some g → w0.heap.size ≤ g ∧ g < w.heap.size) := fun g hg => how.lt hg
    have hP : AndR w0 w.heap.size x (.slice (some ⟨b, o, none⟩) ks.len kc) b o (ks.node 0) (ks.node 1) (.slice ka0 (ks.kids 0).len kc0) (.slice ka1 (ks.kids 1).len kc1) (w.alloc (.cells #[.int .i64 x.k, .int .i64 x.n, .string x.nm, .string x.of, .int .i64 x.vk, .int .i64 x.vn, .string x.vt, .slice (some ⟨b, o, none⟩) ks.len kc] 33)).drew := by
      have hbb : (w.alloc (.cells #[.int .i64 x.k, .int .i64 x.n, .string x.nm, .string x.of, .int .i64 x.vk, .int .i64 x.vn, .string x.vt, .slice (some ⟨b, o, none⟩) ks.len kc] 33)).drew.heap[b]? = w0.heap[b]? := BW.drew.block b hlb
      have hyy : (w.alloc (.cells #[.int .i64 x.k, .int .i64 x.n, .string x.nm, .string x.of, .int .i64 x.vk, .int .i64 x.vn, .string x.vt, .slice (some ⟨b, o, none⟩) ks.len kc] 33)).drew.heap[w.heap.size]? = (w.alloc (.cells #[.int .i64 x.k, .int .i64 x.n, .string x.nm, .string x.of, .int .i64 x.vk, .int .i64 x.vn, .string x.vt, .slice (some ⟨b, o, none⟩) ks.len kc] 33)).heap[w.heap.size]? := rfl
      exact ⟨X1.out.same hyy, d0.same hbb, d1.same hbb, by show _ < (w.alloc _).heap.size; simp, by have := BW.drew.size; omega, hlb, BW.drew⟩
    have hsz1 : ∀ o, (w.alloc o).drew.heap.size = w.heap.size + 1 := fun o => by show (w.alloc o).heap.size = _; simp
    obtain ⟨y0, y1, y2, y3, y4, y5, y6, y7⟩ := X1.out
    clear C0 C1 ih hrow hkc hsz he ha hek d0 d1 m0 m1 m2 n0 n1 n2 r0 r1 hs2 l0 l0' hlb B1 X1 ht how hbw BW hes
    rw [h2] at y7 hP HV ⊢
    clear h2
    obtain ⟨k, n, nm, of, vk, vn, vt⟩ := x
    simp only at y0 y1 y2 y3 y4 y5 y6 y7 h16 hnm hP
    subst h16
    generalize andsF (ks.node 0) (ks.kids 0) = f0 at *
    generalize andsF (ks.node 1) (ks.kids 1) = f1 at *
    generalize andsF ⟨16, n, nm, of, vk, vn, vt⟩ ks = ff at *
    generalize ks.node 0 = x0 at *
    generalize ks.node 1 = x1 at *
    generalize (ks.kids 0).len = l0 at *
    generalize (ks.kids 1).len = l1 at *
    generalize (ks.kids 0).size = z0 at *
    generalize (ks.kids 1).size = z1 at *
    generalize hen : es.length = en at *
    go_enter Try.func25, Try.ntmps25
    go_wp2_with fail
    go_region_held3 (AndR w0 w.heap.size ⟨16, n, nm, of, vk, vn, vt⟩ (.slice (some ⟨b, o, none⟩) 2 kc) b o x0 x1 (.slice ka0 l0 kc0) (.slice ka1 l1 kc1)) (first | exact hP | exact hS1 | exact hS0)
      (first
        | (go_at_call 25; (with_reducible refine (HC.out.1 _ es _ HV.out.2.1 HV.out.1 (by rw [hen]; exact HLN.out.1)).mono ?_); rintro e wA ⟨v1, ts0, rfl, o1, k1, b1, st1⟩; have hS0 := AndR.own hP st1 b1 (fun h => by have := HNO.out _ h; omega) (fun h => by have := HNO.out _ h; have := hP.2.2.2.2.2.1; omega); obtain ⟨va1, vc1, hv1, _⟩ := o1.row; obtain ⟨n1, hn1⟩ : ∃ n1, (es ++ ts0).length = n1 := ⟨_, rfl⟩; rw [hn1] at hv1; subst hv1; clear hn1)
        | (go_at_call 25; (with_reducible refine (HC.out.2 _ _ _ b1 o1 (HLN.out.2 ts0 k1)).mono ?_); rintro e wA ⟨v2, ts1, rfl, o2, k2, b2, st2⟩; have hS1 := AndR.own hS0 st2 b2 (own_ne st1 (fun g hg => (HNO.out g hg).2) (by rw [hsz1]; omega)) (fun h => by have := o1.lt h; have := hP.2.2.2.2.2.1; omega))
        | fail)
    have HO2 : Hid (OwnTr wA w0.heap.size v2 ((es ++ ts0) ++ ts1) ∧ KidE w0 ts0 f0 ∧ KidE w0 ts1 f1 ∧ Below w0.heap.size w0 wA ∧ StepOwn w wA (.slice va en vc) v2) := ⟨o2, k1, k2, b2, (StepOwn.pre HV.out.2.2 st1).trans st2⟩
    clear o1 o2 k1 k2 b1 b2 st1 st2 hS0 hS1 hP HV HC HNO HLN
    go_wp2
    go_ret
    exact ⟨_, ts0 ++ ts1, rfl, by rw [← List.append_assoc]; exact HO2.out.1, by rw [HA.out]; exact HO2.out.2.1.app HO2.out.2.2.1, HO2.out.2.2.2.1, HO2.out.2.2.2.2⟩
theorem l14Ands_size : ∀ (n : Nat) (x : ND) (ks : Fo), ks.size < n → AnS x ks
  | 0, _, _, h => by omega
  | n + 1, x, ks, h => l14Ands_step x ks fun i hi => l14Ands_size n _ _ (by have := ks.kids_lt i hi; omega)
theorem l14Ands_any (x : ND) (ks : Fo) : AnS x ks := l14Ands_size _ x ks (Nat.lt_succ_self _)
end Go.Proofs.Ythjibgnhpkonbaa
