/- The parts that and joins, and trees that own their memory (stage 14). -/
import Derived.Test.YthjibgnhpkonbaaSfC
import Derived.Test.YthjibgnhpkonbaaTrD
namespace Go.Proofs.Ythjibgnhpkonbaa
open Go.RowKit

namespace Fo
def app : Fo → Fo → Fo
  | nil, g => g
  | cons x ks r, g => cons x ks (r.app g)
theorem app_len : ∀ f g : Fo, (f.app g).len = f.len + g.len
  | nil, g => by simp [app, len]
  | cons x ks r, g => by simp only [app, len, app_len r g]; omega
theorem app_size : ∀ f g : Fo, (f.app g).size = f.size + g.size
  | nil, g => by simp [app, size]
  | cons x ks r, g => by simp only [app, size, app_size r g]; omega
theorem app_left : ∀ (f g : Fo) (i : Nat), i < f.len → (f.app g).node i = f.node i ∧ (f.app g).kids i = f.kids i
  | nil, _, _, h => by simp [len] at h
  | cons _ _ _, _, 0, _ => ⟨rfl, rfl⟩
  | cons _ _ r, g, i + 1, h => app_left r g i (by simp only [len] at h; omega)
theorem app_right : ∀ (f g : Fo) (i : Nat), (f.app g).node (f.len + i) = g.node i ∧ (f.app g).kids (f.len + i) = g.kids i
  | nil, g, i => by simp [app, len]
  | cons x ks r, g, i => by
    have := app_right r g i
    have e : (cons x ks r).len + i = (r.len + i) + 1 := by simp only [len]; omega
    rw [e]
    exact this
theorem app_nil : ∀ f : Fo, f.app .nil = f
  | nil => rfl
  | cons x ks r => by simp only [app, app_nil r]
theorem app_assoc : ∀ f g h : Fo, (f.app g).app h = f.app (g.app h)
  | nil, _, _ => rfl
  | cons x ks r, g, h => by simp only [app, app_assoc r g h]
theorem kids_le (f : Fo) (i : Nat) (h : i < f.len) : (f.kids i).size + 1 ≤ f.size := f.kids_lt i h
end Fo
theorem SmallF.app : ∀ {f g : Fo}, SmallF f → SmallF g → SmallF (f.app g)
  | .nil, _, _, h => h
  | .cons _ _ _, _, h, hg => ⟨h.1, h.2.1, SmallF.app h.2.2 hg⟩

/-- A node of and. -/
def isAnd (x : ND) : Bool := x.k == 16 && x.nm.toList == [97, 110, 100]
/-- The parts that and joins. -/
def andsF : ND → Fo → Fo
  | x, .cons y0 k0 (.cons y1 k1 r) => if isAnd x = true then (andsF y0 k0).app (andsF y1 k1) else .cons x (.cons y0 k0 (.cons y1 k1 r)) .nil
  | x, .cons y0 k0 .nil => .cons x (.cons y0 k0 .nil) .nil
  | x, .nil => .cons x .nil .nil
theorem andsF_no {x : ND} (h : isAnd x = false) : ∀ ks : Fo, andsF x ks = .cons x ks .nil
  | .nil => by unfold andsF; rfl
  | .cons y0 k0 .nil => by unfold andsF; rfl
  | .cons y0 k0 (.cons y1 k1 r) => by unfold andsF; rw [if_neg (by rw [h]; decide)]
theorem andsF_and {x : ND} (h : isAnd x = true) : ∀ {ks : Fo}, ks.len = 2 → andsF x ks = (andsF (ks.node 0) (ks.kids 0)).app (andsF (ks.node 1) (ks.kids 1))
  | .nil, e => by simp [Fo.len] at e
  | .cons y0 k0 .nil, e => by simp [Fo.len] at e
  | .cons y0 k0 (.cons y1 k1 r), e => by
    conv => lhs; unfold andsF
    rw [if_pos h]
    rfl
theorem two_kids {ks : Fo} (h : ks.len = 2) : (ks.kids 0).size + 1 + ((ks.kids 1).size + 1) = ks.size := by
  have h1 : ks.upTo 1 = _ := ks.upTo_succ 0 (by omega)
  have h2 : ks.upTo 2 = _ := ks.upTo_succ 1 (by omega)
  have h3 := ks.upTo_len
  rw [Fo.upTo_zero] at h1
  rw [h] at h3
  omega
theorem exprB_kids {x : ND} {ks : Fo} (h : exprB x ks true = true) (h16 : x.k = 16) : ks.len = 2 ∧ ∀ i, i < ks.len → exprB (ks.node i) (ks.kids i) true = true := by
  have h' := h
  unfold exprB exB at h'
  rw [if_neg (by omega), if_neg (by omega), if_pos h16] at h'
  simp only [Bool.and_eq_true, beq_iff_eq] at h'
  obtain ⟨_, h2, h3⟩ := h'
  refine ⟨h2, fun i hi => ?_⟩
  cases hb : exprB (ks.node i) (ks.kids i) true with
  | true => rfl
  | false => rw [allE_false i hi hb] at h3; cases h3
theorem isAnd_16 {x : ND} (h : isAnd x = true) : x.k = 16 := by
  unfold isAnd at h
  rw [Bool.and_eq_true] at h
  exact beq_iff_eq.1 h.1
theorem andsF_size : ∀ (n : Nat) (x : ND) (ks : Fo), ks.size < n → exprB x ks true = true → (andsF x ks).size ≤ ks.size + 1
  | 0, _, _, h, _ => by omega
  | n + 1, x, ks, h, he => by
    cases ha : isAnd x with
    | false => rw [andsF_no ha]; simp [Fo.size]
    | true =>
      obtain ⟨h2, hk⟩ := exprB_kids he (isAnd_16 ha)
      have e := two_kids h2
      have a0 := andsF_size n (ks.node 0) (ks.kids 0) (by omega) (hk 0 (by omega))
      have a1 := andsF_size n (ks.node 1) (ks.kids 1) (by omega) (hk 1 (by omega))
      rw [andsF_and ha h2, Fo.app_size]
      omega
theorem andsF_small : ∀ (n : Nat) (x : ND) (ks : Fo), ks.size < n → exprB x ks true = true → TextsN 1048576 x → SmallF ks → SmallF (andsF x ks)
  | 0, _, _, h, _, _, _ => by omega
  | n + 1, x, ks, h, he, ht, hs => by
    cases ha : isAnd x with
    | false => rw [andsF_no ha]; exact ⟨ht, hs, trivial⟩
    | true =>
      obtain ⟨h2, hk⟩ := exprB_kids he (isAnd_16 ha)
      have e := two_kids h2
      obtain ⟨t0, s0⟩ := hs.at 0 (by omega)
      obtain ⟨t1, s1⟩ := hs.at 1 (by omega)
      rw [andsF_and ha h2]
      exact (andsF_small n _ _ (by omega) (hk 0 (by omega)) t0 s0).app (andsF_small n _ _ (by omega) (hk 1 (by omega)) t1 s1)

/-- The trees of f lie in block g from the i-th place on, each with kids of its own within lo and hi. -/
def DeepT (w : World) : Fo → Nat → Nat → Nat → Nat → Prop
  | .nil, _, _, _, _ => True
  | .cons x ks r, lo, hi, g, i => ∃ v mid, CellT w g (i * 8) x v ∧ lo ≤ mid ∧ mid ≤ hi ∧
      ((v = .slice none 0 0 ∧ ks.len = 0) ∨ ∃ h c cur, v = .slice (some ⟨h, 0, none⟩) ks.len c ∧ ks.len ≤ c ∧ lo ≤ h ∧ h < mid ∧ w.heap[h]? = some (.cells cur 33 (0, 0)) ∧ cur.size = c * 8 ∧ DeepT w ks (h + 1) mid h 0) ∧ DeepT w r mid hi g (i + 1)
/-- A list of trees that owns its memory, within lo and hi. -/
def KidD (w : World) (lo hi : Nat) (v : Value) (ks : Fo) : Prop :=
  (v = .slice none 0 0 ∧ ks.len = 0) ∨ ∃ h c cur, v = .slice (some ⟨h, 0, none⟩) ks.len c ∧ ks.len ≤ c ∧ lo ≤ h ∧ h < hi ∧ w.heap[h]? = some (.cells cur 33 (0, 0)) ∧ cur.size = c * 8 ∧ DeepT w ks (h + 1) hi h 0
theorem DeepT.cons {w : World} {x : ND} {ks r : Fo} {lo hi g i : Nat} : DeepT w (.cons x ks r) lo hi g i ↔ ∃ v mid, CellT w g (i * 8) x v ∧ lo ≤ mid ∧ mid ≤ hi ∧ KidD w lo mid v ks ∧ DeepT w r mid hi g (i + 1) := Iff.rfl
theorem DeepT.mono {w : World} : ∀ {f : Fo} {lo lo' hi hi' g i : Nat}, DeepT w f lo hi g i → lo' ≤ lo → hi ≤ hi' → DeepT w f lo' hi' g i
  | .nil, _, _, _, _, _, _, _, _, _ => trivial
  | .cons x ks r, _, _, _, _, _, _, ⟨v, mid, c, h1, h2, hk, hr⟩, hl, hh => by
    refine ⟨v, mid, c, by omega, by omega, ?_, hr.mono (Nat.le_refl _) hh⟩
    rcases hk with h | ⟨h, c, cur, e, p1, p2, p3, p4, p5, p6⟩
    · exact .inl h
    · exact .inr ⟨h, c, cur, e, p1, by omega, p3, p4, p5, p6⟩
theorem KidD.mono {w : World} {lo lo' hi hi' : Nat} {v : Value} {ks : Fo} (h : KidD w lo hi v ks) (hl : lo' ≤ lo) (hh : hi ≤ hi') : KidD w lo' hi' v ks := by
  rcases h with h | ⟨h, c, cur, e, p1, p2, p3, p4, p5, p6⟩
  · exact .inl h
  · exact .inr ⟨h, c, cur, e, p1, by omega, by omega, p4, p5, p6.mono (Nat.le_refl _) hh⟩
/-- Its blocks stand. -/
theorem DeepT.same {w w' : World} : ∀ {f : Fo} {lo hi g i : Nat}, DeepT w f lo hi g i → w'.heap[g]? = w.heap[g]? → (∀ b, lo ≤ b → b < hi → b < w.heap.size → w'.heap[b]? = w.heap[b]?) → DeepT w' f lo hi g i
  | .nil, _, _, _, _, _, _, _ => trivial
  | .cons x ks r, lo, hi, g, i, ⟨v, mid, c, h1, h2, hk, hr⟩, hg, hb => by
    refine ⟨v, mid, c.same hg, h1, h2, ?_, DeepT.same (f := r) hr hg fun b q1 q2 q3 => hb b (by omega) q2 q3⟩
    rcases hk with h | ⟨h, c, cur, e, p1, p2, p3, p4, p5, p6⟩
    · exact .inl h
    · have hh : w'.heap[h]? = w.heap[h]? := hb h p2 (by omega) (slab_lt p4)
      exact .inr ⟨h, c, cur, e, p1, p2, p3, hh.trans p4, p5, DeepT.same (f := ks) p6 hh fun b q1 q2 q3 => hb b (by omega) (by omega) q3⟩
theorem KidD.same {w w' : World} {lo hi : Nat} {v : Value} {ks : Fo} (h : KidD w lo hi v ks) (hb : ∀ b, lo ≤ b → b < hi → b < w.heap.size → w'.heap[b]? = w.heap[b]?) : KidD w' lo hi v ks := by
  rcases h with h | ⟨h, c, cur, e, p1, p2, p3, p4, p5, p6⟩
  · exact .inl h
  · have hh : w'.heap[h]? = w.heap[h]? := hb h p2 p3 (slab_lt p4)
    exact .inr ⟨h, c, cur, e, p1, p2, p3, hh.trans p4, p5, p6.same hh fun b q1 q2 q3 => hb b (by omega) q2 q3⟩
theorem KidD.below {w w' : World} {lo hi : Nat} {v : Value} {ks : Fo} (h : KidD w lo hi v ks) (hb : Below w.heap.size w w') : KidD w' lo hi v ks := h.same fun b _ _ q => hb.block b q
/-- By places. -/
theorem DeepT.at : ∀ {w : World} {f : Fo} {lo hi g i : Nat}, DeepT w f lo hi g i → lo ≤ hi → ∃ ms : Nat → Nat, lo ≤ ms 0 ∧ (∀ j, j < f.len → ms j ≤ ms (j + 1)) ∧ ms f.len ≤ hi ∧ ∀ j, j < f.len → ∃ v, CellT w g ((i + j) * 8) (f.node j) v ∧ KidD w (ms j) (ms (j + 1)) v (f.kids j)
  | _, .nil, lo, hi, _, _, _, hlh => ⟨fun _ => lo, Nat.le_refl _, fun j h => by simp [Fo.len] at h, hlh, fun j h => by simp [Fo.len] at h⟩
  | w, .cons x ks r, lo, hi, g, i, h, hlh => by
    obtain ⟨v, mid, c, h1, h2, hk, hr⟩ := DeepT.cons.1 h
    obtain ⟨ms, q1, q2, q3, q4⟩ := DeepT.at hr h2
    refine ⟨fun j => if j = 0 then lo else ms (j - 1), by simp, fun j hj => ?_, q3, fun j hj => ?_⟩
    · cases j with
      | zero => simp; omega
      | succ j => simp; exact q2 j (by simp only [Fo.len] at hj; omega)
    · cases j with
      | zero => exact ⟨v, by rw [Nat.add_zero]; exact c, by simpa [Fo.kids] using hk.mono (Nat.le_refl _) q1⟩
      | succ j =>
        obtain ⟨v', c', k'⟩ := q4 j (by simp only [Fo.len] at hj; omega)
        exact ⟨v', by rw [show i + (j + 1) = i + 1 + j by omega]; exact c', by simpa [Fo.kids] using k'⟩
theorem DeepT.mk : ∀ {w : World} {f : Fo} {lo hi g i : Nat} (ms : Nat → Nat), lo ≤ ms 0 → (∀ j, j < f.len → ms j ≤ ms (j + 1)) → ms f.len ≤ hi → (∀ j, j < f.len → ∃ v, CellT w g ((i + j) * 8) (f.node j) v ∧ KidD w (ms j) (ms (j + 1)) v (f.kids j)) → DeepT w f lo hi g i
  | _, .nil, _, _, _, _, _, _, _, _, _ => trivial
  | w, .cons x ks r, lo, hi, g, i, ms, h0, h1, h2, h3 => by
    obtain ⟨v, c, k⟩ := h3 0 (by simp [Fo.len])
    have hm : ∀ j, j ≤ r.len → ms 1 ≤ ms (j + 1) := fun j => by
      induction j with
      | zero => intro _; exact Nat.le_refl _
      | succ j ih => intro hj; exact Nat.le_trans (ih (by omega)) (h1 (j + 1) (by simp only [Fo.len]; omega))
    refine DeepT.cons.2 ⟨v, ms 1, by rw [Nat.add_zero] at c; exact c, Nat.le_trans h0 (h1 0 (by simp [Fo.len])), Nat.le_trans (hm r.len (Nat.le_refl _)) h2, k.mono h0 (Nat.le_refl _), ?_⟩
    refine DeepT.mk (f := r) (fun j => ms (j + 1)) (Nat.le_refl _) (fun j hj => h1 (j + 1) (by simp only [Fo.len]; omega)) h2 fun j hj => ?_
    obtain ⟨v', c', k'⟩ := h3 (j + 1) (by simp only [Fo.len]; omega)
    exact ⟨v', by rw [show i + 1 + j = i + (j + 1) by omega]; exact c', k'⟩
/-- It can be read. -/
theorem DeepT.row {w : World} : ∀ {f : Fo} {lo hi g i : Nat}, DeepT w f lo hi g i → g < w.heap.size → SmallF f → f.size ≤ 1048576 → RowT 0 w (some ⟨g, 0, none⟩) i f
  | .nil, _, _, _, _, _, _, _, _ => trivial
  | .cons x ks r, lo, hi, g, i, ⟨v, mid, c, h1, h2, hk, hr⟩, hg, hs, hz => by
    have hl := ks.len_le
    simp only [Fo.size] at hz
    refine ⟨?_, DeepT.row (f := r) hr hg hs.2.2 (by omega)⟩
    obtain ⟨t0, t1, t2⟩ := hs.1
    have ht : TextsN maxLen x := ⟨by unfold maxLen; omega, by unfold maxLen; omega, by unfold maxLen; omega⟩
    rcases hk with ⟨rfl, h0⟩ | ⟨h, c', cur, rfl, p1, p2, p3, p4, p5, p6⟩
    · refine ⟨g, 0, none, 0, rfl, Nat.zero_le _, hg, by rw [Nat.zero_add, h0]; exact c, ⟨by omega, by unfold maxLen; omega, ht⟩, ?_⟩
      cases ks with
      | nil => trivial
      | cons _ _ _ => simp [Fo.len] at h0
    · exact ⟨g, 0, some ⟨h, 0, none⟩, c', rfl, Nat.zero_le _, hg, by rw [Nat.zero_add]; exact c, ⟨p1, by unfold maxLen; omega, ht⟩, DeepT.row (f := ks) p6 (slab_lt p4) hs.2.1 (by omega)⟩
theorem KidD.row {w : World} {lo hi : Nat} {v : Value} {ks : Fo} (h : KidD w lo hi v ks) (hs : SmallF ks) (hz : ks.size ≤ 1048576) : ∃ a c, v = .slice a ks.len c ∧ ks.len ≤ c ∧ RowT 0 w a 0 ks := by
  rcases h with ⟨rfl, h0⟩ | ⟨h, c', cur, rfl, p1, p2, p3, p4, p5, p6⟩
  · refine ⟨none, 0, by rw [h0], by omega, ?_⟩
    cases ks with
    | nil => trivial
    | cons _ _ _ => simp [Fo.len] at h0
  · exact ⟨_, _, rfl, p1, p6.row (slab_lt p4) hs hz⟩
end Go.Proofs.Ythjibgnhpkonbaa
