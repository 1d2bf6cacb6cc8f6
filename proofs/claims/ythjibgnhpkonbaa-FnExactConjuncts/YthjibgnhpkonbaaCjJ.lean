/- spec's copies of trees (stage 14). -/
import Derived.Test.YthjibgnhpkonbaaCjI
import Derived.Test.YthjibgnhpkonbaaCjE
import Derived.Deep.RegionLaw
namespace Go.Proofs.Ythjibgnhpkonbaa
open Go.RowKit

/-- The trees of f can be read at a from the i-th place on, all in blocks of which P holds. -/
def RowP (P : Nat → Prop) (w : World) : Option Addr → Nat → Fo → Prop
  | _, _, .nil => True
  | a, i, .cons x ks r => (∃ b off ka kc, a = some ⟨b, off, none⟩ ∧ P b ∧ b < w.heap.size ∧ CellT w b (off + i * 8) x (.slice ka ks.len kc) ∧ (ks.len ≤ kc ∧ ks.len ≤ maxLen ∧ TextsN maxLen x) ∧ RowP P w ka 0 ks) ∧ RowP P w a (i + 1) r
theorem RowP.row {P : Nat → Prop} {w : World} : ∀ {f : Fo} {a : Option Addr} {i : Nat}, RowP P w a i f → RowT 0 w a i f
  | .nil, _, _, _ => trivial
  | .cons _ ks r, _, _, ⟨⟨b, off, ka, kc, e, _, h2, h3, h4, h5⟩, h6⟩ => ⟨⟨b, off, ka, kc, e, Nat.zero_le _, h2, h3, h4, RowP.row (f := ks) h5⟩, RowP.row (f := r) h6⟩
theorem RowP.same {P Q : Nat → Prop} {w w' : World} (hs : w.heap.size ≤ w'.heap.size) (hb : ∀ b, P b → b < w.heap.size → w'.heap[b]? = w.heap[b]? ∧ Q b) : ∀ {f : Fo} {a : Option Addr} {i : Nat}, RowP P w a i f → RowP Q w' a i f
  | .nil, _, _, _ => trivial
  | .cons _ ks r, _, _, ⟨⟨b, off, ka, kc, e, h1, h2, h3, h4, h5⟩, h6⟩ => ⟨⟨b, off, ka, kc, e, (hb b h1 h2).2, Nat.lt_of_lt_of_le h2 hs, h3.same (hb b h1 h2).1, h4, RowP.same hs hb (f := ks) h5⟩, RowP.same hs hb (f := r) h6⟩
theorem RowP.mk {P : Nat → Prop} {w : World} : ∀ {f : Fo} {a : Option Addr} {j : Nat}, (∀ i, i < f.len → ∃ b off ka kc, a = some ⟨b, off, none⟩ ∧ P b ∧ b < w.heap.size ∧ CellT w b (off + (j + i) * 8) (f.node i) (.slice ka (f.kids i).len kc) ∧ ((f.kids i).len ≤ kc ∧ (f.kids i).len ≤ maxLen ∧ TextsN maxLen (f.node i)) ∧ RowP P w ka 0 (f.kids i)) → RowP P w a j f
  | .nil, _, _, _ => trivial
  | .cons _ _ r, a, j, h => ⟨h 0 (by simp [Fo.len]), RowP.mk (f := r) fun i hi => by
      have := h (i + 1) (by simp only [Fo.len]; omega)
      rw [show j + (i + 1) = j + 1 + i by omega] at this
      exact this⟩
/-- These are the first k trees of f, their kids in blocks of which P holds. -/
def KidP (P : Nat → Prop) (w : World) (es : List E) (f : Fo) (k : Nat) : Prop := es.length = k ∧ ∀ i, i < k → (nthE es i).1 = f.node i ∧ (nthE es i).2.2.1 = (f.kids i).len ∧ ((f.kids i).len ≤ (nthE es i).2.2.2 ∧ (f.kids i).len ≤ maxLen ∧ TextsN maxLen (f.node i)) ∧ RowP P w (nthE es i).2.1 0 (f.kids i)
theorem KidP.same {P Q : Nat → Prop} {w w' : World} {es : List E} {f : Fo} {k : Nat} (h : KidP P w es f k) (hs : w.heap.size ≤ w'.heap.size) (hb : ∀ b, P b → b < w.heap.size → w'.heap[b]? = w.heap[b]? ∧ Q b) : KidP Q w' es f k := ⟨h.1, fun i hi => by
  obtain ⟨h1, h2, h3, h4⟩ := h.2 i hi
  exact ⟨h1, h2, h3, h4.same hs hb⟩⟩
theorem KidP.push {P : Nat → Prop} {w : World} {es : List E} {f : Fo} {k : Nat} {ka : Option Addr} {kc : Nat} (h : KidP P w es f k) (h1 : (f.kids k).len ≤ kc) (h2 : (f.kids k).len ≤ maxLen) (h3 : TextsN maxLen (f.node k)) (hr : RowP P w ka 0 (f.kids k)) : KidP P w (es ++ [((f.node k, ka, (f.kids k).len, kc) : E)]) f (k + 1) := ⟨by rw [List.length_append, h.1]; rfl, fun i hi => by
  by_cases e : i = k
  · have hn : nthE (es ++ [((f.node k, ka, (f.kids k).len, kc) : E)]) i = (f.node k, ka, (f.kids k).len, kc) := by
      have := nthE_right (es := es) (ts := [((f.node k, ka, (f.kids k).len, kc) : E)]) (i := 0)
      rw [Nat.add_zero, h.1, ← e] at this
      rw [e] at this ⊢
      exact this
    rw [hn, e]
    exact ⟨rfl, rfl, ⟨h1, h2, h3⟩, hr⟩
  · rw [nthE_left (by rw [h.1]; omega)]
    exact h.2 i (by omega)⟩
theorem KidP.full {P : Nat → Prop} {w : World} {es : List E} {f : Fo} (h : KidP P w es f f.len) : KidE w es f := ⟨h.1, fun i hi => by
  obtain ⟨h1, h2, h3, h4⟩ := h.2 i hi
  exact ⟨h1, h2, h3, h4.row⟩⟩
theorem KidP.trees {P : Nat → Prop} {w : World} {es : List E} {f : Fo} {g : Nat} (h : KidP P w es f f.len) (hr : RowE w (some ⟨g, 0, none⟩) es) (hg : P g) : RowP P w (some ⟨g, 0, none⟩) 0 f := RowP.mk fun i hi => by
  obtain ⟨b, off, e, h1, h2⟩ := hr i (by rw [h.1]; exact hi)
  cases e
  obtain ⟨k1, k2, k3, k4⟩ := h.2 i hi
  rw [Nat.zero_add i]
  rw [k1] at h2
  unfold sv at h2
  rw [k2] at h2
  exact ⟨g, 0, _, _, rfl, hg, h1, h2, k3, k4⟩
/-- A copy appended to a list of copies. -/
theorem push_copy {w wA : World} {B k : Nat} {v : Value} {es : List E} {f : Fo} {a : Option Addr} {c : Nat} (ho : OwnTr w B v es) (hk : KidP (fun b => B ≤ b ∧ v.ownBlock ≠ some b) w es f k) (hb : Below w.heap.size w wA) (hB : B ≤ w.heap.size)
    (h1 : (f.kids k).len ≤ c) (h2 : (f.kids k).len ≤ maxLen) (h3 : TextsN maxLen (f.node k)) (hr : RowP (fun b => w.heap.size ≤ b) wA a 0 (f.kids k)) (hl : k ≤ 4096) :
    ∃ v' w', (Builtin.append_ #[31, 31] 31 #[v, .slice (some ⟨wA.heap.size, 0, none⟩) 1 1]).run Try.prog (wA.alloc (.cells #[.int .i64 (f.node k).k, .int .i64 (f.node k).n, .string (f.node k).nm, .string (f.node k).of, .int .i64 (f.node k).vk, .int .i64 (f.node k).vn, .string (f.node k).vt, .slice a (f.kids k).len c] 33)) = .ok v' w' ∧
      OwnTr w' B v' (es ++ [((f.node k, a, (f.kids k).len, c) : E)]) ∧ KidP (fun b => B ≤ b ∧ v'.ownBlock ≠ some b) w' (es ++ [((f.node k, a, (f.kids k).len, c) : E)]) f (k + 1) ∧ Below B w w' := by
  obtain ⟨WB, hWB⟩ : ∃ WB, wA.alloc (.cells #[.int .i64 (f.node k).k, .int .i64 (f.node k).n, .string (f.node k).nm, .string (f.node k).of, .int .i64 (f.node k).vk, .int .i64 (f.node k).vn, .string (f.node k).vt, .slice a (f.kids k).len c] 33) = WB := ⟨_, rfl⟩
  have BA : Below wA.heap.size wA WB := hWB ▸ (Below.refl _ _).alloc (Nat.le_refl _) _
  have BB : Below w.heap.size w WB := hb.trans (BA.mono hb.size)
  have sB : WB.heap.size = wA.heap.size + 1 := by rw [← hWB]; simp
  have sA := hb.size
  have o2 := ho.below BB
  have hrow : RowE WB (some ⟨wA.heap.size, 0, none⟩) [((f.node k, a, (f.kids k).len, c) : E)] := fun i hi => by
    obtain rfl : i = 0 := by simp at hi; omega
    exact ⟨wA.heap.size, 0, rfl, by omega, hWB ▸ cellT_new' (f.node k) (.slice a (f.kids k).len c) 33 rfl⟩
  obtain ⟨v', w', r1, r2, r3, r4⟩ := app_Tr_at v es [((f.node k, a, (f.kids k).len, c) : E)] WB B wA.heap.size 0 1 o2 (by rw [hk.1]; simp; omega) hrow (by omega)
  rw [hWB]
  have hBel : Below B w w' := own_grown (BB.mono hB) (by omega) o2 r3
  have hsz := r3.size
  refine ⟨v', w', r1, r2, KidP.push (hk.same (by omega) fun b p q => ?_) h1 h2 h3 (hr.same (by omega) fun b p q => ?_), hBel⟩
  · refine ⟨(grown_kept r3 (by omega) p.2).trans (BB.block b q), p.1, ?_⟩
    rcases r4 with r4 | r4
    · rw [r4]; exact p.2
    · rw [r4]; intro e; cases e; omega
  · have hv : v.ownBlock ≠ some b := fun e => by have := (ho.lt e).2; omega
    refine ⟨(grown_kept r3 (by omega) hv).trans (BA.block b q), by omega, ?_⟩
    rcases r4 with r4 | r4
    · rw [r4]; exact hv
    · rw [r4]; intro e; cases e; omega

theorem step_append_run {ops : Array Oper} {o : Oper} {a : Act} {w : World} {K : Act → World → Prop} {Q : Exit → Act → World → Prop} {E : Prop} (hgd : o.guard = none) (s x : Operand) (t tn : TypeId)
    (ho : o.op = .call { callee := .builtin .append, args := #[s, x], argTypes := #[t, tn] }) (vs vx : Value) (hs : a.eval s = vs) (hx : a.eval x = vx)
    (v' : Value) (w' : World) (hr : (Builtin.append_ #[t, tn] o.type #[vs, vx]).run Try.prog w = .ok v' w') (h : K (a.put o.dst v') w') :
    if Region.wanted o (yielded ops a.tmps) = true then Oper.wp Try.prog o a w K Q else E := by
  have hw : Region.wanted o (yielded ops a.tmps) = true := by simp [Region.wanted, hgd]
  rw [if_pos hw]
  exact Lib.wp_append_run w s x t tn ho vs vx hs hx v' w' hr h
/-- What spec's l14Copy answers of this tree. -/
def RetCy (x : ND) (ks : Fo) (w : World) (e : Ending) (w' : World) : Prop := ∃ a c, e = .returned (ValT x (.slice a ks.len c)) ∧ ks.len ≤ c ∧ RowP (fun b => w.heap.size ≤ b) w' a 0 ks ∧ Below w.heap.size w w'
def CyS (x : ND) (ks : Fo) : Prop := ∀ (ka : Option Addr) (kc : Nat) (w : World), RowT 0 w ka 0 ks → ks.size ≤ 4096 → Calls Try.prog 26 #[ValT x (.slice ka ks.len kc)] w (RetCy x ks w)
/-- Under way: the tree, the answer's cells, the copy with a list of copies of its first k kids. -/
structure CyI (w : World) (x : ND) (ks : Fo) (s : Value) (k : Nat) (v : Value) (es : List E) (wr : World) : Prop where
  c1 : CellT wr w.heap.size 0 x s
  c2 : wr.heap[w.heap.size + 1]? = some (.cells #[.int .i64 0, .int .i64 0, .string ⟨#[]⟩, .string ⟨#[]⟩, .int .i64 0, .int .i64 0, .string ⟨#[]⟩, .slice none 0 0] 33 (0, 0))
  c3 : wr.heap[w.heap.size + 2]? = some (.cells #[.int .i64 x.k, .int .i64 x.n, .string x.nm, .string x.of, .int .i64 x.vk, .int .i64 x.vn, .string x.vt, v] 33 (0, 0))
  own : OwnTr wr (w.heap.size + 3) v es
  kid : KidP (fun b => w.heap.size + 3 ≤ b ∧ v.ownBlock ≠ some b) wr es ks k
  bel : Below w.heap.size w wr
  sz : w.heap.size + 3 ≤ wr.heap.size
theorem CyI.store {w wr w' : World} {x : ND} {ks : Fo} {s v v' : Value} {k : Nat} {es es' : List E} (H : CyI w x ks s k v es wr) (ho : OwnTr w' (w.heap.size + 3) v' es') (hk : KidP (fun b => w.heap.size + 3 ≤ b ∧ v'.ownBlock ≠ some b) w' es' ks (k + 1)) (hb : Below (w.heap.size + 3) wr w') : CyI w x ks s (k + 1) v' es' (w'.setCell ⟨w.heap.size + 2, 7, none⟩ v') := by
  have h3 := H.sz
  have e : (w'.setCell ⟨w.heap.size + 2, 7, none⟩ v').heap.size = w'.heap.size := by simp [World.setCell]
  have hs := hb.size
  have k1 : (w'.setCell ⟨w.heap.size + 2, 7, none⟩ v').heap[w.heap.size]? = wr.heap[w.heap.size]? := (set_ne _ (by omega)).trans (hb.block _ (by omega))
  refine ⟨H.c1.same k1, ((set_ne _ (by omega)).trans (hb.block _ (by omega))).trans H.c2, slab_set ((hb.block _ (by omega)).trans H.c3) _, ownsRow_setCell_below ho (by show w.heap.size + 2 < w.heap.size + 3; omega) _, hk.same (by omega) fun b p _ => ⟨set_ne _ (by omega), p⟩, (H.bel.trans (hb.mono (by omega))).setCell (p := ⟨w.heap.size + 2, 7, none⟩) (by simp) _, by omega⟩
set_option maxRecDepth 100000 in
set_option maxHeartbeats 8000000 in
theorem l14Copy_step (x : ND) (ks : Fo) (ih : ∀ i, i < ks.len → CyS (ks.node i) (ks.kids i)) : CyS x ks := by
  intro ka kc w hrow hsz
  have hlen : ks.len ≤ 4096 := Nat.le_trans ks.len_le hsz
  obtain ⟨W1, hW1⟩ : ∃ W1, (((w.alloc (.cells #[.int .i64 x.k, .int .i64 x.n, .string x.nm, .string x.of, .int .i64 x.vk, .int .i64 x.vn, .string x.vt, .slice ka ks.len kc] 33)).alloc (.cells #[.int .i64 0, .int .i64 0, .string ⟨#[]⟩, .string ⟨#[]⟩, .int .i64 0, .int .i64 0, .string ⟨#[]⟩, .slice none 0 0] 33)).alloc (.cells #[.int .i64 x.k, .int .i64 x.n, .string x.nm, .string x.of, .int .i64 x.vk, .int .i64 x.vn, .string x.vt, .slice ka ks.len kc] 33)).setCell ⟨w.heap.size + 2, 7, none⟩ (.slice none 0 0) = W1 := ⟨_, rfl⟩
  have HI0 : Hid (CyI w x ks (.slice ka ks.len kc) 0 (.slice none 0 0) [] W1) := by
    have q1 : (((w.alloc (.cells #[.int .i64 x.k, .int .i64 x.n, .string x.nm, .string x.of, .int .i64 x.vk, .int .i64 x.vn, .string x.vt, .slice ka ks.len kc] 33)).alloc (.cells #[.int .i64 0, .int .i64 0, .string ⟨#[]⟩, .string ⟨#[]⟩, .int .i64 0, .int .i64 0, .string ⟨#[]⟩, .slice none 0 0] 33)).alloc (.cells #[.int .i64 x.k, .int .i64 x.n, .string x.nm, .string x.of, .int .i64 x.vk, .int .i64 x.vn, .string x.vt, .slice ka ks.len kc] 33)).heap[w.heap.size + 2]? = some (.cells #[.int .i64 x.k, .int .i64 x.n, .string x.nm, .string x.of, .int .i64 x.vk, .int .i64 x.vn, .string x.vt, .slice ka ks.len kc] 33 (0, 0)) := heap_new' _ _ _ (by simp)
    have q2 : (((w.alloc (.cells #[.int .i64 x.k, .int .i64 x.n, .string x.nm, .string x.of, .int .i64 x.vk, .int .i64 x.vn, .string x.vt, .slice ka ks.len kc] 33)).alloc (.cells #[.int .i64 0, .int .i64 0, .string ⟨#[]⟩, .string ⟨#[]⟩, .int .i64 0, .int .i64 0, .string ⟨#[]⟩, .slice none 0 0] 33)).alloc (.cells #[.int .i64 x.k, .int .i64 x.n, .string x.nm, .string x.of, .int .i64 x.vk, .int .i64 x.vn, .string x.vt, .slice ka ks.len kc] 33)).heap[w.heap.size + 1]? = some (.cells #[.int .i64 0, .int .i64 0, .string ⟨#[]⟩, .string ⟨#[]⟩, .int .i64 0, .int .i64 0, .string ⟨#[]⟩, .slice none 0 0] 33 (0, 0)) := (heap_old _ _ _ (by simp)).trans (heap_new' _ _ _ (by simp))
    have q3 : (((w.alloc (.cells #[.int .i64 x.k, .int .i64 x.n, .string x.nm, .string x.of, .int .i64 x.vk, .int .i64 x.vn, .string x.vt, .slice ka ks.len kc] 33)).alloc (.cells #[.int .i64 0, .int .i64 0, .string ⟨#[]⟩, .string ⟨#[]⟩, .int .i64 0, .int .i64 0, .string ⟨#[]⟩, .slice none 0 0] 33)).alloc (.cells #[.int .i64 x.k, .int .i64 x.n, .string x.nm, .string x.of, .int .i64 x.vk, .int .i64 x.vn, .string x.vt, .slice ka ks.len kc] 33)).heap[w.heap.size]? = some (.cells #[.int .i64 x.k, .int .i64 x.n, .string x.nm, .string x.of, .int .i64 x.vk, .int .i64 x.vn, .string x.vt, .slice ka ks.len kc] 33 (0, 0)) := (heap_old _ _ _ (by simp; omega)).trans ((heap_old _ _ _ (by simp)).trans (heap_new' _ _ _ rfl))
    have hB : Below w.heap.size w W1 := hW1 ▸ ((((Below.refl _ _).alloc (Nat.le_refl _) _).alloc (by simp) _).alloc (by simp; omega) _).setCell (p := ⟨w.heap.size + 2, 7, none⟩) (by simp) _
    have hS : W1.heap.size = w.heap.size + 3 := by rw [← hW1]; simp [World.setCell]
    have e1 : W1.heap[w.heap.size]? = some (.cells #[.int .i64 x.k, .int .i64 x.n, .string x.nm, .string x.of, .int .i64 x.vk, .int .i64 x.vn, .string x.vt, .slice ka ks.len kc] 33 (0, 0)) := hW1 ▸ (set_ne _ (by omega)).trans q3
    refine ⟨?_, hW1 ▸ (set_ne _ (by omega)).trans q2, hW1 ▸ slab_set q1 _, OwnTr.nil _ _, ⟨rfl, fun i hi => by omega⟩, hB, by omega⟩
    refine ⟨?_, ?_, ?_, ?_, ?_, ?_, ?_, ?_⟩ <;> exact slab_cell e1
  have HR : Hid (RowT 0 w ka 0 ks) := hrow
  have IH : Hid (∀ i, i < ks.len → CyS (ks.node i) (ks.kids i) ∧ (ks.kids i).size ≤ 4096) := fun i hi => ⟨ih i hi, by have := ks.kids_lt i hi; omega⟩
  have HZ : Hid (ks.size ≤ 4096) := hsz
  clear hrow ih hsz
  obtain ⟨len, hL⟩ : ∃ m, ks.len = m := ⟨_, rfl⟩
  have HL : Hid (ks.len = len) := hL
  rw [hL] at hlen HI0 hW1 ⊢
  clear hL
  go_enter Try.func26, Try.ntmps26
  go_wp2
  go_loopw [4] (fun i wr => ∃ (k : Nat) (v : Value) (es : List E), k ≤ len ∧ i = .int .i64 k ∧ Hid (CyI w x ks (.slice ka len kc) k v es wr)) (fun i _ => len - (intOf i).toNat)
  case atStart => exact ⟨0, _, _, by omega, rfl, HI0⟩
  case round =>
    clear HI0 hW1
    obtain ⟨k, v, es, hk, rfl, HS⟩ := hrel
    obtain ⟨va, vc, hv, _⟩ := HS.out.own.row
    obtain ⟨n, hn⟩ : ∃ n, es.length = n := ⟨_, rfl⟩
    rw [hn] at hv
    subst hv
    have HNN0 : Hid (es.length = n) := hn
    clear hn
    have hsw : w.heap.size + 3 ≤ wr.heap.size := HS.out.sz
    by_cases hlt : k < len
    · have hltI : (k : Int) < (len : Int) := by omega
      have hkf : k < ks.len := by rw [HL.out]; exact hlt
      obtain ⟨b, off, kx, kcx, rfl, _, hlb, ⟨c0, c1, c2, c3, c4, c5, c6, c7⟩, ⟨m0, m1, m2⟩, hkr⟩ := (HR.out.below HS.out.bel).at k hkf
      obtain ⟨y0, y1, y2, y3, y4, y5, y6, y7⟩ := HS.out.c1
      have z7 : wr.cell? ⟨w.heap.size + 1 + 1, 7, none⟩ = some (.slice va n vc) := slab_cell HS.out.c3
      have HB : Hid (∀ W, Below wr.heap.size wr W → Calls Try.prog 26 #[ValT (ks.node k) (.slice kx (ks.kids k).len kcx)] W (RetCy (ks.node k) (ks.kids k) W)) := fun W hW => (IH.out k hkf).1 kx kcx W (hkr.below hW) (IH.out k hkf).2
      have HX : Hid (∀ wA a' c', Below wr.heap.size wr wA → (ks.kids k).len ≤ c' → RowP (fun b => wr.heap.size ≤ b) wA a' 0 (ks.kids k) → ∃ x' n' c'' w', (Builtin.append_ #[31, 31] 31 #[.slice va n vc, .slice (some ⟨wA.heap.size, 0, none⟩) 1 1]).run Try.prog (wA.alloc (.cells #[.int .i64 (ks.node k).k, .int .i64 (ks.node k).n, .string (ks.node k).nm, .string (ks.node k).of, .int .i64 (ks.node k).vk, .int .i64 (ks.node k).vn, .string (ks.node k).vt, .slice a' (ks.kids k).len c'] 33)) = .ok (.slice x' n' c'') w' ∧
          w'.heap[w.heap.size + 2]? = some (.cells #[.int .i64 x.k, .int .i64 x.n, .string x.nm, .string x.of, .int .i64 x.vk, .int .i64 x.vn, .string x.vt, .slice va n vc] 33 (0, 0)) ∧ w.heap.size + 3 ≤ w'.heap.size ∧ ∃ es', CyI w x ks (.slice (some ⟨b, off, none⟩) len kc) (k + 1) (.slice x' n' c'') es' (w'.setCell ⟨w.heap.size + 1 + 1, 7, none⟩ (.slice x' n' c''))) := fun wA a' c' q1 q2 q3 => by
        obtain ⟨v', w', r1, r2, r3, r4⟩ := push_copy (f := ks) HS.out.own HS.out.kid q1 hsw q2 m1 m2 q3 (by have := HZ.out; omega)
        obtain ⟨x', c'', hv', _⟩ := r2.row
        subst hv'
        exact ⟨x', _, c'', w', r1, (r4.block _ (by omega)).trans HS.out.c3, Nat.le_trans hsw r4.size, _, HS.out.store r2 r3 r4⟩
      clear m0 m1 m2 hkr
      generalize hxk : ks.node k = xk at *
      clear hxk
      go_wp2_with fail
      go_region_law (first
        | (refine step_append_run (by rfl) _ _ _ _ (by rfl) _ _ (by rfl) (by rfl) _ _ hrun ?_)
        | (go_simp; refine (HB.out _ (by first | exact Below.refl _ _ | exact (Below.refl _ _).drew)).mono ?_; rintro e wA ⟨a', c', rfl, q2, q3, q4⟩; (have BA : Below wr.heap.size wr wA := (by first | exact q4 | exact below_step (Below.refl _ _).drew (Nat.le_refl _) q4)); obtain ⟨x', n', c'', wB, hrun, e3, sB, es', HN⟩ := HX.out wA a' c' BA q2 q3; (have z7A : wA.cell? ⟨w.heap.size + 1 + 1, 7, none⟩ = some (.slice va n vc) := (BA.cell (p := ⟨w.heap.size + 1 + 1, 7, none⟩) (by show w.heap.size + 1 + 1 < _; omega)).trans z7); (have zlA : w.heap.size + 1 + 1 < wA.heap.size := (by have := BA.size; omega)); (have z7B : wB.cell? ⟨w.heap.size + 1 + 1, 7, none⟩ = some (.slice va n vc) := slab_cell e3); (have zfB : ∀ q, wB.frozen? ⟨w.heap.size + 1 + 1, q, none⟩ = false := fun q => slab_free e3); (have HNN : Hid (CyI w x ks (.slice (some ⟨b, off, none⟩) len kc) (k + 1) (.slice x' n' c'') es' (wB.setCell ⟨w.heap.size + 1 + 1, 7, none⟩ (.slice x' n' c''))) := HN); clear HN e3 sB q2 q3 q4 BA HX HB))
      all_goals
        go_wp2
        go_roundw
        case rel => exact ⟨k + 1, _, _, by omega, by go_num, HNN⟩
        case measure => simp [intOf]; omega
    · obtain rfl : k = len := by omega
      have hkn : es.length = ks.len := by rw [HL.out]; exact HS.out.kid.1
      have hn : n = k := by rw [← HNN0.out, hkn, HL.out]
      subst hn
      have HF : Hid (n ≤ vc ∧ ∀ w3 : World, wr.heap.size ≤ w3.heap.size → (∀ b, w.heap.size + 3 ≤ b → w3.heap[b]? = wr.heap[b]?) → RowP (fun b => w.heap.size ≤ b) w3 va 0 ks) := by
        obtain ⟨a', c', e, hc', hr, hz⟩ := HS.out.own.row
        cases e
        refine ⟨by rw [← HNN0.out]; exact hc', fun w3 h1 h2 => ?_⟩
        have hP : RowP (fun b => w.heap.size + 3 ≤ b) wr va 0 ks := by
          by_cases h0 : ks.len = 0
          · rw [nil_of_len h0]; trivial
          · obtain ⟨g, rfl, hg, _⟩ := hz (by omega)
            have hk' := HS.out.kid
            rw [← HL.out] at hk'
            exact KidP.trees (P := fun b => w.heap.size + 3 ≤ b) (hk'.same (Nat.le_refl _) fun b p _ => ⟨rfl, p.1⟩) hr hg
        exact hP.same h1 fun b p _ => ⟨h2 b p, by omega⟩
      have HB : Hid (Below w.heap.size w wr) := HS.out.bel
      have x3 := HS.out.c3
      have x2 := HS.out.c2
      obtain ⟨y0, y1, y2, y3, y4, y5, y6, y7⟩ := HS.out.c1
      have z0 : wr.cell? ⟨w.heap.size + 1 + 1, 0, none⟩ = some (.int .i64 x.k) := slab_cell x3
      have z1 : wr.cell? ⟨w.heap.size + 1 + 1, 1, none⟩ = some (.int .i64 x.n) := slab_cell x3
      have z2 : wr.cell? ⟨w.heap.size + 1 + 1, 2, none⟩ = some (.string x.nm) := slab_cell x3
      have z3 : wr.cell? ⟨w.heap.size + 1 + 1, 3, none⟩ = some (.string x.of) := slab_cell x3
      have z4 : wr.cell? ⟨w.heap.size + 1 + 1, 4, none⟩ = some (.int .i64 x.vk) := slab_cell x3
      have z5 : wr.cell? ⟨w.heap.size + 1 + 1, 5, none⟩ = some (.int .i64 x.vn) := slab_cell x3
      have z6 : wr.cell? ⟨w.heap.size + 1 + 1, 6, none⟩ = some (.string x.vt) := slab_cell x3
      have z7 : wr.cell? ⟨w.heap.size + 1 + 1, 7, none⟩ = some (.slice va n vc) := slab_cell x3
      have d : ∀ j v, (#[.int .i64 0, .int .i64 0, .string ⟨#[]⟩, .string ⟨#[]⟩, .int .i64 0, .int .i64 0, .string ⟨#[]⟩, .slice none 0 0] : Array Value)[j]? = some v → wr.cell? ⟨w.heap.size + 1, j, none⟩ = some v := fun j v h => (slab_cell x2).trans h
      have d10 := d 0 (.int .i64 0) rfl
      have d11 := d 1 (.int .i64 0) rfl
      have d12 := d 2 (.string ⟨#[]⟩) rfl
      have d13 := d 3 (.string ⟨#[]⟩) rfl
      have d14 := d 4 (.int .i64 0) rfl
      have d15 := d 5 (.int .i64 0) rfl
      have d16 := d 6 (.string ⟨#[]⟩) rfl
      have d17 := d 7 (.slice none 0 0) rfl
      have f1 : ∀ q, wr.frozen? ⟨w.heap.size + 1, q, none⟩ = false := fun q => slab_free x2
      clear d x2 x3 HS hlt hkn
      go_wp2
      refine bodyPost_ret (v := ValT x (.slice va n vc)) (by go_simp; simp [results, Try.results26, go_sem, d10, d11, d12, d13, d14, d15, d16, d17]) rfl ⟨va, vc, by rw [HL.out], by rw [HL.out]; exact HF.out.1, ?_, ?_⟩
      · refine HF.out.2 _ (by simp [World.setCell]) fun b hb => ?_
        repeat refine (Below.heap_setCell _ _ _ _ (by first | (simp only; omega) | omega)).trans ?_
        rfl
      · have := HB.out
        repeat (refine Below.setCell ?_ (by first | (simp; done) | (simp; omega)) _)
        exact this
theorem l14Copy_size : ∀ (n : Nat) (x : ND) (ks : Fo), ks.size < n → CyS x ks
  | 0, _, _, h => by omega
  | n + 1, x, ks, h => l14Copy_step x ks fun i hi => l14Copy_size n _ _ (by have := ks.kids_lt i hi; omega)
theorem l14Copy_any (x : ND) (ks : Fo) : CyS x ks := l14Copy_size _ x ks (Nat.lt_succ_self _)
end Go.Proofs.Ythjibgnhpkonbaa
