/- Copies of trees own their memory and are marked (stage 16). -/
import Derived.Test.YteejkmcljokloaaGreatDoorTrD
import Derived.Test.YteejkmcljokloaaGreatDoorMkA
namespace Go.Proofs.YteejkmcljokloaaGreatDoor
open Go.RowKit

/-- The trees of f lie in block g from the i-th place on, each with kids of its own within lo and hi. -/
def DeepT (w : World) : Fo → Nat → Nat → Nat → Nat → Prop
  | .nil, _, _, _, _ => True
  | .cons x ks r, lo, hi, g, i => ∃ v mid, CellT w g (i * 8) x v ∧ lo ≤ mid ∧ mid ≤ hi ∧
      ((v = .slice none 0 0 ∧ ks.len = 0) ∨ ∃ h c cur, v = .slice (some ⟨h, 0, none⟩) ks.len c ∧ ks.len ≤ c ∧ lo ≤ h ∧ h < mid ∧ w.heap[h]? = some (.cells cur 38 (0, 0)) ∧ cur.size = c * 8 ∧ DeepT w ks (h + 1) mid h 0) ∧ DeepT w r mid hi g (i + 1)
/-- A list of trees that owns its memory, within lo and hi. -/
def KidD (w : World) (lo hi : Nat) (v : Value) (ks : Fo) : Prop :=
  (v = .slice none 0 0 ∧ ks.len = 0) ∨ ∃ h c cur, v = .slice (some ⟨h, 0, none⟩) ks.len c ∧ ks.len ≤ c ∧ lo ≤ h ∧ h < hi ∧ w.heap[h]? = some (.cells cur 38 (0, 0)) ∧ cur.size = c * 8 ∧ DeepT w ks (h + 1) hi h 0
theorem DeepT.cons {w : World} {x : ND} {ks r : Fo} {lo hi g i : Nat} : DeepT w (.cons x ks r) lo hi g i ↔ ∃ v mid, CellT w g (i * 8) x v ∧ lo ≤ mid ∧ mid ≤ hi ∧ KidD w lo mid v ks ∧ DeepT w r mid hi g (i + 1) := Iff.rfl
theorem DeepT.mono {w : World} : ∀ {f : Fo} {lo lo' hi hi' g i : Nat}, DeepT w f lo hi g i → lo' ≤ lo → hi ≤ hi' → DeepT w f lo' hi' g i
  | .nil, _, _, _, _, _, _, _, _, _ => trivial
  | .cons x ks r, _, _, _, _, _, _, ⟨v, mid, c, h1, h2, hk, hr⟩, hl, hh => by
    refine ⟨v, mid, c, by omega, by omega, ?_, hr.mono (Nat.le_refl _) hh⟩
    rcases hk with h | ⟨h, c, cur, e, p1, p2, p3, p4, p5, p6⟩
    · exact .inl h
    · exact .inr ⟨h, c, cur, e, p1, by omega, p3, p4, p5, p6⟩
theorem KidD.mono {w : World} {lo lo' hi hi' : Nat} {v : Value} {ks : Fo} (h : KidD w lo hi v ks) (hl : lo' ≤ lo) (hh : hi ≤ hi') : KidD w lo' hi' v ks := by
  rcases h with h | ⟨h, c, cur, e, p1, p2, p3, p4, p5, p6⟩
  · exact .inl h
  · exact .inr ⟨h, c, cur, e, p1, by omega, by omega, p4, p5, p6.mono (Nat.le_refl _) hh⟩
/-- Its blocks stand. -/
theorem DeepT.same {w w' : World} : ∀ {f : Fo} {lo hi g i : Nat}, DeepT w f lo hi g i → w'.heap[g]? = w.heap[g]? → (∀ b, lo ≤ b → b < hi → b < w.heap.size → w'.heap[b]? = w.heap[b]?) → DeepT w' f lo hi g i
  | .nil, _, _, _, _, _, _, _ => trivial
  | .cons x ks r, lo, hi, g, i, ⟨v, mid, c, h1, h2, hk, hr⟩, hg, hb => by
    refine ⟨v, mid, c.same hg, h1, h2, ?_, DeepT.same (f := r) hr hg fun b q1 q2 q3 => hb b (by omega) q2 q3⟩
    rcases hk with h | ⟨h, c, cur, e, p1, p2, p3, p4, p5, p6⟩
    · exact .inl h
    · have hh : w'.heap[h]? = w.heap[h]? := hb h p2 (by omega) (slab_lt p4)
      exact .inr ⟨h, c, cur, e, p1, p2, p3, hh.trans p4, p5, DeepT.same (f := ks) p6 hh fun b q1 q2 q3 => hb b (by omega) (by omega) q3⟩
theorem KidD.same {w w' : World} {lo hi : Nat} {v : Value} {ks : Fo} (h : KidD w lo hi v ks) (hb : ∀ b, lo ≤ b → b < hi → b < w.heap.size → w'.heap[b]? = w.heap[b]?) : KidD w' lo hi v ks := by
  rcases h with h | ⟨h, c, cur, e, p1, p2, p3, p4, p5, p6⟩
  · exact .inl h
  · have hh : w'.heap[h]? = w.heap[h]? := hb h p2 p3 (slab_lt p4)
    exact .inr ⟨h, c, cur, e, p1, p2, p3, hh.trans p4, p5, p6.same hh fun b q1 q2 q3 => hb b (by omega) q2 q3⟩
theorem KidD.below {w w' : World} {lo hi : Nat} {v : Value} {ks : Fo} (h : KidD w lo hi v ks) (hb : Below w.heap.size w w') : KidD w' lo hi v ks := h.same fun b _ _ q => hb.block b q
/-- By places. -/
theorem DeepT.at : ∀ {w : World} {f : Fo} {lo hi g i : Nat}, DeepT w f lo hi g i → lo ≤ hi → ∃ ms : Nat → Nat, lo ≤ ms 0 ∧ (∀ j, j < f.len → ms j ≤ ms (j + 1)) ∧ ms f.len ≤ hi ∧ ∀ j, j < f.len → ∃ v, CellT w g ((i + j) * 8) (f.node j) v ∧ KidD w (ms j) (ms (j + 1)) v (f.kids j)
  | _, .nil, lo, hi, _, _, _, hlh => ⟨fun _ => lo, Nat.le_refl _, fun j h => by simp [Fo.len] at h, hlh, fun j h => by simp [Fo.len] at h⟩
  | w, .cons x ks r, lo, hi, g, i, h, hlh => by
    obtain ⟨v, mid, c, h1, h2, hk, hr⟩ := DeepT.cons.1 h
    obtain ⟨ms, q1, q2, q3, q4⟩ := DeepT.at hr h2
    refine ⟨fun j => if j = 0 then lo else ms (j - 1), by simp, fun j hj => ?_, q3, fun j hj => ?_⟩
    · cases j with
      | zero => simp; omega
      | succ j => simp; exact q2 j (by simp only [Fo.len] at hj; omega)
    · cases j with
      | zero => exact ⟨v, by rw [Nat.add_zero]; exact c, by simpa [Fo.kids] using hk.mono (Nat.le_refl _) q1⟩
      | succ j =>
        obtain ⟨v', c', k'⟩ := q4 j (by simp only [Fo.len] at hj; omega)
        exact ⟨v', by rw [show i + (j + 1) = i + 1 + j by omega]; exact c', by simpa [Fo.kids] using k'⟩
theorem DeepT.mk : ∀ {w : World} {f : Fo} {lo hi g i : Nat} (ms : Nat → Nat), lo ≤ ms 0 → (∀ j, j < f.len → ms j ≤ ms (j + 1)) → ms f.len ≤ hi → (∀ j, j < f.len → ∃ v, CellT w g ((i + j) * 8) (f.node j) v ∧ KidD w (ms j) (ms (j + 1)) v (f.kids j)) → DeepT w f lo hi g i
  | _, .nil, _, _, _, _, _, _, _, _, _ => trivial
  | w, .cons x ks r, lo, hi, g, i, ms, h0, h1, h2, h3 => by
    obtain ⟨v, c, k⟩ := h3 0 (by simp [Fo.len])
    have hm : ∀ j, j ≤ r.len → ms 1 ≤ ms (j + 1) := fun j => by
      induction j with
      | zero => intro _; exact Nat.le_refl _
      | succ j ih => intro hj; exact Nat.le_trans (ih (by omega)) (h1 (j + 1) (by simp only [Fo.len]; omega))
    refine DeepT.cons.2 ⟨v, ms 1, by rw [Nat.add_zero] at c; exact c, Nat.le_trans h0 (h1 0 (by simp [Fo.len])), Nat.le_trans (hm r.len (Nat.le_refl _)) h2, k.mono h0 (Nat.le_refl _), ?_⟩
    refine DeepT.mk (f := r) (fun j => ms (j + 1)) (Nat.le_refl _) (fun j hj => h1 (j + 1) (by simp only [Fo.len]; omega)) h2 fun j hj => ?_
    obtain ⟨v', c', k'⟩ := h3 (j + 1) (by simp only [Fo.len]; omega)
    exact ⟨v', by rw [show i + 1 + j = i + (j + 1) by omega]; exact c', k'⟩
/-- It can be read. -/
theorem DeepT.row {w : World} : ∀ {f : Fo} {lo hi g i : Nat}, DeepT w f lo hi g i → g < w.heap.size → SmallF f → f.size ≤ 1048576 → RowT 0 w (some ⟨g, 0, none⟩) i f
  | .nil, _, _, _, _, _, _, _, _ => trivial
  | .cons x ks r, lo, hi, g, i, ⟨v, mid, c, h1, h2, hk, hr⟩, hg, hs, hz => by
    have hl := ks.len_le
    simp only [Fo.size] at hz
    refine ⟨?_, DeepT.row (f := r) hr hg hs.2.2 (by omega)⟩
    obtain ⟨t0, t1, t2⟩ := hs.1
    have ht : TextsN maxLen x := ⟨by unfold maxLen; omega, by unfold maxLen; omega, by unfold maxLen; omega⟩
    rcases hk with ⟨rfl, h0⟩ | ⟨h, c', cur, rfl, p1, p2, p3, p4, p5, p6⟩
    · refine ⟨g, 0, none, 0, rfl, Nat.zero_le _, hg, by rw [Nat.zero_add, h0]; exact c, ⟨by omega, by unfold maxLen; omega, ht⟩, ?_⟩
      cases ks with
      | nil => trivial
      | cons _ _ _ => simp [Fo.len] at h0
    · exact ⟨g, 0, some ⟨h, 0, none⟩, c', rfl, Nat.zero_le _, hg, by rw [Nat.zero_add]; exact c, ⟨p1, by unfold maxLen; omega, ht⟩, DeepT.row (f := ks) p6 (slab_lt p4) hs.2.1 (by omega)⟩
theorem KidD.row {w : World} {lo hi : Nat} {v : Value} {ks : Fo} (h : KidD w lo hi v ks) (hs : SmallF ks) (hz : ks.size ≤ 1048576) : ∃ a c, v = .slice a ks.len c ∧ ks.len ≤ c ∧ RowT 0 w a 0 ks := by
  rcases h with ⟨rfl, h0⟩ | ⟨h, c', cur, rfl, p1, p2, p3, p4, p5, p6⟩
  · refine ⟨none, 0, by rw [h0], by omega, ?_⟩
    cases ks with
    | nil => trivial
    | cons _ _ _ => simp [Fo.len] at h0
  · exact ⟨_, _, rfl, p1, p6.row (slab_lt p4) hs hz⟩
end Go.Proofs.YteejkmcljokloaaGreatDoor
namespace Go.Proofs.YteejkmcljokloaaGreatDoor
open Go.RowKit

/-- What toTreeS answers of the trees of f: they own their memory. -/
def ToD (f : Fo) : Prop := ∀ (a : Option Addr) (cap : Nat) (w : World), RowT 0 w a 0 f → f.len ≤ 1048576 → SmallF f → f.size ≤ 1048576 →
    Calls Tryz.prog 25 #[.slice a f.len cap] w fun e w' => ∃ g, e = .returned (fullS g f.len) ∧ KidD w' w.heap.size w'.heap.size (fullS g f.len) f ∧ Below w.heap.size w w'

set_option maxRecDepth 100000 in
set_option maxHeartbeats 2000000 in
theorem toTD_any (x : ND) (ks : Fo) (hS : ToD ks) (ka : Option Addr) (kc : Nat) (w : World) (hrow : RowT 0 w ka 0 ks) (hlen : ks.len ≤ 1048576) (hz : SmallF ks) (hsz : ks.size ≤ 1048576) :
    Calls Tryz.prog 8 #[ValT x (.slice ka ks.len kc)] w fun e w' => ∃ g, e = .returned (ValT x (fullS g ks.len)) ∧ KidD w' w.heap.size w'.heap.size (fullS g ks.len) ks ∧ Below w.heap.size w w' := by
  have HR : Hid (RowT 0 w ka 0 ks ∧ ks.len ≤ 1048576 ∧ SmallF ks ∧ ks.size ≤ 1048576) := ⟨hrow, hlen, hz, hsz⟩
  have HS : Hid (ToD ks) := hS
  have HV := fun w => toV_any x w
  clear hrow hlen hS hz hsz
  obtain ⟨k, n, nm, of, vk, vn, vt⟩ := x
  obtain ⟨W0, hW0⟩ : ∃ W0, ((w.alloc (.cells #[.int .i64 k, .int .i64 n, .string nm, .string of, .int .i64 vk, .int .i64 vn, .string vt, .slice ka ks.len kc] 27)).alloc (.cells #[.int .i64 0, .int .i64 0, .string ⟨#[]⟩, .string ⟨#[]⟩, .int .i64 0, .int .i64 0, .string ⟨#[]⟩, .slice none 0 0] 38)).alloc (.cells #[.int .i64 k, .int .i64 n, .string nm, .string of, .int .i64 0, .int .i64 0, .string ⟨#[]⟩, .slice none 0 0] 38) = W0 := ⟨_, rfl⟩
  have B0 : Below w.heap.size w W0 := hW0 ▸ (((Below.refl _ _).alloc (Nat.le_refl _) _).alloc (by simp) _).alloc (by simp; omega) _
  have z0 : W0.heap.size = w.heap.size + 3 := by rw [← hW0]; simp
  have XP : Hid (W0.heap[w.heap.size]? = some (.cells #[.int .i64 k, .int .i64 n, .string nm, .string of, .int .i64 vk, .int .i64 vn, .string vt, .slice ka ks.len kc] 27 (0, 0))) := (hW0 ▸ (heap_old _ _ _ (by simp; omega)).trans ((heap_old _ _ _ (by simp)).trans (heap_new' _ _ _ rfl)) : W0.heap[w.heap.size]? = _)
  have X1 : Hid (W0.heap[w.heap.size + 1]? = some (.cells #[.int .i64 0, .int .i64 0, .string ⟨#[]⟩, .string ⟨#[]⟩, .int .i64 0, .int .i64 0, .string ⟨#[]⟩, .slice none 0 0] 38 (0, 0))) := (hW0 ▸ (heap_old _ _ _ (by simp)).trans (heap_new' _ _ _ (by simp)) : W0.heap[w.heap.size + 1]? = _)
  have X2 : Hid (W0.heap[w.heap.size + 1 + 1]? = some (.cells #[.int .i64 k, .int .i64 n, .string nm, .string of, .int .i64 0, .int .i64 0, .string ⟨#[]⟩, .slice none 0 0] 38 (0, 0))) := (hW0 ▸ heap_new' _ _ _ (by simp) : W0.heap[w.heap.size + 1 + 1]? = _)
  have c04 : W0.cell? ⟨w.heap.size, 4, none⟩ = some (.int .i64 vk) := by simp [World.cell?, XP.out]
  have c05 : W0.cell? ⟨w.heap.size, 5, none⟩ = some (.int .i64 vn) := by simp [World.cell?, XP.out]
  have c06 : W0.cell? ⟨w.heap.size, 6, none⟩ = some (.string vt) := by simp [World.cell?, XP.out]
  go_enter Tryz.func8, Tryz.ntmps8
  go_wp2_with fail
  refine (HV _).mono ?_
  rintro e w1 ⟨rfl, b1⟩
  have xp := kpBlk XP.out b1 (slab_lt XP.out)
  have x1 := kpBlk X1.out b1 (slab_lt X1.out)
  have x2 := kpBlk X2.out b1 (slab_lt X2.out)
  have B1 : Below w.heap.size w w1 := B0.trans (b1.mono B0.size)
  have z1 : W0.heap.size ≤ w1.heap.size := b1.size
  have c21 : w1.cell? ⟨w.heap.size + 1 + 1, 4, none⟩ = some (.int .i64 0) := by simp [World.cell?, x2]
  have c22 : w1.cell? ⟨w.heap.size + 1 + 1, 5, none⟩ = some (.int .i64 0) := by simp [World.cell?, x2]
  have c23 : w1.cell? ⟨w.heap.size + 1 + 1, 6, none⟩ = some (.string ⟨#[]⟩) := by simp [World.cell?, x2]
  have f2 : ∀ q, w1.frozen? ⟨w.heap.size + 1 + 1, q, none⟩ = false := fun q => slab_free x2
  obtain ⟨W1, hW1⟩ : ∃ W1, ((w1.setCell ⟨w.heap.size + 1 + 1, 4, none⟩ (.int .i64 vk)).setCell ⟨w.heap.size + 1 + 1, 5, none⟩ (.int .i64 vn)).setCell ⟨w.heap.size + 1 + 1, 6, none⟩ (.string vt) = W1 := ⟨_, rfl⟩
  have YP : Hid (W1.heap[w.heap.size]? = some (.cells #[.int .i64 k, .int .i64 n, .string nm, .string of, .int .i64 vk, .int .i64 vn, .string vt, .slice ka ks.len kc] 27 (0, 0))) := (hW1 ▸ (Below.heap_setCell _ _ _ _ (by simp; omega)).trans ((Below.heap_setCell _ _ _ _ (by simp; omega)).trans ((Below.heap_setCell _ _ _ _ (by simp; omega)).trans xp)) : W1.heap[w.heap.size]? = _)
  have Y1 : Hid (W1.heap[w.heap.size + 1]? = some (.cells #[.int .i64 0, .int .i64 0, .string ⟨#[]⟩, .string ⟨#[]⟩, .int .i64 0, .int .i64 0, .string ⟨#[]⟩, .slice none 0 0] 38 (0, 0))) := (hW1 ▸ (Below.heap_setCell _ _ _ _ (by simp)).trans ((Below.heap_setCell _ _ _ _ (by simp)).trans ((Below.heap_setCell _ _ _ _ (by simp)).trans x1)) : W1.heap[w.heap.size + 1]? = _)
  have Y2 : Hid (W1.heap[w.heap.size + 1 + 1]? = some (.cells #[.int .i64 k, .int .i64 n, .string nm, .string of, .int .i64 vk, .int .i64 vn, .string vt, .slice none 0 0] 38 (0, 0))) := (hW1 ▸ slab_set (slab_set (slab_set x2 _) _) _ : W1.heap[w.heap.size + 1 + 1]? = _)
  have B2 : Below w.heap.size w W1 := hW1 ▸ ((B1.setCell (p := ⟨w.heap.size + 1 + 1, 4, none⟩) (by simp; omega) _).setCell (p := ⟨w.heap.size + 1 + 1, 5, none⟩) (by simp; omega) _).setCell (p := ⟨w.heap.size + 1 + 1, 6, none⟩) (by simp; omega) _
  have z2 : W1.heap.size = w1.heap.size := by rw [← hW1]; simp [World.setCell]
  have c13 : W1.cell? ⟨w.heap.size, 7, none⟩ = some (.slice ka ks.len kc) := by simp [World.cell?, YP.out]
  clear xp x1 x2 b1 XP X1 X2 B0 hW0 HV c04 c05 c06
  go_wp2_with fail
  refine (HS.out ka kc W1 (HR.out.1.below B2) HR.out.2.1 HR.out.2.2.1 HR.out.2.2.2).mono ?_
  rintro e w2 ⟨g, rfl, hrow, b2⟩
  have x1 := kpBlk Y1.out b2 (slab_lt Y1.out)
  have x2 := kpBlk Y2.out b2 (slab_lt Y2.out)
  have z3 : W1.heap.size ≤ w2.heap.size := b2.size
  have B3 : Below w.heap.size w w2 := B2.trans (b2.mono B2.size)
  have d : ∀ j v, (#[.int .i64 0, .int .i64 0, .string ⟨#[]⟩, .string ⟨#[]⟩, .int .i64 0, .int .i64 0, .string ⟨#[]⟩, .slice none 0 0] : Array Value)[j]? = some v → w2.cell? ⟨w.heap.size + 1, j, none⟩ = some v := fun j v h => (slab_cell x1).trans h
  have d10 := d 0 (.int .i64 0) rfl
  have d11 := d 1 (.int .i64 0) rfl
  have d12 := d 2 (.string ⟨#[]⟩) rfl
  have d13 := d 3 (.string ⟨#[]⟩) rfl
  have d14 := d 4 (.int .i64 0) rfl
  have d15 := d 5 (.int .i64 0) rfl
  have d16 := d 6 (.string ⟨#[]⟩) rfl
  have d17 := d 7 (.slice none 0 0) rfl
  have e : ∀ j v, (#[.int .i64 k, .int .i64 n, .string nm, .string of, .int .i64 vk, .int .i64 vn, .string vt, .slice none 0 0] : Array Value)[j]? = some v → w2.cell? ⟨w.heap.size + 1 + 1, j, none⟩ = some v := fun j v h => (slab_cell x2).trans h
  have d20 := e 0 (.int .i64 k) rfl
  have d21 := e 1 (.int .i64 n) rfl
  have d22 := e 2 (.string nm) rfl
  have d23 := e 3 (.string of) rfl
  have d24 := e 4 (.int .i64 vk) rfl
  have d25 := e 5 (.int .i64 vn) rfl
  have d26 := e 6 (.string vt) rfl
  have d27 := e 7 (.slice none 0 0) rfl
  clear d e
  have f1 : ∀ q, w2.frozen? ⟨w.heap.size + 1, q, none⟩ = false := fun q => slab_free x1
  have f3 : ∀ q, w2.frozen? ⟨w.heap.size + 1 + 1, q, none⟩ = false := fun q => slab_free x2
  have HF : Hid (∀ w3 : World, w2.heap.size ≤ w3.heap.size → (∀ b, W1.heap.size ≤ b → w3.heap[b]? = w2.heap[b]?) → KidD w3 w.heap.size w3.heap.size (fullS g ks.len) ks) := fun w3 h1 h2 => (hrow.same fun b hb _ _ => h2 b hb).mono (by omega) h1
  have HZ : Hid (w.heap.size + 3 ≤ W1.heap.size) := (by omega : _ ≤ _)
  have HB : Hid (Below w.heap.size w w2) := B3
  clear x1 x2 b2 B2 B3 Y1 Y2 YP hW1 c13 c21 c22 c23 f2 hrow
  go_wp2
  refine bodyPost_ret (v := ValT ⟨k, n, nm, of, vk, vn, vt⟩ (fullS g ks.len)) (by go_simp; simp [results, Tryz.results8, go_sem, d10, d11, d12, d13, d14, d15, d16, d17]) rfl ⟨g, rfl, ?_, ?_⟩
  · refine HF.out _ (by simp [World.setCell]) fun b hb => ?_
    have := HZ.out
    repeat refine (Below.heap_setCell _ _ _ _ (by first | (simp only; omega) | omega)).trans ?_
    rfl
  · have := HB.out
    repeat (refine Below.setCell ?_ (by first | (simp; done) | (simp; omega)) _)
    exact this

/-- A tree's cells. -/
def ElC (cur : Array Value) (i : Nat) (x : ND) (v : Value) : Prop := cur[i * 8]? = some (.int .i64 x.k) ∧ cur[i * 8 + 1]? = some (.int .i64 x.n) ∧ cur[i * 8 + 2]? = some (.string x.nm) ∧ cur[i * 8 + 3]? = some (.string x.of) ∧ cur[i * 8 + 4]? = some (.int .i64 x.vk) ∧ cur[i * 8 + 5]? = some (.int .i64 x.vn) ∧ cur[i * 8 + 6]? = some (.string x.vt) ∧ cur[i * 8 + 7]? = some v
theorem ElC.cell {w : World} {g i : Nat} {cur : Array Value} {x : ND} {v : Value} (h : ElC cur i x v) (hg : w.heap[g]? = some (.cells cur 38 (0, 0))) : CellT w g (i * 8) x v := by
  obtain ⟨h0, h1, h2, h3, h4, h5, h6, h7⟩ := h
  exact ⟨(slab_cell hg).trans h0, (slab_cell hg).trans h1, (slab_cell hg).trans h2, (slab_cell hg).trans h3, (slab_cell hg).trans h4, (slab_cell hg).trans h5, (slab_cell hg).trans h6, (slab_cell hg).trans h7⟩
theorem ElC.of {w : World} {g i : Nat} {cur : Array Value} {x : ND} {v : Value} (h : CellT w g (i * 8) x v) (hg : w.heap[g]? = some (.cells cur 38 (0, 0))) : ElC cur i x v := by
  obtain ⟨h0, h1, h2, h3, h4, h5, h6, h7⟩ := h
  rw [slab_cell hg] at h0 h1 h2 h3 h4 h5 h6 h7
  exact ⟨h0, h1, h2, h3, h4, h5, h6, h7⟩
theorem ElC.same {cur cur' : Array Value} {i : Nat} {x : ND} {v : Value} (h : ElC cur i x v) (e : ∀ o, i * 8 ≤ o → o < i * 8 + 8 → cur'[o]? = cur[o]?) : ElC cur' i x v := by
  obtain ⟨h0, h1, h2, h3, h4, h5, h6, h7⟩ := h
  exact ⟨(e _ (by omega) (by omega)).trans h0, (e _ (by omega) (by omega)).trans h1, (e _ (by omega) (by omega)).trans h2, (e _ (by omega) (by omega)).trans h3, (e _ (by omega) (by omega)).trans h4, (e _ (by omega) (by omega)).trans h5, (e _ (by omega) (by omega)).trans h6, (e _ (by omega) (by omega)).trans h7⟩
/-- A block of n trees, of which the first k are those of f, with kids of their own. -/
def SlabD (w : World) (lo g n : Nat) (f : Fo) (k : Nat) : Prop :=
  ∃ (cur : Array Value) (ms : Nat → Nat), w.heap[g]? = some (.cells cur 38 (0, 0)) ∧ cur.size = n * 8 ∧ lo ≤ ms 0 ∧ (∀ i, i < k → ms i ≤ ms (i + 1)) ∧ ms k ≤ w.heap.size ∧ ∀ i, i < k → ∃ v, KidD w (ms i) (ms (i + 1)) v (f.kids i) ∧ ElC cur i (f.node i) v
theorem SlabD.zero {w : World} {g n : Nat} {cur : Array Value} (f : Fo) (h : w.heap[g]? = some (.cells cur 38 (0, 0))) (hs : cur.size = n * 8) : SlabD w (g + 1) g n f 0 :=
  ⟨cur, fun _ => g + 1, h, hs, Nat.le_refl _, fun i hi => by omega, slab_lt h, fun i hi => by omega⟩
theorem SlabD.lt {w : World} {lo g n k : Nat} {f : Fo} (h : SlabD w lo g n f k) : g < w.heap.size := by
  obtain ⟨cur, ms, hh, _⟩ := h
  exact slab_lt hh
theorem SlabD.there {w : World} {lo g n k j : Nat} {f : Fo} (h : SlabD w lo g n f k) (hj : j < n * 8) : ∃ v, w.cell? ⟨g, j, none⟩ = some v := by
  obtain ⟨cur, ms, hh, hs, _⟩ := h
  exact ⟨cur[j]'(by omega), by rw [slab_cell hh]; exact Array.getElem?_eq_getElem _⟩
theorem SlabD.free {w : World} {lo g n k : Nat} {f : Fo} (h : SlabD w lo g n f k) (o : Nat) : w.frozen? ⟨g, o, none⟩ = false := by
  obtain ⟨cur, ms, hh, _⟩ := h
  exact slab_free hh
theorem ms_le {ms : Nat → Nat} {k : Nat} (h : ∀ i, i < k → ms i ≤ ms (i + 1)) : ∀ i j, i ≤ j → j ≤ k → ms i ≤ ms j
  | i, 0, h1, _ => by obtain rfl : i = 0 := (by omega); exact Nat.le_refl _
  | i, j + 1, h1, h2 => by
    by_cases e : i = j + 1
    · rw [e]; exact Nat.le_refl _
    · exact Nat.le_trans (ms_le h i j (by omega) (by omega)) (h j (by omega))
theorem SlabD.below {w w' : World} {lo g n k : Nat} {f : Fo} (h : SlabD w lo g n f k) (hb : Below w.heap.size w w') : SlabD w' lo g n f k := by
  obtain ⟨cur, ms, hh, hs, q1, q2, q3, q4⟩ := h
  refine ⟨cur, ms, (hb.block g (slab_lt hh)).trans hh, hs, q1, q2, Nat.le_trans q3 hb.size, fun i hi => ?_⟩
  obtain ⟨v, hk, he⟩ := q4 i hi
  exact ⟨v, hk.below hb, he⟩
/-- One more tree stands there. -/
theorem SlabD.push {w w' : World} {lo g n k : Nat} {f : Fo} {v : Value} (h : SlabD w lo g n f k) (hlo : g < lo) (hsz : w.heap.size ≤ w'.heap.size) (hb : ∀ b, b ≠ g → b < w.heap.size → w'.heap[b]? = w.heap[b]?)
    (hg : ∀ cur : Array Value, w.heap[g]? = some (.cells cur 38 (0, 0)) → cur.size = n * 8 → ∃ cur' : Array Value, w'.heap[g]? = some (.cells cur' 38 (0, 0)) ∧ cur'.size = n * 8 ∧ (∀ o, o < k * 8 → cur'[o]? = cur[o]?) ∧ ElC cur' k (f.node k) v)
    (hk : KidD w' w.heap.size w'.heap.size v (f.kids k)) : SlabD w' lo g n f (k + 1) := by
  obtain ⟨cur, ms, hh, hs, q1, q2, q3, q4⟩ := h
  obtain ⟨cur', h1, h2, h3, h4⟩ := hg cur hh hs
  obtain ⟨mz, z1, z2⟩ : ∃ mz : Nat → Nat, (∀ i, i ≤ k → mz i = ms i) ∧ mz (k + 1) = w'.heap.size := ⟨fun i => if i ≤ k then ms i else w'.heap.size, fun i hi => if_pos hi, if_neg (by omega)⟩
  refine ⟨cur', mz, h1, h2, by rw [z1 0 (by omega)]; exact q1, fun i hi => ?_, by rw [z2]; exact Nat.le_refl _, fun i hi => ?_⟩
  · by_cases e : i = k
    · subst e
      rw [z1 i (Nat.le_refl _), z2]
      omega
    · rw [z1 i (by omega), z1 (i + 1) (by omega)]
      exact q2 i (by omega)
  · by_cases e : i = k
    · subst e
      rw [z1 i (Nat.le_refl _), z2]
      exact ⟨v, hk.mono q3 (Nat.le_refl _), h4⟩
    · rw [z1 i (by omega), z1 (i + 1) (by omega)]
      obtain ⟨v', hk', he'⟩ := q4 i (by omega)
      have hm := ms_le q2 0 i (by omega) (by omega)
      exact ⟨v', hk'.same fun b p1 p2 p3 => hb b (by omega) p3, he'.same fun o p1 p2 => h3 o (by omega)⟩
theorem SlabD.kid {w : World} {lo g c : Nat} {f : Fo} (h : SlabD w (g + 1) g c f f.len) (hc : f.len ≤ c) (hlo : lo ≤ g) : KidD w lo w.heap.size (.slice (some ⟨g, 0, none⟩) f.len c) f := by
  obtain ⟨cur, ms, hh, hs, q1, q2, q3, q4⟩ := h
  refine .inr ⟨g, c, cur, rfl, hc, hlo, slab_lt hh, hh, hs, DeepT.mk ms q1 q2 q3 fun j hj => ?_⟩
  obtain ⟨v, hk, he⟩ := q4 j hj
  exact ⟨v, by rw [Nat.zero_add]; exact he.cell hh, hk⟩
theorem arr_put {cur : Array Value} {n k : Nat} (hs : cur.size = n * 8) (hk : k < n) (x : ND) (v : Value) : ∃ cur' : Array Value, cur' = ((((((((cur.setIfInBounds (k * 8) (.int .i64 x.k)).setIfInBounds (k * 8 + 1) (.int .i64 x.n)).setIfInBounds (k * 8 + 2) (.string x.nm)).setIfInBounds (k * 8 + 3) (.string x.of)).setIfInBounds (k * 8 + 4) (.int .i64 x.vk)).setIfInBounds (k * 8 + 5) (.int .i64 x.vn)).setIfInBounds (k * 8 + 6) (.string x.vt)).setIfInBounds (k * 8 + 7) v) ∧ cur'.size = n * 8 ∧ (∀ o, o < k * 8 → cur'[o]? = cur[o]?) ∧ ElC cur' k x v := by
  refine ⟨_, rfl, by simpa using hs, fun o ho => ?_, ?_, ?_, ?_, ?_, ?_, ?_, ?_, ?_⟩
  · repeat rw [Array.getElem?_setIfInBounds_ne (by omega)]
  all_goals
    repeat rw [Array.getElem?_setIfInBounds_ne (by omega)]
    rw [Array.getElem?_setIfInBounds_self_of_lt (by first | omega | (simp; omega))]
theorem set_ne {w : World} {g o b : Nat} (v : Value) (h : b ≠ g) : (w.setCell ⟨g, o, none⟩ v).heap[b]? = w.heap[b]? := Below.heap_setCell _ _ _ _ (by show b ≠ g; exact h)
theorem SlabD.step {wr w : World} {lo g n k : Nat} {f : Fo} {v : Value} (h : SlabD wr lo g n f k) (hlo : g < lo) (hb : Below wr.heap.size wr w) (hk : k < n) (hv : KidD w wr.heap.size w.heap.size v (f.kids k)) :
    SlabD (putT w g k (f.node k) v) lo g n f (k + 1) := by
  have hlt := h.lt
  refine h.push (v := v) hlo (by simpa [World.setCell] using hb.size) (fun b h1 h2 => ?_) (fun cur hh hs => ?_) ?_
  · repeat rw [set_ne _ h1]
    exact hb.block b h2
  · obtain ⟨cur', e, h1, h2, h3⟩ := arr_put hs hk (f.node k) v
    refine ⟨cur', ?_, h1, h2, h3⟩
    rw [e]
    exact slab_set (slab_set (slab_set (slab_set (slab_set (slab_set (slab_set (slab_set ((hb.block g hlt).trans hh) _) _) _) _) _) _) _) _
  · have e : (putT w g k (f.node k) v).heap.size = w.heap.size := by simp [World.setCell]
    rw [e]
    refine hv.same fun b h1 _ _ => ?_
    repeat rw [set_ne _ (by omega : b ≠ g)]

set_option maxRecDepth 100000 in
set_option maxHeartbeats 2000000 in
theorem toD_step (f : Fo) (ih : ∀ ks : Fo, ks.size < f.size → ToD ks) : ToD f := by
  intro a cap w hrow hlen hz hsz
  have HR : Hid (RowT 0 w a 0 f) := hrow
  have HZ : Hid (SmallF f ∧ f.size ≤ 1048576) := ⟨hz, hsz⟩
  have IH : Hid (∀ i, i < f.len → ToD (f.kids i)) := fun i hi => ih _ (f.kids_lt i hi)
  clear hrow ih hz hsz
  obtain ⟨len, hL⟩ : ∃ m, f.len = m := ⟨_, rfl⟩
  have HL : Hid (f.len = len) := hL
  rw [hL] at hlen ⊢
  clear hL
  obtain ⟨i0, hi, hz0, hz1, hz2⟩ := info_parts infoT
  go_enter Tryz.func25, Tryz.ntmps25
  go_wp2_with (at_make; refine wpList_make_full _ rfl _ _ 36 rfl w.heap.size 38 i0 _ 8 Tryz.underlying36 hi hz0 hz1 .i64 .i64 _ _ len rfl rfl rfl rfl ?m1 ?m2 (Nat.le_refl _) ?_)
  case m1 => rw [hz2]; omega
  case m2 => unfold maxLen; omega
  intro w1 hown hgr
  have hB1 : Below w.heap.size w w1 := (Below.refl _ _).grown hgr (Nat.le_refl _) (fun k hk => by cases hk)
  have hS : SlabD w1 (w.heap.size + 1) w.heap.size len f 0 := by
    rcases hown.2 with ⟨h, _⟩ | ⟨g, c, cur, h, _, hh, _, _, hcs, _⟩
    · cases h
    · cases h
      exact SlabD.zero f hh hcs
  clear hown hgr hi hz0 hz1 hz2
  go_wp2
  go_loopw [4] (fun i wr => ∃ k : Nat, k ≤ len ∧ i = .int .i64 k ∧ SlabD wr (w.heap.size + 1) w.heap.size len f k ∧ Below w.heap.size w wr) (fun i _ => len - (intOf i).toNat)
  case atStart => exact ⟨0, by omega, rfl, hS, hB1⟩
  case round =>
    obtain ⟨k, hk, rfl, hSk, hbl⟩ := hrel
    by_cases hlt : k < len
    · have hkf : k < f.len := by rw [HL.out]; exact hlt
      obtain ⟨b, off, ka, kc, rfl, _, hlb, ⟨c0, c1, c2, c3, c4, c5, c6, c7⟩, ⟨_, hkl, htx⟩, hkr⟩ := (HR.out.below hbl).at k hkf
      have HZ' : Hid (ToD (f.kids k) ∧ RowT 0 wr ka 0 (f.kids k) ∧ SmallF (f.kids k) ∧ (f.kids k).size ≤ 1048576) := ⟨IH.out k hkf, hkr, (HZ.out.1.at k hkf).2, by have := f.kids_lt k hkf; have := HZ.out.2; omega⟩
      have hkl' : (f.kids k).len ≤ 1048576 := Nat.le_trans (Fo.len_le _) HZ'.out.2.2.2
      have hlw : w.heap.size < wr.heap.size := hSk.lt
      clear hkr hkl htx hkf
      go_wp2_with fail
      refine (toTD_any (f.node k) (f.kids k) HZ'.out.1 ka kc wr HZ'.out.2.1 hkl' HZ'.out.2.2.1 HZ'.out.2.2.2).mono ?_
      rintro e w2 ⟨g, rfl, hrow, hb2⟩
      have hS2 := hSk.below hb2
      have hB2 := below_step hbl (Nat.le_refl _) hb2
      obtain ⟨v0, hv0⟩ := hS2.there (j := k * 8) (by omega)
      obtain ⟨v1, hv1⟩ := hS2.there (j := k * 8 + 1) (by omega)
      obtain ⟨v2, hv2⟩ := hS2.there (j := k * 8 + 2) (by omega)
      obtain ⟨v3, hv3⟩ := hS2.there (j := k * 8 + 3) (by omega)
      obtain ⟨v4, hv4⟩ := hS2.there (j := k * 8 + 4) (by omega)
      obtain ⟨v5, hv5⟩ := hS2.there (j := k * 8 + 5) (by omega)
      obtain ⟨v6, hv6⟩ := hS2.there (j := k * 8 + 6) (by omega)
      obtain ⟨v7, hv7⟩ := hS2.there (j := k * 8 + 7) (by omega)
      have hf := hS2.free
      have HN : Hid (SlabD _ _ _ _ _ (k + 1)) := hSk.step (Nat.lt_succ_self _) hb2 hlt hrow
      have HB : Hid (Below w.heap.size w (putT w2 w.heap.size k (f.node k) (fullS g (f.kids k).len))) := put_below hB2 (Nat.le_refl _)
      clear c0 c1 c2 c3 c4 c5 c6 c7 hb2 hlb hSk hbl hS2 hS hB1 hB2 hrow HZ'
      go_wp2
      go_roundw
      case rel => exact ⟨k + 1, by omega, by go_num, HN.out, HB.out⟩
      case measure => simp [intOf]; omega
    · obtain rfl : k = len := by omega
      have HF : Hid (KidD wr w.heap.size wr.heap.size (fullS w.heap.size f.len) f) := SlabD.kid (by rw [HL.out]; exact hSk) (Nat.le_refl _) (Nat.le_refl _)
      have HK : KidD wr w.heap.size wr.heap.size (fullS w.heap.size f.len) f := HF.out
      go_wp2
      go_ret
      exact ⟨_, rfl, by rw [HL.out] at HK; exact HK, hbl⟩
theorem toD_all : ∀ (n : Nat) (f : Fo), f.size ≤ n → ToD f
  | 0, f, h => toD_step f fun ks hk => by omega
  | n + 1, f, h => toD_step f fun ks hk => toD_all n ks (by omega)
theorem toD_any (f : Fo) : ToD f := toD_all _ f (Nat.le_refl _)
end Go.Proofs.YteejkmcljokloaaGreatDoor
namespace Go.Proofs.YteejkmcljokloaaGreatDoor
open Go.RowKit

/-- A marked node. -/
def labN (k : Int) : ND := ⟨k, k + 1, mtx (k + 2), mtx (k + 3), k + 4, k + 5, mtx (k + 6)⟩
/-- These trees, marked from k on. -/
def lab : Fo → Int → Fo
  | .nil, _ => .nil
  | .cons _ ks r, k => .cons (labN k) (lab ks (k + 7)) (lab r (k + 7 * ((ks.size : Int) + 1)))
theorem lab_len : ∀ (f : Fo) (k : Int), (lab f k).len = f.len
  | .nil, _ => rfl
  | .cons _ ks r, k => by simp only [lab, Fo.len, lab_len r]
theorem lab_at : ∀ (f : Fo) (k : Int) (i : Nat), i < f.len → (lab f k).node i = labN (k + 7 * (f.upTo i : Int)) ∧ (lab f k).kids i = lab (f.kids i) (k + 7 * (f.upTo i : Int) + 7)
  | .nil, _, _, h => by simp [Fo.len] at h
  | .cons x ks r, k, 0, _ => by simp [lab, Fo.node, Fo.kids, Fo.upTo]
  | .cons x ks r, k, i + 1, h => by
    obtain ⟨h1, h2⟩ := lab_at r (k + 7 * ((ks.size : Int) + 1)) i (by simp only [Fo.len] at h; omega)
    have e : k + 7 * ((ks.size : Int) + 1) + 7 * (r.upTo i : Int) = k + 7 * ((Fo.cons x ks r).upTo (i + 1) : Int) := by simp only [Fo.upTo]; push_cast; omega
    rw [e] at h1 h2
    exact ⟨h1, h2⟩

/-- A list of trees in block h, of which the first j are marked from k on. -/
structure MkI (w : World) (h c hi : Nat) (k : Int) (ks : Fo) (ms : Nat → Nat) (vs : Nat → Value) (j : Nat) (wr : World) : Prop where
  blk : ∃ cur : Array Value, wr.heap[h]? = some (.cells cur 38 (0, 0)) ∧ cur.size = c * 8 ∧ (∀ i, i < j → ElC cur i (labN (k + 7 * (ks.upTo i : Int))) (vs i)) ∧ ∀ i, j ≤ i → i < ks.len → cur[i * 8 + 7]? = some (vs i)
  did : ∀ i, i < j → KidD wr (ms i) (ms (i + 1)) (vs i) (lab (ks.kids i) (k + 7 * (ks.upTo i : Int) + 7))
  todo : ∀ i, j ≤ i → i < ks.len → KidD wr (ms i) (ms (i + 1)) (vs i) (ks.kids i)
  kept : Kept (fun b => h ≤ b ∧ b < hi) w wr
/-- The j-th one's own cells are marked, too. -/
structure MkM (w : World) (h c hi : Nat) (k : Int) (ks : Fo) (ms : Nat → Nat) (vs : Nat → Value) (j : Nat) (wr : World) : Prop where
  blk : ∃ cur : Array Value, wr.heap[h]? = some (.cells cur 38 (0, 0)) ∧ cur.size = c * 8 ∧ (∀ i, i < j + 1 → ElC cur i (labN (k + 7 * (ks.upTo i : Int))) (vs i)) ∧ ∀ i, j ≤ i → i < ks.len → cur[i * 8 + 7]? = some (vs i)
  did : ∀ i, i < j → KidD wr (ms i) (ms (i + 1)) (vs i) (lab (ks.kids i) (k + 7 * (ks.upTo i : Int) + 7))
  todo : ∀ i, j ≤ i → i < ks.len → KidD wr (ms i) (ms (i + 1)) (vs i) (ks.kids i)
  kept : Kept (fun b => h ≤ b ∧ b < hi) w wr
theorem lab_cells (cur : Array Value) (j : Nat) (q : Int) (t2 t3 t6 : ByteArray) (v : Value) (h : j * 8 + 7 < cur.size) (h7 : cur[j * 8 + 7]? = some v) : ElC (((((((cur.setIfInBounds (j * 8) (.int .i64 q)).setIfInBounds (j * 8 + 1) (.int .i64 (q + 1))).setIfInBounds (j * 8 + 2) (.string t2)).setIfInBounds (j * 8 + 3) (.string t3)).setIfInBounds (j * 8 + 4) (.int .i64 (q + 4))).setIfInBounds (j * 8 + 5) (.int .i64 (q + 5))).setIfInBounds (j * 8 + 6) (.string t6)) j ⟨q, q + 1, t2, t3, q + 4, q + 5, t6⟩ v := by
  refine ⟨?_, ?_, ?_, ?_, ?_, ?_, ?_, ?_⟩
  all_goals
    repeat rw [Array.getElem?_setIfInBounds_ne (by omega)]
    first
      | (rw [Array.getElem?_setIfInBounds_self_of_lt (by first | omega | (simp; omega))]; done)
      | exact h7
theorem lab_old (cur : Array Value) (j o : Nat) (q : Int) (t2 t3 t6 : ByteArray) (h : o < j * 8 ∨ j * 8 + 7 ≤ o) : (((((((cur.setIfInBounds (j * 8) (.int .i64 q)).setIfInBounds (j * 8 + 1) (.int .i64 (q + 1))).setIfInBounds (j * 8 + 2) (.string t2)).setIfInBounds (j * 8 + 3) (.string t3)).setIfInBounds (j * 8 + 4) (.int .i64 (q + 4))).setIfInBounds (j * 8 + 5) (.int .i64 (q + 5))).setIfInBounds (j * 8 + 6) (.string t6))[o]? = cur[o]? := by
  repeat rw [Array.getElem?_setIfInBounds_ne (by omega)]
theorem lab_size (cur : Array Value) (j : Nat) (q : Int) (t2 t3 t6 : ByteArray) : (((((((cur.setIfInBounds (j * 8) (.int .i64 q)).setIfInBounds (j * 8 + 1) (.int .i64 (q + 1))).setIfInBounds (j * 8 + 2) (.string t2)).setIfInBounds (j * 8 + 3) (.string t3)).setIfInBounds (j * 8 + 4) (.int .i64 (q + 4))).setIfInBounds (j * 8 + 5) (.int .i64 (q + 5))).setIfInBounds (j * 8 + 6) (.string t6)).size = cur.size := by simp only [Array.size_setIfInBounds]
theorem MkI.mid {w wr w' : World} {h c hi j : Nat} {k q : Int} {ks : Fo} {ms : Nat → Nat} {vs : Nat → Value} (H : MkI w h c hi k ks ms vs j wr) (h1 : h + 1 ≤ ms 0) (h2 : ∀ i, i < ks.len → ms i ≤ ms (i + 1)) (hj : j < ks.len) (hc : ks.len ≤ c) (hlt : h < hi) (hq : q = k + 7 * (ks.upTo j : Int))
    (hK : Kept (fun b => b = h) wr w')
    (hh : ∀ cur : Array Value, wr.heap[h]? = some (.cells cur 38 (0, 0)) → cur.size = c * 8 → w'.heap[h]? = some (.cells (((((((cur.setIfInBounds (j * 8) (.int .i64 q)).setIfInBounds (j * 8 + 1) (.int .i64 (q + 1))).setIfInBounds (j * 8 + 2) (.string (mtx (q + 2)))).setIfInBounds (j * 8 + 3) (.string (mtx (q + 3)))).setIfInBounds (j * 8 + 4) (.int .i64 (q + 4))).setIfInBounds (j * 8 + 5) (.int .i64 (q + 5))).setIfInBounds (j * 8 + 6) (.string (mtx (q + 6)))) 38 (0, 0))) :
    MkM w h c hi k ks ms vs j w' := by
  obtain ⟨⟨cur, e, hs, a1, a2⟩, did, todo, kept⟩ := H
  have e' := hh cur e hs
  have hm : ∀ i, i ≤ ks.len → h + 1 ≤ ms i := fun i hi' => Nat.le_trans h1 (ms_le h2 0 i (Nat.zero_le _) hi')
  refine ⟨⟨_, e', (lab_size cur j q _ _ _).trans hs, fun i hi' => ?_, fun i p1 p2 => ?_⟩, fun i hi' => (did i hi').same fun b p1 p2 p3 => hK.block b p3 (by have := hm i (by omega); omega), fun i p1 p2 => (todo i p1 p2).same fun b q1 q2 q3 => hK.block b q3 (by have := hm i (by omega); omega), kept.trans (hK.mono fun b e => by subst e; exact ⟨Nat.le_refl _, hlt⟩)⟩
  · by_cases ei : i = j
    · subst ei
      rw [← hq]
      have h7 := a2 i (Nat.le_refl _) hj
      have hb : i * 8 + 7 < cur.size := by omega
      exact lab_cells cur i q _ _ _ _ hb h7
    · refine (a1 i (by omega)).same fun o o1 o2 => ?_
      exact lab_old cur j o q _ _ _ (by omega)
  · rw [lab_old cur j _ q _ _ _ (by omega)]
    exact a2 i p1 p2
theorem MkM.next {w wr w' : World} {h c hi j : Nat} {k : Int} {ks : Fo} {ms : Nat → Nat} {vs : Nat → Value} (H : MkM w h c hi k ks ms vs j wr) (h1 : h + 1 ≤ ms 0) (h2 : ∀ i, i < ks.len → ms i ≤ ms (i + 1)) (h3 : ms ks.len ≤ hi) (hj : j < ks.len)
    (hk : KidD w' (ms j) (ms (j + 1)) (vs j) (lab (ks.kids j) (k + 7 * (ks.upTo j : Int) + 7))) (hK : Kept (fun b => ms j ≤ b ∧ b < ms (j + 1)) wr w') : MkI w h c hi k ks ms vs (j + 1) w' := by
  obtain ⟨⟨cur, e, hs, a1, a2⟩, did, todo, kept⟩ := H
  have hm : ∀ i, i ≤ ks.len → h + 1 ≤ ms i := fun i hi' => Nat.le_trans h1 (ms_le h2 0 i (Nat.zero_le _) hi')
  have hmj := hm j (by omega)
  refine ⟨⟨cur, (hK.block h (slab_lt e) (by omega)).trans e, hs, a1, fun i p1 p2 => a2 i (by omega) p2⟩, fun i hi' => ?_, fun i p1 p2 => ?_, kept.trans (hK.mono fun b p => ⟨by omega, by have := ms_le h2 (j + 1) ks.len (by omega) (Nat.le_refl _); omega⟩)⟩
  · by_cases ei : i = j
    · subst ei; exact hk
    · refine (did i (by omega)).same fun b q1 q2 q3 => hK.block b q3 ?_
      have := ms_le h2 (i + 1) j (by omega) (by omega)
      omega
  · refine (todo i (by omega) p2).same fun b q1 q2 q3 => hK.block b q3 ?_
    have := ms_le h2 (j + 1) i (by omega) (by omega)
    omega
theorem MkI.done {w wr : World} {h c hi : Nat} {k : Int} {ks : Fo} {ms : Nat → Nat} {vs : Nat → Value} (H : MkI w h c hi k ks ms vs ks.len wr) (h1 : h + 1 ≤ ms 0) (h2 : ∀ i, i < ks.len → ms i ≤ ms (i + 1)) (h3 : ms ks.len ≤ hi) (hc : ks.len ≤ c) (lo : Nat) (hlo : lo ≤ h) (hlt : h < hi) : KidD wr lo hi (.slice (some ⟨h, 0, none⟩) ks.len c) (lab ks k) ∧ Kept (fun b => lo ≤ b ∧ b < hi) w wr := by
  obtain ⟨⟨cur, e, hs, a1, _⟩, did, _, kept⟩ := H
  refine ⟨.inr ⟨h, c, cur, by rw [lab_len], by rw [lab_len]; exact hc, hlo, hlt, e, hs, DeepT.mk ms h1 (by rw [lab_len]; exact h2) (by rw [lab_len]; exact h3) fun j hj => ?_⟩, kept.mono fun b p => ⟨by omega, p.2⟩⟩
  rw [lab_len] at hj
  obtain ⟨l1, l2⟩ := lab_at ks k j hj
  rw [l1, l2, Nat.zero_add]
  exact ⟨vs j, (a1 j hj).cell e, did j hj⟩
theorem MkI.start {w : World} {h c hi : Nat} {cur : Array Value} (k : Int) {ks : Fo} (e : w.heap[h]? = some (.cells cur 38 (0, 0))) (hs : cur.size = c * 8) (hlt : h < hi) (hd : DeepT w ks (h + 1) hi h 0) : ∃ (ms : Nat → Nat) (vs : Nat → Value), (h + 1 ≤ ms 0 ∧ (∀ i, i < ks.len → ms i ≤ ms (i + 1)) ∧ ms ks.len ≤ hi) ∧ MkI w h c hi k ks ms vs 0 w := by
  obtain ⟨ms, q1, q2, q3, q4⟩ := hd.at (by omega)
  obtain ⟨vs, hv⟩ : ∃ vs : Nat → Value, ∀ j, j < ks.len → CellT w h ((0 + j) * 8) (ks.node j) (vs j) ∧ KidD w (ms j) (ms (j + 1)) (vs j) (ks.kids j) := by
    classical
    exact ⟨fun j => if hj : j < ks.len then Classical.choose (q4 j hj) else .bool false, fun j hj => by simp only [dif_pos hj]; exact Classical.choose_spec (q4 j hj)⟩
  refine ⟨ms, vs, ⟨q1, q2, q3⟩, ⟨cur, e, hs, fun i hi => by omega, fun i _ hi => ?_⟩, fun i hi => by omega, fun i _ hi => (hv i hi).2, Kept.refl _ _⟩
  have := (hv i hi).1
  rw [Nat.zero_add] at this
  exact (ElC.of this e).2.2.2.2.2.2.2
theorem MkI.there {w wr : World} {h c hi j o : Nat} {k : Int} {ks : Fo} {ms : Nat → Nat} {vs : Nat → Value} (H : MkI w h c hi k ks ms vs j wr) (ho : o < c * 8) : (∃ v, wr.cell? ⟨h, o, none⟩ = some v) ∧ (∀ q, wr.frozen? ⟨h, q, none⟩ = false) ∧ h < wr.heap.size := by
  obtain ⟨⟨cur, e, hs, _⟩, _⟩ := H
  exact ⟨blk_there e (by omega), fun q => slab_free e, slab_lt e⟩
/-- A block with room for so many cells. -/
def Room (w : World) (h n : Nat) (A : Array Value) : Prop := w.heap[h]? = some (.cells A 38 (0, 0)) ∧ A.size = n
theorem Room.there {w : World} {h n o : Nat} {A : Array Value} (H : Room w h n A) (ho : o < n) : ∃ v, w.cell? ⟨h, o, none⟩ = some v := blk_there H.1 (by rw [H.2]; exact ho)
theorem Room.free {w : World} {h n : Nat} {A : Array Value} (H : Room w h n A) (q : Nat) : w.frozen? ⟨h, q, none⟩ = false := slab_free H.1
theorem Room.set {w : World} {h n o : Nat} {A : Array Value} (H : Room w h n A) (v : Value) : Room (w.setCell ⟨h, o, none⟩ v) h n (A.setIfInBounds o v) := ⟨slab_set H.1 v, by simpa using H.2⟩
theorem Room.below {w w' : World} {h n : Nat} {A : Array Value} (H : Room w h n A) (hb : Below w.heap.size w w') : Room w' h n A := ⟨(hb.block h (slab_lt H.1)).trans H.1, H.2⟩

/-- What markTreeS does to these trees. -/
def MkS (ks : Fo) : Prop := ∀ (v : Value) (lo hi : Nat) (k : Int) (w : World), KidD w lo hi v ks → 0 ≤ k → k + 7 * (ks.size : Int) ≤ 4000000000000000000 → ks.size ≤ 1048577 →
    Calls Tryz.prog 36 #[v, .int .i64 k] w fun e w' => e = .returned (.int .i64 (k + 7 * (ks.size : Int))) ∧ KidD w' lo hi v (lab ks k) ∧ Kept (fun b => lo ≤ b ∧ b < hi) w w'
set_option maxRecDepth 100000 in
theorem markS_nil (a : Option Addr) (c : Nat) (k : Int) (w : World) : Calls Tryz.prog 36 #[.slice a 0 c, .int .i64 k] w fun e w' => e = .returned (.int .i64 k) ∧ w' = w := by
  go_enter Tryz.func36, Tryz.ntmps36
  go_wp2
  go_loop [1, 5] (fun m i => m = .int .i64 k ∧ i = .int .i64 0) (fun _ _ => 0)
  case atStart => exact ⟨rfl, rfl⟩
  case round =>
    obtain ⟨rfl, rfl⟩ := hrel
    go_wp2
    go_ret
    exact ⟨rfl, rfl⟩
theorem nil_of_len {ks : Fo} (h : ks.len = 0) : ks = .nil := by
  cases ks with
  | nil => rfl
  | cons _ _ _ => simp [Fo.len] at h
set_option maxRecDepth 100000 in
set_option maxHeartbeats 8000000 in
theorem markS_step (ks : Fo) (ih : ∀ i, i < ks.len → MkS (ks.kids i)) : MkS ks := by
  intro v lo hi k w hk k0 k1 hsz
  have hlen : ks.len ≤ 1048577 := Nat.le_trans ks.len_le hsz
  rcases hk with ⟨rfl, h0⟩ | ⟨h, c, cur, rfl, p1, p2, p3, p4, p5, p6⟩
  · obtain rfl := nil_of_len h0
    refine (markS_nil none 0 k w).mono ?_
    rintro e w' ⟨rfl, rfl⟩
    exact ⟨by simp [Fo.size], .inl ⟨rfl, rfl⟩, Kept.refl _ _⟩
  obtain ⟨ms, vs, ⟨q1, q2, q3⟩, H0⟩ := MkI.start k p4 p5 p3 p6
  have HI : Hid ((∀ i, i < ks.len → MkS (ks.kids i)) ∧ ks.len ≤ c ∧ h < hi ∧ lo ≤ h) := ⟨ih, p1, p3, p2⟩
  have HQ : Hid (h + 1 ≤ ms 0 ∧ (∀ i, i < ks.len → ms i ≤ ms (i + 1)) ∧ ms ks.len ≤ hi) := ⟨q1, q2, q3⟩
  have HH : Hid (MkI w h c hi k ks ms vs 0 w) := H0
  have HZ : Hid (k + 7 * (ks.size : Int) ≤ 4000000000000000000 ∧ ks.size ≤ 1048577) := ⟨k1, hsz⟩
  clear ih p1 p2 p3 p4 p5 p6 q1 q2 q3 H0 k1 hsz
  obtain ⟨len, hL⟩ : ∃ m, ks.len = m := ⟨_, rfl⟩
  have HL : Hid (ks.len = len) := hL
  rw [hL] at hlen ⊢
  clear hL
  go_enter Tryz.func36, Tryz.ntmps36
  go_wp2
  go_loopw [1, 5] (fun m i wr => ∃ (j : Nat) (q : Int), j ≤ len ∧ i = .int .i64 j ∧ m = .int .i64 q ∧ Hid (q = k + 7 * (ks.upTo j : Int)) ∧ Hid (MkI w h c hi k ks ms vs j wr)) (fun _ i _ => len - (intOf i).toNat)
  case atStart => exact ⟨0, k, by omega, rfl, rfl, by show _ = _; rw [Fo.upTo_zero]; simp, HH⟩
  case round =>
    clear HH
    obtain ⟨j, q, hj, rfl, rfl, HE, HS⟩ := hrel
    by_cases hlt : j < len
    · have hltI : (j : Int) < (len : Int) := by omega
      have hjk : j < ks.len := by rw [HL.out]; exact hlt
      have hup := ks.upTo_succ j hjk
      have hle := ks.upTo_le (j + 1)
      have qb : 0 ≤ q ∧ q + 7 ≤ 4000000000000000000 := by have := HE.out; have := HZ.out; omega
      obtain ⟨qb0, qb1⟩ := qb
      obtain ⟨cur, hcur, hcs, hc1, hc2⟩ := HS.out.blk
      have hjc : j < c := Nat.lt_of_lt_of_le hjk HI.out.2.1
      have R0 : Room wr h (c * 8) cur := ⟨hcur, hcs⟩
      obtain ⟨v0, hv0⟩ := R0.there (o := j * 8) (by omega)
      obtain ⟨v1, hv1⟩ := R0.there (o := j * 8 + 1) (by omega)
      have hf := R0.free
      have HR : Hid (Room wr h (c * 8) cur ∧ j < c ∧ cur[j * 8 + 7]? = some (vs j)) := ⟨R0, hjc, hc2 j (Nat.le_refl _) hjk⟩
      have HN : Hid (j < ks.len ∧ ks.upTo (j + 1) = ks.upTo j + (ks.kids j).size + 1 ∧ ks.upTo (j + 1) ≤ ks.size) := ⟨hjk, hup, hle⟩
      clear hjk hup hle hjc hc1 hc2 hcs R0 hcur
      go_wp2_with fail
      refine (markText_any (q + 1 + 1) _ (by omega) (by omega)).mono ?_
      rintro e w1 ⟨rfl, ht2, b1⟩
      have K1 : Kept (fun b => b = h) wr w1 := (((Kept.refl (fun b => b = h) wr).set _ rfl).set _ rfl).trans (Kept.of_below b1)
      have R1 := ((HR.out.1.set (o := j * 8) (.int .i64 q)).set (o := j * 8 + 1) (.int .i64 (q + 1))).below b1
      have HW1 : Hid (Kept (fun b => b = h) wr w1 ∧ Room w1 h (c * 8) ((cur.setIfInBounds (j * 8) (.int .i64 q)).setIfInBounds (j * 8 + 1) (.int .i64 (q + 1)))) := ⟨K1, R1⟩
      obtain ⟨v2, hv2⟩ := R1.there (o := j * 8 + 2) (by have := HR.out.2.1; omega)
      have hf1 := R1.free
      obtain ⟨t2, ht2'⟩ : ∃ t, mtx (q + 1 + 1) = t := ⟨_, rfl⟩
      have HT2 : Hid (mtx (q + 1 + 1) = t2) := ht2'
      rw [ht2'] at ht2 ⊢
      clear ht2' K1 R1 b1 hv0 hv1 hf
      go_wp2_with fail
      refine (markText_any (q + 1 + 1 + 1) _ (by omega) (by omega)).mono ?_
      rintro e w2 ⟨rfl, ht3, b2⟩
      have K2 : Kept (fun b => b = h) wr w2 := (HW1.out.1.set _ rfl).trans (Kept.of_below b2)
      have R2 := (HW1.out.2.set (o := j * 8 + 2) (.string t2)).below b2
      have HW2 : Hid (Kept (fun b => b = h) wr w2 ∧ Room w2 h (c * 8) (((cur.setIfInBounds (j * 8) (.int .i64 q)).setIfInBounds (j * 8 + 1) (.int .i64 (q + 1))).setIfInBounds (j * 8 + 2) (.string t2))) := ⟨K2, R2⟩
      obtain ⟨v3, hv3⟩ := R2.there (o := j * 8 + 3) (by have := HR.out.2.1; omega)
      obtain ⟨v4, hv4⟩ := R2.there (o := j * 8 + 4) (by have := HR.out.2.1; omega)
      obtain ⟨v5, hv5⟩ := R2.there (o := j * 8 + 5) (by have := HR.out.2.1; omega)
      have hf2 := R2.free
      obtain ⟨t3, ht3'⟩ : ∃ t, mtx (q + 1 + 1 + 1) = t := ⟨_, rfl⟩
      have HT3 : Hid (mtx (q + 1 + 1 + 1) = t3) := ht3'
      rw [ht3'] at ht3 ⊢
      clear ht3' K2 R2 b2 hv2 hf1 ht2 HW1
      go_wp2_with fail
      refine (markText_any (q + 1 + 1 + 1 + 1 + 1 + 1) _ (by omega) (by omega)).mono ?_
      rintro e w3 ⟨rfl, ht6, b3⟩
      have K3 : Kept (fun b => b = h) wr w3 := (((HW2.out.1.set _ rfl).set _ rfl).set _ rfl).trans (Kept.of_below b3)
      have R3 := (((HW2.out.2.set (o := j * 8 + 3) (.string t3)).set (o := j * 8 + 4) (.int .i64 (q + 1 + 1 + 1 + 1))).set (o := j * 8 + 5) (.int .i64 (q + 1 + 1 + 1 + 1 + 1))).below b3
      obtain ⟨v6, hv6⟩ := R3.there (o := j * 8 + 6) (by have := HR.out.2.1; omega)
      have hf3 := R3.free
      obtain ⟨t6, ht6'⟩ : ∃ t, mtx (q + 1 + 1 + 1 + 1 + 1 + 1) = t := ⟨_, rfl⟩
      have HT6 : Hid (mtx (q + 1 + 1 + 1 + 1 + 1 + 1) = t6) := ht6'
      rw [ht6'] at ht6 ⊢
      have e2 : mtx (q + 2) = t2 := by rw [show q + 2 = q + 1 + 1 by omega]; exact HT2.out
      have e3 : mtx (q + 3) = t3 := by rw [show q + 3 = q + 1 + 1 + 1 by omega]; exact HT3.out
      have e6 : mtx (q + 6) = t6 := by rw [show q + 6 = q + 1 + 1 + 1 + 1 + 1 + 1 by omega]; exact ht6'
      have HM : Hid (MkM w h c hi k ks ms vs j (w3.setCell ⟨h, j * 8 + 6, none⟩ (.string t6))) := HS.out.mid HQ.out.1 HQ.out.2.1 HN.out.1 HI.out.2.1 HI.out.2.2.1 HE.out (K3.set _ rfl) fun cur' hc' _ => by
        have e : cur' = cur := by
          have := hc'.symm.trans HR.out.1.1
          cases this; rfl
        rw [e, e2, e3, e6, show q + 4 = q + 1 + 1 + 1 + 1 by omega, show q + 5 = q + 1 + 1 + 1 + 1 + 1 by omega]
        exact (R3.set (o := j * 8 + 6) (.string t6)).1
      have c7 : w3.cell? ⟨h, j * 8 + 7, none⟩ = some (vs j) := by
        rw [slab_cell R3.1]
        repeat rw [Array.getElem?_setIfInBounds_ne (by omega)]
        exact HR.out.2.2
      have hc := (HI.out.1 j HN.out.1) (vs j) (ms j) (ms (j + 1)) (q + 1 + 1 + 1 + 1 + 1 + 1 + 1) _ (HM.out.todo j (Nat.le_refl _) HN.out.1) (by omega) (by have := HE.out; have := HZ.out; have := HN.out; omega) (by have := HN.out; have := HZ.out; omega)
      clear e2 e3 e6 K3 R3 b3 hv3 hv4 hv5 hf2 ht3 HW2 ht6' HT2 HT3 HT6 HS
      obtain ⟨vj, hvj⟩ : ∃ vj, vs j = vj := ⟨_, rfl⟩
      have HV : Hid (vj = vs j) := hvj.symm
      rw [hvj] at hc c7
      clear hvj
      go_wp2_with fail
      refine hc.mono ?_
      rintro e w4 ⟨rfl, hk4, K4⟩
      have HN4 : Hid (MkI w h c hi k ks ms vs (j + 1) w4) := HM.out.next HQ.out.1 HQ.out.2.1 HQ.out.2.2 HN.out.1 (by rw [← HE.out, show q + 7 = q + 1 + 1 + 1 + 1 + 1 + 1 + 1 by omega]; exact HV.out ▸ hk4) K4
      obtain ⟨q', hq'⟩ : ∃ q', q + 1 + 1 + 1 + 1 + 1 + 1 + 1 + 7 * ((ks.kids j).size : Int) = q' := ⟨_, rfl⟩
      have HE' : Hid (q' = k + 7 * (ks.upTo (j + 1) : Int)) := by show _ = _; have := HE.out; have := HN.out; omega
      rw [hq']
      clear hc hk4 K4 HM hq' c7 hv6 hf3 ht6
      go_wp2
      go_roundw
      case rel => exact ⟨j + 1, q', by omega, by go_num, rfl, HE', HN4⟩
      case measure => simp [intOf]; omega
    · obtain rfl : j = len := by omega
      obtain ⟨D1, D2⟩ := MkI.done (by rw [HL.out]; exact HS.out) HQ.out.1 HQ.out.2.1 HQ.out.2.2 HI.out.2.1 lo HI.out.2.2.2 HI.out.2.2.1
      rw [HL.out] at D1
      have HD : Hid (KidD wr lo hi (.slice (some ⟨h, 0, none⟩) j c) (lab ks k) ∧ Kept (fun b => lo ≤ b ∧ b < hi) w wr) := ⟨D1, D2⟩
      have HV : Hid (q = k + 7 * (ks.size : Int)) := by show _ = _; rw [HE.out, ← HL.out, Fo.upTo_len]
      clear D1 D2 HS
      go_wp2
      go_ret
      exact ⟨ret_int' HV.out, HD.out.1, HD.out.2⟩
theorem markS_size : ∀ (n : Nat) (ks : Fo), ks.size < n → MkS ks
  | 0, _, h => by omega
  | n + 1, ks, h => markS_step ks fun i hi => markS_size n _ (by have := ks.kids_lt i hi; omega)
theorem markS_any (ks : Fo) : MkS ks := markS_size _ ks (Nat.lt_succ_self _)
end Go.Proofs.YteejkmcljokloaaGreatDoor
namespace Go.Proofs.YteejkmcljokloaaGreatDoor
open Go.RowKit

theorem cellT_new {w : World} (x : ND) (s : Value) (ty : TypeId) : CellT (w.alloc (.cells #[.int .i64 x.k, .int .i64 x.n, .string x.nm, .string x.of, .int .i64 x.vk, .int .i64 x.vn, .string x.vt, s] ty)) w.heap.size 0 x s := by
  refine ⟨?_, ?_, ?_, ?_, ?_, ?_, ?_, ?_⟩ <;> exact slab_cell (heap_new' _ _ _ rfl)
theorem KidD.shape {w : World} {lo hi : Nat} {v : Value} {ks : Fo} (h : KidD w lo hi v ks) : ∃ a n c, v = .slice a n c := by
  rcases h with ⟨rfl, _⟩ | ⟨_, _, _, rfl, _⟩
  · exact ⟨_, _, _, rfl⟩
  · exact ⟨_, _, _, rfl⟩
theorem KidD.list {w : World} {lo hi : Nat} {a : Option Addr} {n c : Nat} {ks : Fo} (h : KidD w lo hi (.slice a n c) ks) (hs : SmallF ks) (hz : ks.size ≤ 1048576) : n = ks.len ∧ ks.len ≤ c ∧ RowT 0 w a 0 ks := by
  obtain ⟨a', c', e, h1, h2⟩ := h.row hs hz
  cases e
  exact ⟨rfl, h1, h2⟩
theorem KidD.kept {S : Nat → Prop} {w w' : World} {lo hi : Nat} {v : Value} {ks : Fo} (h : KidD w lo hi v ks) (hK : Kept S w w') (hS : ∀ b, lo ≤ b → b < hi → ¬ S b) : KidD w' lo hi v ks := h.same fun b p q r => hK.block b r (hS b p q)
set_option maxRecDepth 100000 in
set_option maxHeartbeats 4000000 in
theorem markT_any (x : ND) (ks : Fo) (s : Value) (lo hi : Nat) (k : Int) (w : World) (hk : KidD w lo hi s ks) (k0 : 0 ≤ k) (k1 : k + 7 * (ks.size : Int) ≤ 4000000000000000000) (hz : ks.size ≤ 1048577) :
    Calls Tryz.prog 14 #[ValT x s, .int .i64 k] w fun e w' => e = .returned (.int .i64 (k + 7 * (ks.size : Int))) ∧ Kept (fun b => lo ≤ b ∧ b < hi) w w' := by
  obtain ⟨W1, hW1⟩ : ∃ W1, w.alloc (.cells #[.int .i64 x.k, .int .i64 x.n, .string x.nm, .string x.of, .int .i64 x.vk, .int .i64 x.vn, .string x.vt, s] 38) = W1 := ⟨_, rfl⟩
  have B1 : Below w.heap.size w W1 := hW1 ▸ (Below.refl _ _).alloc (Nat.le_refl _) _
  have X1 : CellT W1 w.heap.size 0 x s := hW1 ▸ cellT_new x s 38
  have hm := markS_any ks s lo hi k W1 (hk.below B1) k0 k1 hz
  have HB : Hid (Below w.heap.size w W1) := B1
  obtain ⟨sa, sn, sc, rfl⟩ := hk.shape
  obtain ⟨y0, y1, y2, y3, y4, y5, y6, y7⟩ := X1
  clear hk B1
  obtain ⟨m, hmm⟩ : ∃ m, k + 7 * (ks.size : Int) = m := ⟨_, rfl⟩
  rw [hmm] at hm ⊢
  clear hmm k1
  go_enter Tryz.func14, Tryz.ntmps14
  go_wp2_with fail
  refine hm.mono ?_
  rintro e w2 ⟨rfl, _, K2⟩
  have HK : Hid (Kept (fun b => lo ≤ b ∧ b < hi) w w2) := (Kept.of_below HB.out).trans K2
  clear hm K2 y0 y1 y2 y3 y4 y5 y6 y7 hW1
  go_wp2
  go_ret
  exact ⟨rfl, HK.out⟩

end Go.Proofs.YteejkmcljokloaaGreatDoor
