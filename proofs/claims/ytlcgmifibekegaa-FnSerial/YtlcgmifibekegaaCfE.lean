/- Conflicts: spec's answer (stage 8). -/
import Derived.Test.YtlcgmifibekegaaCfD
import Derived.Deep.RegionHeld3
import Derived.BigQuiet
import Derived.Lib.AppendZeros
namespace Go.Proofs.Ytlcgmifibekegaa
open Go.RowKit

theorem ownP_of {w : World} {B n : Nat} {v : Value} {l : List P2} (h : w.ownsRow B 48 2 v n (cellsP l)) : OwnP w B v l := by
  have e := h.1
  rw [cellsP_len] at e
  obtain rfl : n = l.length := by omega
  exact h
theorem step_append_run {ops : Array Oper} {o : Oper} {a : Act} {w : World} {K : Act → World → Prop} {Q : Exit → Act → World → Prop} {E : Prop} (hgd : o.guard = none) (s x : Operand) (t tn : TypeId)
    (ho : o.op = .call { callee := .builtin .append, args := #[s, x], argTypes := #[t, tn] }) (vs vx : Value) (hs : a.eval s = vs) (hx : a.eval x = vx)
    (v' : Value) (w' : World) (hr : (Builtin.append_ #[t, tn] o.type #[vs, vx]).run Try.prog w = .ok v' w') (h : K (a.put o.dst v') w') :
    if Region.wanted o (yielded ops a.tmps) = true then Oper.wp Try.prog o a w K Q else E := by
  have hw : Region.wanted o (yielded ops a.tmps) = true := by simp [Region.wanted, hgd]
  rw [if_pos hw]
  exact Lib.wp_append_run w s x t tn ho vs vx hs hx v' w' hr h
/-- One held page is appended to a list of the call's own. -/
theorem app_held (v : Value) (l : List P2) (w : World) (B : Nat) (h : OwnP w B v l) (hl : l.length ≤ 1048576) (p : P2) (g : Nat) (hg : w.heap[g]? = some (.cells #[.int .i64 p.1, .int .i64 p.2] 48 (0, 0))) (hB : B ≤ w.heap.size) :
    ∃ v' w', (Builtin.append_ #[28, 28] 28 #[v, .slice (some ⟨g, 0, none⟩) 1 1]).run Try.prog w = .ok v' w' ∧ OwnP w' B v' (l ++ [p]) ∧ w.grownBy w' v.ownBlock := by
  obtain ⟨i0, hi, hz0, hz1, hz2⟩ := info_parts info48
  obtain ⟨v', w', hrun, r1, r2, _⟩ := run_append_own (P := Try.prog) w B 28 28 48 i0 (.agg #[.int .i64 0, .int .i64 0]) 2 16 Try.underlying28 hi hz0 hz1 hz2 rfl (by decide) v l.length (cellsP l) h ⟨g, 0, none⟩ 1 1 [.int .i64 p.1, .int .i64 p.2] rfl (fun j u hj => by
    match j, hj with
    | 0, hj => simp at hj; subst hj; rw [add_plain, slab_cell hg]; rfl
    | 1, hj => simp at hj; subst hj; rw [add_plain, slab_cell hg]; rfl) (by intro u hu; simp at hu; rcases hu with rfl | rfl <;> rfl) (by unfold maxLen; omega) (by omega) hB
  exact ⟨v', w', hrun, ownP_of (by rw [cellsP_snoc]; exact r1), r2⟩
theorem wp_region_class {P : Program} {C : World → Prop} {id : Nat} {Q : Exit → Act → World → Prop} {a : Act} {w : World} {l : List Oper} (hm : P.follows .mixedOrders = true) (hB : Region.lexB .any l.toArray = true) (hC : C w.drew)
    (h : wpQuiet P l.toArray C (fun a' => ∀ w', C w' → Q .normal a' w') l a) : (Code.region id l.toArray true).wp P Q a w :=
  wp_region_quiet (C := C) hm hB hC (by simpa using h)
theorem wrap_nat {j : Nat} (h : j ≤ 1048576) : IntKind.i64.wrap (j : Int) = (j : Int) := by
  simp [IntKind.wrap, IntKind.signed, IntKind.bits]; omega

/-- Edges from x to the first b of L. -/
def rowS (L : List Int) (g : Int → Int → Bool) (x : Int) (b : Nat) : List P2 := ((L.take b).filter (fun y => (x != y) && g x y)).map (fun y => (x, y))
/-- Edges from the first a of L. -/
def allS (L : List Int) (g : Int → Int → Bool) (a : Nat) : List P2 := (L.take a).flatMap (fun x => rowS L g x L.length)
theorem takeI_snoc {L : List Int} {k : Nat} (h : k < L.length) : L.take (k + 1) = L.take k ++ [nthI L k] := by
  rw [List.take_add_one, List.getElem?_eq_getElem h, nthI_get h]; rfl
theorem rowS_step {L : List Int} {g : Int → Int → Bool} {x : Int} {b : Nat} (h : b < L.length) : rowS L g x (b + 1) = if ((x != nthI L b) && g x (nthI L b)) = true then rowS L g x b ++ [(x, nthI L b)] else rowS L g x b := by
  unfold rowS
  rw [takeI_snoc h, List.filter_append, List.map_append]
  cases hc : ((x != nthI L b) && g x (nthI L b))
  · simp only [List.filter_cons, hc]; simp
  · simp only [List.filter_cons, hc]; simp
theorem allS_step {L : List Int} {g : Int → Int → Bool} {a : Nat} (h : a < L.length) : allS L g (a + 1) = allS L g a ++ rowS L g (nthI L a) L.length := by
  unfold allS
  rw [takeI_snoc h, List.flatMap_append]
  simp
theorem rowS_len (L : List Int) (g : Int → Int → Bool) (x : Int) (b : Nat) : (rowS L g x b).length ≤ b := by
  unfold rowS
  rw [List.length_map]
  have := List.length_filter_le (fun y => (x != y) && g x y) (L.take b)
  have := List.length_take_le b L
  omega
theorem allS_len (L : List Int) (g : Int → Int → Bool) : ∀ a, a ≤ L.length → (allS L g a).length ≤ a * L.length
  | 0, _ => by simp [allS]
  | a + 1, h => by
    have ih := allS_len L g a (by omega)
    have := rowS_len L g (nthI L a) L.length
    rw [allS_step (by omega), List.length_append, Nat.add_mul]
    omega
theorem setL_mem (f : Nat → Bool) : ∀ k x, x ∈ setL f k → 0 ≤ x ∧ x < (k : Int)
  | 0, x, h => by cases h
  | k + 1, x, h => by
    unfold setL at h
    split at h
    · rcases List.mem_append.1 h with h | h
      · have := setL_mem f k x h; omega
      · simp at h; omega
    · have := setL_mem f k x h; omega
theorem setL_nodup (f : Nat → Bool) : ∀ k, (setL f k).Nodup
  | 0 => List.nodup_nil
  | k + 1 => by
    unfold setL
    split
    · refine List.nodup_append.2 ⟨setL_nodup f k, (by simp), fun a ha b hb => ?_⟩
      simp at hb
      have := setL_mem f k a ha
      omega
    · exact setL_nodup f k
theorem nthI_inj {L : List Int} (h : L.Nodup) {i j : Nat} (hi : i < L.length) (hj : j < L.length) (e : nthI L i = nthI L j) : i = j := by
  rw [nthI_get hi, nthI_get hj] at e
  exact (List.getElem_inj h).1 e
/-- What stands while two that commit are looked at. -/
abbrev StD (W : World) (b o1 o2 : Nat) (x y : Int) (w' : World) : Prop := w'.cell? ⟨b, o1, none⟩ = some (.int .i64 x) ∧ w'.cell? ⟨b, o2, none⟩ = some (.int .i64 y) ∧ b < w'.heap.size ∧ Below W.heap.size W w'
theorem StD.keep {W : World} {b o1 o2 : Nat} {x y : Int} {w1 w2 : World} (h : StD W b o1 o2 x y w1) (hb : Below w1.heap.size w1 w2) : StD W b o1 o2 x y w2 :=
  ⟨(hb.cell (p := ⟨b, o1, none⟩) h.2.2.1).trans h.1, (hb.cell (p := ⟨b, o2, none⟩) h.2.2.1).trans h.2.1, Nat.lt_of_lt_of_le h.2.2.1 hb.size, below_step h.2.2.2 (Nat.le_refl _) hb⟩

set_option maxRecDepth 100000 in
set_option maxHeartbeats 4000000 in
theorem l08Conflicts_any (a : Option Addr) (cap : Nat) (ss : List TH) (w : World) (h : RowH w a ss) (hl : ss.length ≤ 1048576) (hk : KindP ss) :
    Calls Try.prog 71 #[.slice a ss.length cap] w fun e w' => ∃ v, e = .returned v ∧ OwnP w' w.heap.size v (allS (setL (comG ss) 6) (ahB ss) (setL (comG ss) 6).length) ∧ Below w.heap.size w w' := by
  have HR : Hid (RowH w a ss) := h
  have HLL : Hid (ss.length ≤ 1048576) := hl
  have HKP : Hid (KindP ss) := hk
  have hcall := l08Committed_any a cap ss w h hl
  have HND := setL_nodup (comG ss) 6
  have HLN := setL_len (comG ss) 6
  generalize setL (comG ss) 6 = L at *
  have ND : Hid L.Nodup := HND
  have HA : Hid (∀ x y W, RowH W a ss → Calls Try.prog 105 #[.slice a ss.length cap, .int .i64 x, .int .i64 y] W fun e w' => e = .returned (.bool (ahB ss x y)) ∧ Below W.heap.size W w') := fun x y W hW => l08Ahead_any a cap ss x y W hW hl hk
  generalize ahB ss = g at *
  clear h hl hk HND
  go_enter Try.func71, Try.ntmps71
  go_wp2_with fail
  refine hcall.mono ?_
  rintro e w1 ⟨v1, rfl, o1, B1⟩
  clear hcall
  obtain ⟨aL, cL, rfl, rL, _⟩ := o1.row
  have HRL : Hid (RowI w1 aL L) := rL
  have OP0 : Hid (OwnP (w1.alloc (.cells #[] 48)) w1.heap.size (.slice (some ⟨w1.heap.size, 0, none⟩) 0 0) []) := OwnP.made w1 w1.heap.size (Nat.le_refl _)
  obtain ⟨n, hn⟩ : ∃ n, L.length = n := ⟨_, rfl⟩
  have HN : Hid (L.length = n) := hn
  rw [hn] at HLN ⊢
  clear rL o1 hn
  go_wp2
  go_loopw [4, 5] (fun v i wr => ∃ k : Nat, k ≤ n ∧ i = .int .i64 k ∧ OwnP wr w1.heap.size v (allS L g k) ∧ Below w1.heap.size w1 wr) (fun _ i _ => n - (intOf i).toNat)
  case atStart => exact ⟨0, by omega, rfl, OP0.out, (Below.refl _ _).alloc (Nat.le_refl _) _⟩
  case round =>
    clear OP0
    obtain ⟨k, hk, rfl, hO, hbl⟩ := hrel
    have HO : Hid (OwnP wr w1.heap.size u4 (allS L g k)) := hO
    clear hO
    by_cases hlt : k < n
    · have hltI : (k : Int) < (n : Int) := by omega
      have HO0 : OwnP wr w1.heap.size u4 (allS L g k ++ rowS L g (nthI L k) 0) := by
        show OwnP _ _ _ (allS L g k ++ ((L.take 0).filter _).map _)
        simp only [List.take_zero, List.filter_nil, List.map_nil, List.append_nil]
        exact HO.out
      clear HO
      go_wp2
      go_loopw [4, 6] (fun v j wr => ∃ m : Nat, m ≤ n ∧ j = .int .i64 m ∧ OwnP wr w1.heap.size v (allS L g k ++ rowS L g (nthI L k) m) ∧ Below w1.heap.size w1 wr) (fun _ j _ => n - (intOf j).toNat)
      case atStart => exact ⟨0, by omega, rfl, HO0, hbl⟩
      case round =>
        clear HO0 hbl
        obtain ⟨m, hm, rfl, hO, hbm⟩ := hrel
        have HO : Hid (OwnP wr w1.heap.size u4 (allS L g k ++ rowS L g (nthI L k) m)) := hO
        clear hO
        by_cases hlt2 : m < n
        · have hlt2I : (m : Int) < (n : Int) := by omega
          have hst := rowS_step (L := L) (g := g) (x := nthI L k) (b := m) (by rw [HN.out]; exact hlt2)
          obtain ⟨b, off, rfl, hlb, q0⟩ := (HRL.out.below hbm) k (by rw [HN.out]; exact hlt)
          obtain ⟨b', off', e', _, q1⟩ := (HRL.out.below hbm) m (by rw [HN.out]; exact hlt2)
          cases e'
          have hall : (allS L g k ++ rowS L g (nthI L k) m).length ≤ 42 := by
            have h1 := allS_len L g k (by rw [HN.out]; exact hk)
            have h2 := rowS_len L g (nthI L k) m
            rw [HN.out] at h1
            have h3 : k * n ≤ 6 * 6 := Nat.mul_le_mul (by omega) (by omega)
            rw [List.length_append]
            omega
          by_cases hkm : k = m
          · subst hkm
            have hkm' : ((k : Int) != (k : Int)) = false := by simp
            have HS : Hid (rowS L g (nthI L k) (k + 1) = rowS L g (nthI L k) k) := by show _ = _; rw [hst]; simp
            clear hst hall
            go_wp2_with fail
            go_quiet (fail)
            go_wp2
            go_roundw
            case rel => exact ⟨k + 1, by omega, by go_num, by rw [HS.out]; exact HO.out.below (below_drewN (Below.refl _ _) _), below_drewN hbm _⟩
            case measure => simp [intOf]; omega
          · have hne : nthI L k ≠ nthI L m := fun e => hkm (nthI_inj ND.out (by rw [HN.out]; exact hlt) (by rw [HN.out]; exact hlt2) e)
            have hkm' : ((k : Int) != (m : Int)) = true := by simp; omega
            have hne' : (nthI L k != nthI L m) = true := by simpa using hne
            rw [hne', Bool.true_and] at hst
            have HC0 := HA.out (nthI L k) (nthI L m)
            obtain ⟨x, hx⟩ : ∃ x, nthI L k = x := ⟨_, rfl⟩
            obtain ⟨y, hy⟩ : ∃ y, nthI L m = y := ⟨_, rfl⟩
            rw [hx, hy] at hst HC0
            rw [hx] at q0 hall HO
            rw [hy] at q1
            rw [hx]
            have hC : Hid (StD wr b (off + k) (off + m) x y wr.drew) := ⟨q0, q1, hlb, (Below.refl _ _).drew⟩
            have HRR : Hid (∀ W, StD wr b (off + k) (off + m) x y W → RowH W a ss) := fun W hW => HR.out.below ((B1.trans (hbm.mono B1.size)).trans (hW.2.2.2.mono (by have := B1.size; have := hbm.size; omega)))
            have hwk : IntKind.i64.wrap (k : Int) = (k : Int) := wrap_nat (by omega)
            have hwm : IntKind.i64.wrap (m : Int) = (m : Int) := wrap_nat (by omega)
            clear hx hy hne hne' hkm
            have HC : Hid (∀ W, StD wr b (off + k) (off + m) x y W → Calls Try.prog 105 #[.slice a ss.length cap, .int .i64 x, .int .i64 y] W fun e w' => e = .returned (.bool (g x y)) ∧ Below W.heap.size W w') := fun W hW => HC0 W (HRR.out W hW)
            clear HC0
            cases hg : g x y with
            | false =>
              rw [hg] at hst HC
              have HS : Hid (rowS L g x (m + 1) = rowS L g x m) := hst
              clear hst hg
              go_wp2_with fail
              refine wp_region_class (C := StD wr b (off + k) (off + m) x y) (by kernel_rfl) (by kernel_rfl) hC.out ?_
              repeat (first | go_big_quiet_skip | (go_big_quiet_want; apply Exists.intro; refine ⟨?_, ?_⟩; (focus (intro w' hw'; first | (obtain ⟨m0, m1, m2, m3⟩ := hw'; go_simp; with_reducible rfl) | (go_simp; refine (HC.out w' hw').mono ?_; rintro e w'' ⟨rfl, hb⟩; exact ⟨rfl, hw'.keep hb⟩))); (try simp only [Act.put, List.setIfInBounds_toArray, List.set_cons_zero, List.set_cons_succ]); go_big_quiet_on))
              refine wpQuiet_nil ?_
              intro w2 hw2
              have hB2 := hw2.2.2.2
              have HB2 : Hid (Below wr.heap.size wr w2) := hB2
              clear hw2 hB2
              go_wp2
              go_roundw
              case rel => exact ⟨m + 1, by omega, by go_num, by rw [HS.out]; exact HO.out.below HB2.out, below_step hbm (Nat.le_refl _) HB2.out⟩
              case measure => simp [intOf]; omega
            | true =>
              rw [hg] at hst HC
              have HS : Hid (rowS L g x (m + 1) = rowS L g x m ++ [(x, y)]) := hst
              clear hst hg
              go_wp2_with fail
              refine wp_region_class (C := StD wr b (off + k) (off + m) x y) (by kernel_rfl) (by kernel_rfl) hC.out ?_
              repeat (first | go_big_quiet_skip | (go_big_quiet_want; apply Exists.intro; refine ⟨?_, ?_⟩; (focus (intro w' hw'; first | (obtain ⟨m0, m1, m2, m3⟩ := hw'; go_simp; with_reducible rfl) | (go_simp; refine (HC.out w' hw').mono ?_; rintro e w'' ⟨rfl, hb⟩; exact ⟨rfl, hw'.keep hb⟩))); (try simp only [Act.put, List.setIfInBounds_toArray, List.set_cons_zero, List.set_cons_succ]); go_big_quiet_on))
              refine wpQuiet_nil ?_
              intro w2 hw2
              obtain ⟨p0, p1, p2, hB2⟩ := hw2
              have HB2 : Hid (Below wr.heap.size wr w2) := hB2
              have bA : Below w2.heap.size w2 (w2.drew.alloc (.cells #[.int .i64 x, .int .i64 y] 48)) := ((Below.refl _ _).drew).alloc (Nat.le_refl _) _
              have hOA : OwnP (w2.drew.alloc (.cells #[.int .i64 x, .int .i64 y] 48)) w1.heap.size u4 (allS L g k ++ rowS L g x m) := (HO.out.below HB2.out).below bA
              have hs12 : w1.heap.size ≤ w2.heap.size := by have := hbm.size; have := HB2.out.size; omega
              obtain ⟨v', w3, hrun, o3, g3⟩ := app_held u4 (allS L g k ++ rowS L g x m) _ w1.heap.size hOA (by omega) (x, y) w2.heap.size (heap_new' _ _ _ rfl) (by have := bA.size; omega)
              have HO3 : Hid (OwnP w3 w1.heap.size v' (allS L g k ++ rowS L g x (m + 1))) := by show OwnP _ _ _ _; rw [HS.out, ← List.append_assoc]; exact o3
              have HB3 : Hid (Below w1.heap.size w1 w3) := own_belowX ((below_step hbm (Nat.le_refl _) HB2.out).trans (bA.mono hs12)) (by have := bA.size; omega) hOA g3
              clear hB2 bA hOA o3 g3 HB2
              go_wp2_with fail
              go_region_law (first | (refine step_append_run (by rfl) _ _ _ _ (by rfl) _ _ (by rfl) (by rfl) _ _ hrun ?_))
              all_goals
                go_wp2
                go_roundw
                case rel => exact ⟨m + 1, by omega, by go_num, HO3.out, HB3.out⟩
                case measure => simp [intOf]; omega
        · obtain rfl : m = n := by omega
          have HE : Hid (OwnP wr w1.heap.size u4 (allS L g (k + 1))) := by show OwnP _ _ _ _; rw [allS_step (by rw [HN.out]; exact hlt), HN.out]; exact HO.out
          clear HO
          go_wp2
          go_roundw
          case rel => exact ⟨k + 1, by omega, by go_num, HE.out, hbm⟩
          case measure => simp [intOf]; omega
    · obtain rfl : k = n := by omega
      go_wp2
      go_ret
      exact ⟨_, rfl, by rw [HN.out]; exact own_mono HO.out B1.size, B1.trans (hbl.mono B1.size)⟩
end Go.Proofs.Ytlcgmifibekegaa
