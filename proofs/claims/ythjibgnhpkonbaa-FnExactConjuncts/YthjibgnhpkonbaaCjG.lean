/- impl's copies of trees (stage 14). -/
import Derived.Test.YthjibgnhpkonbaaCjF
namespace Go.Proofs.Ythjibgnhpkonbaa
open Go.RowKit

theorem size_zeros (k : Nat) : (Builtin.zeroCells (Value.agg #[.int .i64 0, .int .i64 0, .string ⟨#[]⟩, .string ⟨#[]⟩, .int .i64 0, .int .i64 0, .string ⟨#[]⟩, .slice none 0 0]).cells k).size = k * 8 := by
  rw [size_zeroCells]
  rfl
set_option maxRecDepth 100000 in
set_option maxHeartbeats 2000000 in
theorem grow_any (n : Nat) (w : World) (hn : n ≤ 4096) :
    Calls Try.prog 50 #[.slice none 0 0, .int .i64 n] w fun e w' => ∃ v, e = .returned v ∧ OwnTr w' w.heap.size v [] ∧ Below w.heap.size w w' := by
  by_cases h0 : n = 0
  · subst h0
    go_enter Try.func50, Try.ntmps50
    go_wp2
    go_ret
    exact ⟨_, rfl, OwnTr.nil _ _, Below.refl _ _⟩
  · obtain ⟨i0, hi, hz0, hz1, hz2⟩ := info_parts infoT
    have hrun := Lib.run_append_nil_zeros (P := Try.prog) w 31 3 31 33 i0 _ .i64 .i64 Try.underlying31 Try.underlying3 hi hz0 n (by omega) (by rw [hz1]; omega) (by omega) (by rw [hz2]; omega)
    have hge := grownCap_ge w n 0 33
    have hle := grownCap_le_maxLen w n 0 33 (by unfold maxLen; omega)
    have HO : Hid (OwnTr (w.drew.alloc (.cells (Builtin.zeroCells (Value.agg #[.int .i64 0, .int .i64 0, .string ⟨#[]⟩, .string ⟨#[]⟩, .int .i64 0, .int .i64 0, .string ⟨#[]⟩, .slice none 0 0]).cells n ++ Builtin.zeroCells (Value.agg #[.int .i64 0, .int .i64 0, .string ⟨#[]⟩, .string ⟨#[]⟩, .int .i64 0, .int .i64 0, .string ⟨#[]⟩, .slice none 0 0]).cells (grownCap w n 0 33 - n)) 33)) w.heap.size (.slice (some ⟨w.heap.size, 0, none⟩) 0 (grownCap w n 0 33)) []) :=
      ⟨rfl, .inr ⟨w.heap.size, _, _, rfl, Nat.le_refl _, heap_alloc_new w.drew _, by simp, hle, by rw [Array.size_append, size_zeros, size_zeros]; rw [← Nat.add_mul]; congr 1; omega, by simp [cellsE]⟩⟩
    have HB : Hid (Below w.heap.size w (w.drew.alloc (.cells (Builtin.zeroCells (Value.agg #[.int .i64 0, .int .i64 0, .string ⟨#[]⟩, .string ⟨#[]⟩, .int .i64 0, .int .i64 0, .string ⟨#[]⟩, .slice none 0 0]).cells n ++ Builtin.zeroCells (Value.agg #[.int .i64 0, .int .i64 0, .string ⟨#[]⟩, .string ⟨#[]⟩, .int .i64 0, .int .i64 0, .string ⟨#[]⟩, .slice none 0 0]).cells (grownCap w n 0 33 - n)) 33))) := (Below.refl _ _).drew.alloc (Nat.le_refl _) _
    generalize w.drew.alloc (.cells (Builtin.zeroCells (Value.agg #[.int .i64 0, .int .i64 0, .string ⟨#[]⟩, .string ⟨#[]⟩, .int .i64 0, .int .i64 0, .string ⟨#[]⟩, .slice none 0 0]).cells n ++ Builtin.zeroCells (Value.agg #[.int .i64 0, .int .i64 0, .string ⟨#[]⟩, .string ⟨#[]⟩, .int .i64 0, .int .i64 0, .string ⟨#[]⟩, .slice none 0 0]).cells (grownCap w n 0 33 - n)) 33) = w1 at *
    generalize grownCap w n 0 33 = cp at *
    unfold maxLen at hle
    clear hi hz0 hz1 hz2
    have hn0 : ¬ (n : Int) < 0 := by omega
    have hnp : (0 : Int) < (n : Int) := by omega
    go_enter Try.func50, Try.ntmps50
    go_wp2_with (at_builtin; refine Lib.wpList_append_run _ rfl _ _ _ _ rfl _ _ rfl rfl _ _ hrun ?_)
    go_ret
    exact ⟨_, rfl, HO.out, HB.out⟩
set_option maxRecDepth 100000 in
set_option maxHeartbeats 4000000 in
theorem concat_any (s p1 q1 d1 p2 q2 d2 : Nat) (xs ys : List E) (w : World) (c0 : w.cell? ⟨s, 0, none⟩ = some (.slice (some ⟨p1, q1, none⟩) xs.length d1)) (c1 : w.cell? ⟨s, 1, none⟩ = some (.slice (some ⟨p2, q2, none⟩) ys.length d2)) (hs : s < w.heap.size)
    (h1 : RowE w (some ⟨p1, q1, none⟩) xs) (h2 : RowE w (some ⟨p2, q2, none⟩) ys) (l1 : xs.length ≤ 2048) (l2 : ys.length ≤ 2048) :
    Calls Try.prog 39 #[.slice (some ⟨s, 0, none⟩) 2 2] w fun e w' => ∃ u, e = .returned u ∧ OwnTr w' w.heap.size u (xs ++ ys) ∧ Below w.heap.size w w' := by
  have HR : Hid (RowE w (some ⟨p1, q1, none⟩) xs ∧ RowE w (some ⟨p2, q2, none⟩) ys) := ⟨h1, h2⟩
  have HL : Hid (xs.length ≤ 2048 ∧ ys.length ≤ 2048) := ⟨l1, l2⟩
  have HA1 : Hid (∀ v W B, OwnTr W B v [] → B ≤ W.heap.size → RowE W (some ⟨p1, q1, none⟩) xs → ∃ v' w', (Builtin.append_ #[31, 31] 31 #[v, .slice (some ⟨p1, q1, none⟩) xs.length d1]).run Try.prog W = .ok v' w' ∧ OwnTr w' B v' xs ∧ W.grownBy w' v.ownBlock) := fun v W B ho hB hr => by
    obtain ⟨v', w', r, o, g⟩ := app_Tr v [] xs W B p1 q1 d1 ho (by simp; omega) hr hB
    exact ⟨v', w', r, o, g⟩
  have HA2 : Hid (∀ v W B, OwnTr W B v xs → B ≤ W.heap.size → RowE W (some ⟨p2, q2, none⟩) ys → ∃ v' w', (Builtin.append_ #[31, 31] 31 #[v, .slice (some ⟨p2, q2, none⟩) ys.length d2]).run Try.prog W = .ok v' w' ∧ OwnTr w' B v' (xs ++ ys) ∧ W.grownBy w' v.ownBlock) := fun v W B ho hB hr => app_Tr v xs ys W B p2 q2 d2 ho (by omega) hr hB
  have HC : Hid (w.cell? ⟨s, 0, none⟩ = some (.slice (some ⟨p1, q1, none⟩) xs.length d1) ∧ w.cell? ⟨s, 1, none⟩ = some (.slice (some ⟨p2, q2, none⟩) ys.length d2)) := ⟨c0, c1⟩
  clear h1 h2
  generalize xs.length = n1 at *
  generalize ys.length = n2 at *
  go_enter Try.func39, Try.ntmps39
  go_wp2
  go_loop [3, 11] (fun sz i => ∃ k : Nat, k ≤ 2 ∧ i = .int .i64 k ∧ sz = .int .i64 (if k = 0 then 0 else if k = 1 then (n1 : Int) else (n1 : Int) + n2)) (fun _ i => 2 - (intOf i).toNat)
  case atStart => exact ⟨0, by omega, rfl, rfl⟩
  case round =>
    obtain ⟨k, hk, rfl, rfl⟩ := hrel
    obtain rfl | rfl | rfl : k = 0 ∨ k = 1 ∨ k = 2 := by omega
    · have hng : ¬ (n1 : Int) < 0 := by omega
      go_wp2
      go_round
      case rel => exact ⟨1, by omega, by go_num, by simp⟩
      case measure => simp [intOf]
    · have hng : ¬ (n1 : Int) + (n2 : Int) < 0 := by omega
      go_wp2
      go_round
      case rel => exact ⟨2, by omega, by go_num, by simp⟩
      case measure => simp [intOf]
    · have G := grow_any (n1 + n2) w (by omega)
      rw [show ((n1 + n2 : Nat) : Int) = (n1 : Int) + (n2 : Int) by push_cast; rfl] at G
      go_wp2_with fail
      refine G.mono ?_
      rintro e w1 ⟨v0, rfl, O0, B0⟩
      have HO0 : Hid (OwnTr w1 w.heap.size v0 []) := O0
      clear G O0 c0 c1
      go_wp2
      go_loopw [6, 27] (fun v i wr => ∃ k : Nat, k ≤ 2 ∧ i = .int .i64 k ∧ Hid (OwnTr wr w.heap.size v (if k = 0 then [] else if k = 1 then xs else xs ++ ys)) ∧ Below w.heap.size w wr) (fun _ i _ => 2 - (intOf i).toNat)
      case atStart => exact ⟨0, by omega, rfl, HO0, B0⟩
      case round =>
        clear HO0 B0
        obtain ⟨k, hk, rfl, HO, hbl⟩ := hrel
        have c0 : wr.cell? ⟨s, 0, none⟩ = some (.slice (some ⟨p1, q1, none⟩) n1 d1) := (hbl.cell (p := ⟨s, 0, none⟩) hs).trans HC.out.1
        have c1 : wr.cell? ⟨s, 1, none⟩ = some (.slice (some ⟨p2, q2, none⟩) n2 d2) := (hbl.cell (p := ⟨s, 1, none⟩) hs).trans HC.out.2
        obtain rfl | rfl | rfl : k = 0 ∨ k = 1 ∨ k = 2 := by omega
        · obtain ⟨v', w', hr, o, g⟩ := HA1.out u6 wr w.heap.size HO.out hbl.size (HR.out.1.below hbl)
          have HO' : Hid (OwnTr w' w.heap.size v' xs) := o
          have hB := own_grown hbl hbl.size HO.out g
          clear o g HO hbl
          go_wp2_with (at_builtin; refine Lib.wpList_append_run _ rfl _ _ _ _ rfl _ _ rfl rfl _ _ hr ?_)
          go_roundw
          case rel => exact ⟨1, by omega, by go_num, HO', hB⟩
          case measure => simp [intOf]
        · obtain ⟨v', w', hr, o, g⟩ := HA2.out u6 wr w.heap.size HO.out hbl.size (HR.out.2.below hbl)
          have HO' : Hid (OwnTr w' w.heap.size v' (xs ++ ys)) := o
          have hB := own_grown hbl hbl.size HO.out g
          clear o g HO hbl
          go_wp2_with (at_builtin; refine Lib.wpList_append_run _ rfl _ _ _ _ rfl _ _ rfl rfl _ _ hr ?_)
          go_roundw
          case rel => exact ⟨2, by omega, by go_num, HO', hB⟩
          case measure => simp [intOf]
        · go_wp2
          go_ret
          exact ⟨_, rfl, HO.out, hbl⟩


set_option maxRecDepth 100000 in
theorem app_Tr0 (v : Value) (l : List E) (w : World) (B : Nat) (a : Addr) (c : Nat) (h : OwnTr w B v l) (hl : l.length ≤ 2097160) (hB : B ≤ w.heap.size) :
    ∃ v' w', (Builtin.append_ #[31, 31] 31 #[v, .slice (some a) 0 c]).run Try.prog w = .ok v' w' ∧ OwnTr w' B v' l ∧ w.grownBy w' v.ownBlock := by
  obtain ⟨i0, hi, hz0, hz1, hz2⟩ := info_parts infoT
  obtain ⟨v', w', h1, h2, h3, _⟩ := run_append_own (P := Try.prog) w B 31 31 33 i0 _ 8 104 Try.underlying31 hi hz0 hz1 hz2 rfl (by decide) v l.length (cellsE l) h a 0 c [] rfl (fun j u hj => by simp at hj) (fun u hu => by simp at hu) (by unfold maxLen; omega) (by omega)
    hB
  exact ⟨v', w', h1, by simpa using h2, h3⟩
set_option maxRecDepth 100000 in
set_option maxHeartbeats 2000000 in
theorem cloneT_any (a : Option Addr) (es : List E) (c : Nat) (w : World) (h : RowE w a es) (hl : es.length ≤ 4096) :
    Calls Try.prog 38 #[.slice a es.length c] w fun e w' => ∃ v, e = .returned v ∧ OwnTr w' w.heap.size v es ∧ Below w.heap.size w w' := by
  have HX : Hid ((Below w.heap.size w (w.alloc (.cells #[] 33))) ∧ OwnTr (w.alloc (.cells #[] 33)) w.heap.size (.slice (some ⟨w.heap.size, 0, none⟩) 0 0) []) := ⟨(Below.refl _ _).alloc (Nat.le_refl _) _, OwnTr.empty (Nat.le_refl _)⟩
  rcases a with _ | ad
  · have h0 : es = [] := by
      cases es with
      | nil => rfl
      | cons _ _ => obtain ⟨b, off, e, _⟩ := h 0 (by simp); cases e
    subst h0
    have hq : ∀ W, (binOp .eql 31 (.slice none 0 c) (.slice none 0 0)).run Try.prog W = .ok (.bool true) W := fun W => by
      simp only [binOp]
      simp [run_equal_slice_nil W 31 33 none 0 c Try.underlying31]
    simp only [List.length_nil]
    go_enter Try.func38, Try.ntmps38
    go_wp2
    go_ret
    exact ⟨_, rfl, OwnTr.nil _ _, Below.refl _ _⟩
  · have HR : Hid (∃ v' w', (Builtin.append_ #[31, 31] 31 #[.slice (some ⟨w.heap.size, 0, none⟩) 0 0, .slice (some ad) es.length c]).run Try.prog (w.alloc (.cells #[] 33)) = .ok v' w' ∧ OwnTr w' w.heap.size v' es ∧ Below w.heap.size w w') := by
      cases hes : es with
      | nil =>
        obtain ⟨v', w', q1, q2, q3⟩ := app_Tr0 _ [] _ w.heap.size ad c HX.out.2 (by simp) (by simp)
        exact ⟨v', w', q1, q2, own_grown HX.out.1 (by simp) HX.out.2 q3⟩
      | cons e0 er =>
        rw [← hes]
        obtain ⟨b, off, e, _⟩ := h 0 (by rw [hes]; simp)
        cases e
        obtain ⟨v', w', q1, q2, q3⟩ := app_Tr _ [] es _ w.heap.size b off c HX.out.2 (by simp; omega) (h.below ((Below.refl _ _).alloc (Nat.le_refl _) _)) (by simp)
        exact ⟨v', w', q1, q2, own_grown HX.out.1 (by simp) HX.out.2 q3⟩
    obtain ⟨v', w', hr, h1, h2⟩ := HR.out
    have HO : Hid (OwnTr w' w.heap.size v' es ∧ Below w.heap.size w w') := ⟨h1, h2⟩
    clear HR h1 h2 HX h
    generalize es.length = n at *
    have hq : ∀ W, (binOp .eql 31 (.slice (some ad) n c) (.slice none 0 0)).run Try.prog W = .ok (.bool false) W := fun W => by
      simp only [binOp]
      simp [run_equal_slice_nil W 31 33 _ n c Try.underlying31]
    go_enter Try.func38, Try.ntmps38
    go_wp2_with (at_builtin; refine Lib.wpList_append_run _ rfl _ _ _ _ rfl _ _ rfl rfl _ _ hr ?_)
    go_ret
    exact ⟨_, rfl, HO.out.1, HO.out.2⟩

theorem KidD.shape {w : World} {lo hi : Nat} {v : Value} {ks : Fo} (h : KidD w lo hi v ks) : ∃ a n c, v = .slice a n c := by
  rcases h with ⟨rfl, _⟩ | ⟨_, _, _, rfl, _⟩
  · exact ⟨_, _, _, rfl⟩
  · exact ⟨_, _, _, rfl⟩
/-- What copyTrees answers of these trees. -/
def CpI (f : Fo) : Prop := ∀ (a : Option Addr) (c : Nat) (w : World), RowT 0 w a 0 f → f.size ≤ 4096 →
    Calls Try.prog 27 #[.slice a f.len c] w fun e w' => ∃ v, e = .returned v ∧ KidD w' w.heap.size w'.heap.size v f ∧ Below w.heap.size w w'
/-- The trees from the k-th on as they were taken over. -/
def RestE (w : World) (g k : Nat) (es : List E) (f : Fo) : Prop := ∃ cur : Array Value, w.heap[g]? = some (.cells cur 33 (0, 0)) ∧ ∀ i, k ≤ i → i < f.len → ElC cur i (f.node i) (sv (nthE es i))
theorem cp_step {wr w2 : World} {g c k : Nat} {es : List E} {f : Fo} {v : Value} (hS : SlabD wr (g + 1) g c f k) (hR : RestE wr g k es f) (hb : Below wr.heap.size wr w2) (hk : k < f.len) (hc : f.len ≤ c) (hv : KidD w2 wr.heap.size w2.heap.size v (f.kids k)) :
    SlabD (w2.setCell ⟨g, k * 8 + 7, none⟩ v) (g + 1) g c f (k + 1) ∧ RestE (w2.setCell ⟨g, k * 8 + 7, none⟩ v) g (k + 1) es f := by
  have hlt := hS.lt
  obtain ⟨cr, hr, hrc⟩ := hR
  have e : (w2.setCell ⟨g, k * 8 + 7, none⟩ v).heap.size = w2.heap.size := by simp [World.setCell]
  have hg2 : (w2.setCell ⟨g, k * 8 + 7, none⟩ v).heap[g]? = some (.cells (cr.setIfInBounds (k * 8 + 7) v) 33 (0, 0)) := slab_set ((hb.block g hlt).trans hr) _
  refine ⟨hS.push (v := v) (Nat.lt_succ_self _) (by rw [e]; exact hb.size) (fun b h1 h2 => by rw [set_ne _ h1]; exact hb.block b h2) (fun cur hh hs => ?_) (by rw [e]; exact hv.same fun b h1 _ _ => set_ne _ (by omega)), ⟨_, hg2, fun i h1 h2 => (hrc i (by omega) h2).same fun o o1 o2 => Array.getElem?_setIfInBounds_ne (by omega)⟩⟩
  have ec : cur = cr := by
    have := hh.symm.trans hr
    cases this; rfl
  subst ec
  refine ⟨_, hg2, by simpa using hs, fun o ho => Array.getElem?_setIfInBounds_ne (by omega), ?_⟩
  obtain ⟨h0, h1, h2, h3, h4, h5, h6, h7⟩ := hrc k (Nat.le_refl _) hk
  refine ⟨?_, ?_, ?_, ?_, ?_, ?_, ?_, ?_⟩
  all_goals first
    | (rw [Array.getElem?_setIfInBounds_ne (by omega)]; assumption)
    | (rw [Array.getElem?_setIfInBounds_self_of_lt (by omega)])
set_option maxRecDepth 100000 in
set_option maxHeartbeats 4000000 in
theorem copyTrees_step (f : Fo) (ih : ∀ i, i < f.len → CpI (f.kids i)) : CpI f := by
  intro a cp w hrow hsz
  have hlen := f.len_le
  obtain ⟨es, hK, hE⟩ := hrow.list
  have hcl := cloneT_any a es cp w hE (by rw [hK.1]; omega)
  rw [hK.1] at hcl
  have HK : Hid (KidE w es f) := hK
  have IH : Hid (∀ i, i < f.len → CpI (f.kids i) ∧ (f.kids i).size ≤ 4096) := fun i hi => ⟨ih i hi, by have := f.kids_lt i hi; omega⟩
  clear hrow ih hE hK
  obtain ⟨len, hL⟩ : ∃ m, f.len = m := ⟨_, rfl⟩
  have HL : Hid (f.len = len) := hL
  rw [hL] at hlen hcl ⊢
  clear hL
  go_enter Try.func27, Try.ntmps27
  go_wp2_with fail
  refine hcl.mono ?_
  rintro e w1 ⟨v, rfl, ho, B1⟩
  clear hcl
  rcases ho.slab with ⟨rfl, h0⟩ | ⟨g, c, cur, rfl, g1, g2, g3, g4, g5⟩
  · have h0' : len = 0 := by rw [← HL.out, ← HK.out.1]; exact h0
    have hf0 : f.len = 0 := by rw [HL.out]; exact h0'
    clear ho h0 hlen
    go_wp2
    go_loop [10] (fun i => i = .int .i64 0) (fun _ => 0)
    case atStart => rfl
    case round =>
      obtain rfl := hrel
      go_wp2
      go_ret
      exact ⟨_, rfl, .inl ⟨rfl, hf0⟩, B1⟩
  · have hel : es.length = len := HK.out.1.trans HL.out
    rw [hel] at g2 ⊢
    have HG : Hid (len ≤ c ∧ w.heap.size ≤ g) := ⟨g2, g1⟩
    have HS0 : Hid (SlabD w1 (g + 1) g c f 0) := SlabD.zero f g3 g4
    have HR0 : Hid (RestE w1 g 0 es f) := ⟨cur, g3, fun i _ hi => by
      have := g5 i (by rw [hel, ← HL.out]; exact hi)
      rw [(HK.out.2 i hi).1] at this
      exact this⟩
    clear ho g1 g2 g3 g4 g5 hel
    go_wp2
    go_loopw [10] (fun i wr => ∃ k : Nat, k ≤ len ∧ i = .int .i64 k ∧ Hid (SlabD wr (g + 1) g c f k) ∧ Hid (RestE wr g k es f) ∧ Below w.heap.size w wr) (fun i _ => len - (intOf i).toNat)
    case atStart => exact ⟨0, by omega, rfl, HS0, HR0, B1⟩
    case round =>
      clear HS0 HR0 B1
      obtain ⟨k, hk, rfl, HS, HR, hbl⟩ := hrel
      by_cases hlt : k < len
      · have hltI : (k : Int) < (len : Int) := by omega
        have hkf : k < f.len := by rw [HL.out]; exact hlt
        obtain ⟨kk1, kk2, kk3, kk4⟩ := HK.out.2 k hkf
        obtain ⟨cr, hcr, hcc⟩ := HR.out
        obtain ⟨c0, c1, c2, c3, c4, c5, c6, c7⟩ := (hcc k (Nat.le_refl _) hkf).cell hcr
        unfold sv at c7
        rw [kk2] at c7
        obtain ⟨ax, hax⟩ : ∃ ax, (nthE es k).2.1 = ax := ⟨_, rfl⟩
        obtain ⟨cx, hcx⟩ : ∃ cx, (nthE es k).2.2.2 = cx := ⟨_, rfl⟩
        rw [hax, hcx] at c7
        rw [hax] at kk4
        have hgl : g < wr.heap.size := slab_lt hcr
        obtain ⟨x, hx⟩ : ∃ x, f.node k = x := ⟨_, rfl⟩
        rw [hx] at c0 c1 c2 c3 c4 c5 c6
        obtain ⟨WA, hWA⟩ : ∃ WA, wr.alloc (.cells #[.int .i64 x.k, .int .i64 x.n, .string x.nm, .string x.of, .int .i64 x.vk, .int .i64 x.vn, .string x.vt, .slice ax (f.kids k).len cx] 33) = WA := ⟨_, rfl⟩
        have BA : Below wr.heap.size wr WA := hWA ▸ (Below.refl _ _).alloc (Nat.le_refl _) _
        have cb7 : WA.cell? ⟨wr.heap.size, 7, none⟩ = some (.slice ax (f.kids k).len cx) := hWA ▸ slab_cell (heap_new' _ _ _ rfl)
        have hcall := (IH.out k hkf).1 ax cx WA (kk4.below (hbl.trans (BA.mono hbl.size))) (IH.out k hkf).2
        have HN : Hid (∀ w2 v, Below wr.heap.size wr w2 → KidD w2 wr.heap.size w2.heap.size v (f.kids k) → SlabD (w2.setCell ⟨g, k * 8 + 7, none⟩ v) (g + 1) g c f (k + 1) ∧ RestE (w2.setCell ⟨g, k * 8 + 7, none⟩ v) g (k + 1) es f) := fun w2 v h1 h2 => cp_step HS.out HR.out h1 hkf (by rw [HL.out]; exact HG.out.1) h2
        have HT : Hid (∀ w2, Below wr.heap.size wr w2 → (∃ v, w2.cell? ⟨g, k * 8 + 7, none⟩ = some v) ∧ ∀ q, w2.frozen? ⟨g, q, none⟩ = false) := fun w2 h => by
          have hS2 := HS.out.below h
          exact ⟨hS2.there (by have := HG.out.1; omega), hS2.free⟩
        have HSZ : Hid (wr.heap.size ≤ WA.heap.size) := BA.size
        have HBA : Hid (Below wr.heap.size wr WA) := BA
        clear hcc hcr HS HR kk1 kk2 kk3 kk4 BA hkf hax hcx hx
        go_wp2_with fail
        refine hcall.mono ?_
        rintro e w2 ⟨v, rfl, hv, b2⟩
        obtain ⟨va, vn, vc, rfl⟩ := hv.shape
        have B2 : Below wr.heap.size wr w2 := HBA.out.trans (b2.mono HSZ.out)
        have hv2 : KidD w2 wr.heap.size w2.heap.size (.slice va vn vc) (f.kids k) := hv.mono HSZ.out (Nat.le_refl _)
        obtain ⟨n1, n2⟩ := HN.out w2 _ B2 hv2
        obtain ⟨⟨v7, hv7⟩, hf⟩ := HT.out w2 B2
        have HS' : Hid (SlabD (w2.setCell ⟨g, k * 8 + 7, none⟩ (.slice va vn vc)) (g + 1) g c f (k + 1)) := n1
        have HR' : Hid (RestE (w2.setCell ⟨g, k * 8 + 7, none⟩ (.slice va vn vc)) g (k + 1) es f) := n2
        have hB3 : Below w.heap.size w (w2.setCell ⟨g, k * 8 + 7, none⟩ (.slice va vn vc)) := (below_step hbl (Nat.le_refl _) B2).setCell (p := ⟨g, k * 8 + 7, none⟩) HG.out.2 _
        clear hcall hWA cb7 n1 n2 hv hv2 b2 B2 HN HT HSZ HBA c0 c1 c2 c3 c4 c5 c6 c7 hbl
        go_wp2
        go_roundw
        case rel => exact ⟨k + 1, by omega, by go_num, HS', HR', hB3⟩
        case measure => simp [intOf]; omega
      · obtain rfl : k = len := by omega
        have HD : Hid (KidD wr w.heap.size wr.heap.size (.slice (some ⟨g, 0, none⟩) f.len c) f) := SlabD.kid (by rw [HL.out]; exact HS.out) (by rw [HL.out]; exact HG.out.1) HG.out.2
        rw [HL.out] at HD
        clear HS HR
        go_wp2
        go_ret
        exact ⟨_, rfl, HD.out, hbl⟩
theorem copyTrees_size : ∀ (n : Nat) (f : Fo), f.size < n → CpI f
  | 0, _, h => by omega
  | n + 1, f, h => copyTrees_step f fun i hi => copyTrees_size n _ (by have := f.kids_lt i hi; omega)
theorem copyTrees_any (f : Fo) : CpI f := copyTrees_size _ f (Nat.lt_succ_self _)
end Go.Proofs.Ythjibgnhpkonbaa
