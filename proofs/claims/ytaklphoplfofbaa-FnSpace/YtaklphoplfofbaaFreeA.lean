/- Pages that are free: what both sides list (stage 4). -/
import Derived.Test.YtaklphoplfofbaaOkT
import Derived.Laws.CopyOwn
namespace Go.Proofs.Ytaklphoplfofbaa
open Go.RowKit Go.Maps Go.WideShapes Go.ChangeMaps Go.MapKept

/-- The slice v owns the numbers l. -/
abbrev OwnI (w : World) (B : Nat) (v : Value) (l : List Int) : Prop := w.ownsRow B 3 1 v l.length (l.map (Value.int .i64))
theorem OwnI.nil (w : World) (B : Nat) : OwnI w B (.slice none 0 0) [] := ⟨rfl, .inl ⟨rfl, rfl⟩⟩
theorem OwnI.made (w : World) (B : Nat) (hB : B ≤ w.heap.size) : OwnI (w.alloc (.cells #[] 3)) B (.slice (some ⟨w.heap.size, 0, none⟩) 0 0) [] :=
  ⟨rfl, .inr ⟨w.heap.size, 0, #[], rfl, hB, heap_new' _ _ _ rfl, Nat.le_refl _, Nat.zero_le _, rfl, rfl⟩⟩
theorem OwnI.block {w w' : World} {B : Nat} {v : Value} {l : List Int} (h : OwnI w B v l) (hb : ∀ g, g < w.heap.size → B ≤ g → w'.heap[g]? = w.heap[g]?) : OwnI w' B v l := by
  refine ⟨h.1, h.2.imp id ?_⟩
  rintro ⟨g, cap, cur, e, hB, hh, r⟩
  exact ⟨g, cap, cur, e, hB, (hb g (slab_lt hh) hB).trans hh, r⟩
theorem OwnI.below {w w' : World} {B : Nat} {v : Value} {l : List Int} (h : OwnI w B v l) (hb : Below w.heap.size w w') : OwnI w' B v l := h.block fun g hg _ => hb.block g hg
theorem OwnI.alloc {w : World} {B : Nat} {v : Value} {l : List Int} (h : OwnI w B v l) (o : Obj) : OwnI (w.alloc o) B v l := h.block fun _ hg _ => heap_old _ _ _ hg
theorem own_below {B : Nat} {w u u' : World} {v : Value} {l : List Int} (h : Below B w u) (hB : B ≤ u.heap.size) (ho : OwnI u B v l) (hg : u.grownBy u' v.ownBlock) : Below B w u' :=
  h.grown hg hB (fun k hk => by
    rcases ho.2 with ⟨rfl, _⟩ | ⟨g, cap, cur, rfl, hBg, _⟩
    · cases hk
    · cases hk; exact hBg)
theorem OwnI.snoc {w : World} {B : Nat} {v : Value} {l : List Int} {x : Int} (h : w.ownsRow B 3 1 v (l.length + 1) (l.map (Value.int .i64) ++ [.int .i64 x])) : OwnI w B v (l ++ [x]) := by
  show w.ownsRow B 3 1 v (l ++ [x]).length ((l ++ [x]).map (Value.int .i64))
  rw [List.length_append, List.map_append]
  exact h
theorem OwnI.row {w : World} {B : Nat} {v : Value} {l : List Int} (h : OwnI w B v l) : ∃ a cap, v = .slice a l.length cap ∧ RowI w a l ∧ (∀ ad, a = some ad → B ≤ ad.block) := by
  rcases h.2 with ⟨rfl, hn⟩ | ⟨g, cap, cur, rfl, hB, hh, hc, hm, hs, ht⟩
  · exact ⟨none, 0, by rw [hn], fun i hi => by omega, fun ad e => by cases e⟩
  · refine ⟨_, cap, rfl, fun i hi => ⟨g, 0, rfl, slab_lt hh, ?_⟩, fun ad e => by cases e; exact hB⟩
    rw [slab_cell hh, Nat.zero_add]
    have := congrArg (fun q => q[i]?) ht
    simp only [Nat.mul_one] at this
    rw [List.getElem?_take_of_lt hi, List.getElem?_map, List.getElem?_eq_getElem hi] at this
    rw [← Array.getElem?_toList, this, nthI_get hi]
    rfl

/-- Is p among the pages of Now or the held ones? -/
def usedB (ss : List Int) (ps : List P2) (p : Int) : Bool := ss.any (fun x => x == p) || ps.any (fun x => x.1 == p)
theorem kv_any (e : Int) (ss : List Int) (ps : List P2) (p : Int) : (kvOf e ss ps).any (fun x => x.1 == p) = usedB ss ps p := by
  unfold kvOf usedB
  rw [List.any_append, List.any_map]
  rfl
/-- The first k numbers that are not used. -/
def freeK (u : Int → Bool) : Nat → List Int
  | 0 => []
  | k + 1 => if u (k : Int) then freeK u k else freeK u k ++ [(k : Int)]
theorem freeK_len (u : Int → Bool) : ∀ k, (freeK u k).length ≤ k
  | 0 => Nat.le_refl _
  | k + 1 => by
    unfold freeK
    have := freeK_len u k
    split
    · omega
    · rw [List.length_append]; show _ + 1 ≤ _; omega

set_option maxRecDepth 100000 in
set_option maxHeartbeats 2000000 in
theorem implFree_any (m n t : Nat) (e : Int) (ss : List Int) (ps : List P2) (w : World) (hm : MapOf w m n (dOf (kvOf e ss ps))) (ht : t ≤ 64) :
    Calls Try.prog 50 #[.map (some m), .int .i64 t] w fun r w' => ∃ v, r = .returned v ∧ OwnI w' w.heap.size v (freeK (usedB ss ps) t) ∧ Below w.heap.size w w' := by
  have HM : Hid (MapOf w m n (dOf (kvOf e ss ps))) := hm
  clear hm
  obtain ⟨i0, hi, hz0, hz1, hz2⟩ := info_parts info3
  have o0 : OwnI w w.heap.size (.slice none 0 0) [] := OwnI.nil w w.heap.size
  go_enter Try.func50, Try.ntmps50
  go_wp2
  go_loopw [5, 6, 7, 8, 10] (fun v _ _ _ i wr => ∃ k : Nat, k ≤ t ∧ i = .int .i64 k ∧ OwnI wr w.heap.size v (freeK (usedB ss ps) k) ∧ Below w.heap.size w wr) (fun _ _ _ _ i _ => t - (intOf i).toNat)
  case atStart => exact ⟨0, by omega, rfl, o0, Below.refl _ _⟩
  case round =>
    clear o0
    obtain ⟨k, hk, rfl, hO, hbl⟩ := hrel
    have HO : Hid (OwnI wr w.heap.size u5 (freeK (usedB ss ps) k)) := hO
    clear hO
    by_cases hlt : k < t
    · have hmk : MapOf wr m n (dOf (kvOf e ss ps)) := HM.out.kept (row := none) ⟨hbl.os, hbl.tape, hbl.output, hbl.size, fun i hi _ => hbl.block i hi⟩ (by simp)
      have hkey := (show InR (k : Int) from by unfold InR; omega).key
      have hh := (has_dOf (kvOf e ss ps) k).trans (kv_any e ss ps k)
      go_wp2_with (at_lookup; refine wpList_lookup_own_ok_int _ rfl _ _ 75 rfl 3 3 .i64 law3 Try.underlying75 Try.underlying3 (zero3 _) m n _ rfl hmk _ _ rfl hkey ?_)
      intro c _ _
      try rw [hh]
      cases hu : usedB ss ps k
      · have HN : Hid (freeK (usedB ss ps) (k + 1) = freeK (usedB ss ps) k ++ [(k : Int)]) := by
          show (if usedB ss ps k = true then _ else _) = _
          rw [hu]
          rfl
        have hl := freeK_len (usedB ss ps) k
        obtain ⟨fl, hfl⟩ : ∃ fl, freeK (usedB ss ps) k = fl := ⟨_, rfl⟩
        rw [hfl] at HN HO hl
        clear hh hmk hfl
        go_wp2_with (at_builtin; refine wpList_append_own _ rfl _ _ 26 rfl w.heap.size 3 i0 (.int .i64 0) 1 8 Try.underlying26 hi hz0 hz1 hz2 rfl (by decide) _ _ _ rfl (HO.out.alloc _) ⟨wr.heap.size, 0, none⟩ 1 1 [.int .i64 k] rfl rfl (cell_one_new _ _ _) (ints_oneCell .i64 [(k : Int)]) ?m1 ?m2 ?m3 ?_)
        case m1 => unfold maxLen; omega
        case m2 => omega
        case m3 => simp; have := hbl.size; omega
        intro v' w2 ho2 g2 _
        have HO2 : Hid (OwnI w2 w.heap.size v' (freeK (usedB ss ps) (k + 1))) := by show OwnI _ _ _ _; rw [HN.out]; exact OwnI.snoc ho2
        have B2 : Hid (Below w.heap.size w w2) := own_below (hbl.alloc hbl.size _) (by simp; have := hbl.size; omega) (HO.out.alloc _) g2
        clear ho2 g2
        go_wp2
        go_roundw
        case rel => exact ⟨k + 1, by omega, by go_num, HO2.out, B2.out⟩
        case measure => simp [intOf]; omega
      · have HN : Hid (freeK (usedB ss ps) (k + 1) = freeK (usedB ss ps) k) := by
          show (if usedB ss ps k = true then _ else _) = _
          rw [hu]
          rfl
        clear hh hmk
        go_wp2
        go_roundw
        case rel => exact ⟨k + 1, by omega, by go_num, by rw [HN.out]; exact HO.out, hbl⟩
        case measure => simp [intOf]; omega
    · obtain rfl : k = t := by omega
      go_wp2
      go_ret
      exact ⟨_, rfl, HO.out, hbl⟩
end Go.Proofs.Ytaklphoplfofbaa
