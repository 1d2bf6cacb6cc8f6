/- How many nodes a tree has: the program, by a stack of lists (stage 11). -/
import Derived.Test.YteejkmcljokloaaGreatDoorTrD
import Derived.Lib.AppendZeros
namespace Go.Proofs.YteejkmcljokloaaGreatDoor
open Go.RowKit

theorem Fo.size_zero : ∀ {f : Fo}, f.len = 0 → f.size = 0
  | .nil, _ => rfl
  | .cons _ _ _, h => by simp [Fo.len] at h
/-- A list of trees and where it lies. -/
abbrev SE : Type := Option Addr × Nat × Fo
abbrev valE (e : SE) : Value := .slice e.1 e.2.2.len e.2.1
def sumE : List SE → Nat
  | [] => 0
  | e :: r => e.2.2.size + sumE r
theorem sumE_append : ∀ (l r : List SE), sumE (l ++ r) = sumE l + sumE r
  | [], r => by simp [sumE]
  | e :: l, r => by have := sumE_append l r; simp only [List.cons_append, sumE]; omega
/-- The slice v owns these lists. -/
abbrev OwnE (w : World) (B : Nat) (v : Value) (S : List SE) : Prop := w.ownsRow B 36 1 v S.length (S.map valE)
abbrev AllE (w : World) (S : List SE) : Prop := ∀ e ∈ S, RowT 0 w e.1 0 e.2.2
def lenOf : Value → Nat
  | .slice _ n _ => n
  | _ => 0
theorem OwnE.len {w : World} {B : Nat} {v : Value} {S : List SE} (h : OwnE w B v S) : lenOf v = S.length := by
  rcases h.2 with ⟨rfl, hn⟩ | ⟨g, cap, cur, rfl, _⟩
  · exact hn.symm
  · rfl
theorem OwnE.block {w w' : World} {B : Nat} {v : Value} {l : List SE} (h : OwnE w B v l) (hb : ∀ g, g < w.heap.size → B ≤ g → w'.heap[g]? = w.heap[g]?) : OwnE w' B v l := by
  refine ⟨h.1, h.2.imp id ?_⟩
  rintro ⟨g, cap, cur, e, hB, hh, r⟩
  exact ⟨g, cap, cur, e, hB, (hb g (slab_lt hh) hB).trans hh, r⟩
theorem OwnE.alloc {w : World} {B : Nat} {v : Value} {l : List SE} (h : OwnE w B v l) (o : Obj) : OwnE (w.alloc o) B v l := h.block fun _ hg _ => heap_old _ _ _ hg
theorem ownE_below {B : Nat} {w u u' : World} {v : Value} {l : List SE} (h : Below B w u) (hB : B ≤ u.heap.size) (ho : OwnE u B v l) (hg : u.grownBy u' v.ownBlock) : Below B w u' :=
  h.grown hg hB (fun k hk => by
    rcases ho.2 with ⟨rfl, _⟩ | ⟨g, cap, cur, rfl, hBg, _⟩
    · cases hk
    · cases hk; exact hBg)
theorem OwnE.snoc {w : World} {B : Nat} {v : Value} {l : List SE} {x : SE} (h : w.ownsRow B 36 1 v (l.length + 1) (l.map valE ++ [valE x])) : OwnE w B v (l ++ [x]) := by
  show w.ownsRow B 36 1 v (l ++ [x]).length ((l ++ [x]).map valE)
  rw [List.length_append, List.map_append]
  exact h
/-- The last list of a stack, and the stack without it. -/
theorem OwnE.pop {w : World} {B : Nat} {v : Value} {l : List SE} {x : SE} (h : OwnE w B v (l ++ [x])) : ∃ g cap, v = .slice (some ⟨g, 0, none⟩) (l.length + 1) cap ∧ B ≤ g ∧ l.length + 1 ≤ cap ∧ cap ≤ maxLen ∧ w.cell? ⟨g, l.length, none⟩ = some (valE x) ∧ OwnE w B (.slice (some ⟨g, 0, none⟩) l.length cap) l := by
  rcases h.2 with ⟨rfl, hn⟩ | ⟨g, cap, cur, rfl, hB, hh, hc, hm, hs, ht⟩
  · simp at hn
  · rw [List.length_append, List.length_singleton] at hc ht ⊢
    rw [List.map_append, Nat.mul_one] at ht
    refine ⟨g, cap, rfl, hB, hc, hm, ?_, ⟨by simp, .inr ⟨g, cap, cur, rfl, hB, hh, by omega, hm, hs, ?_⟩⟩⟩
    · rw [slab_cell hh]
      have := congrArg (fun q => q[l.length]?) ht
      rw [List.getElem?_take_of_lt (by omega), List.getElem?_append_right (by simp), Array.getElem?_toList] at this
      rw [this]
      simp
    · have := congrArg (fun q => q.take l.length) ht
      rw [List.take_take, Nat.min_eq_left (by omega), List.take_left' (by simp)] at this
      rw [Nat.mul_one]
      exact this
theorem infoE : (Tryz.prog.info? 36).map (fun i => (i.zero, i.size, i.bytes)) = some (some (.slice none 0 0), 1, 24) := by kernel_rfl
theorem app_E (v : Value) (l : List SE) (x : SE) (w : World) (B : Nat) (c : Nat) (h : OwnE w B v l) (hl : l.length + 1 ≤ 2097152) (ad : Addr) (hx : w.cell? ad = some (valE x)) (hB : B ≤ w.heap.size) :
    ∃ v' w', (Builtin.append_ #[170, 170] 170 #[v, .slice (some ad) 1 c]).run Tryz.prog w = .ok v' w' ∧ OwnE w' B v' (l ++ [x]) ∧ w.grownBy w' v.ownBlock := by
  obtain ⟨i0, hi, hz0, hz1, hz2⟩ := info_parts infoE
  obtain ⟨v', w', hrun, r1, r2, _⟩ := run_append_own (P := Tryz.prog) w B 170 170 36 i0 (.slice none 0 0) 1 24 Tryz.underlying170 hi hz0 hz1 hz2 rfl (by decide) v l.length (l.map valE) h ad 1 c [valE x] rfl (fun j u hu => by
    match j, hu with
    | 0, hu =>
      simp at hu
      subst hu
      obtain ⟨b, o, s⟩ := ad
      have hs : s = none := by simpa using World.cell?_spot hx
      subst hs
      rw [add_plain]
      exact hx) (fun u hu => by simp at hu; subst hu; rfl) (by unfold maxLen; omega) (by omega) hB
  exact ⟨v', w', hrun, OwnE.snoc r1, r2⟩

set_option maxRecDepth 100000 in
set_option maxHeartbeats 4000000 in
theorem sizeUpTo_any (x : ND) (ks : Fo) (ka : Option Addr) (kc : Nat) (most : Int) (w : World) (hsz : ks.size ≤ 1048576) (hrow : RowT 0 w ka 0 ks) (hm : 0 ≤ most) (hm' : most ≤ 33554432) :
    Calls Tryz.prog 96 #[ValT x (.slice ka ks.len kc), .int .i64 most] w fun e w' => ∃ r : Int, e = .returned (.int .i64 r) ∧ ((ks.size : Int) + 1 ≤ most → r = (ks.size : Int) + 1) ∧ (most < (ks.size : Int) + 1 → most < r) ∧ Below w.heap.size w w' := by
  have HR : Hid (RowT 0 w ka 0 ks) := hrow
  obtain ⟨tot, ht⟩ : ∃ t, ks.size = t := ⟨_, rfl⟩
  have HT : Hid (ks.size = tot) := ht
  rw [ht] at hsz ⊢
  clear hrow ht
  have B0 : Below w.heap.size w ((w.alloc (.cells #[.int .i64 x.k, .int .i64 x.n, .string x.nm, .string x.of, .int .i64 x.vk, .int .i64 x.vn, .string x.vt, .slice ka ks.len kc] 38)).alloc (.cells #[.slice ka ks.len kc] 36)) := ((Below.refl _ _).alloc (Nat.le_refl _) _).alloc (by simp) _
  have O0 : Hid (OwnE ((w.alloc (.cells #[.int .i64 x.k, .int .i64 x.n, .string x.nm, .string x.of, .int .i64 x.vk, .int .i64 x.vn, .string x.vt, .slice ka ks.len kc] 38)).alloc (.cells #[.slice ka ks.len kc] 36)) w.heap.size (.slice (some ⟨w.heap.size + 1, 0, none⟩) 1 1) [(ka, kc, ks)]) :=
    ⟨rfl, .inr ⟨w.heap.size + 1, 1, _, rfl, by omega, heap_new' _ _ _ (by simp), Nat.le_refl _, by decide, rfl, rfl⟩⟩
  go_enter Tryz.func96, Tryz.ntmps96
  go_wp2
  go_loopw [5, 6] (fun s v wr => ∃ (t : Nat) (S : List SE), s = .int .i64 t ∧ OwnE wr w.heap.size v S ∧ Hid (AllE w S ∧ t + sumE S = tot + 1) ∧ S.length ≤ t ∧ Below w.heap.size w wr) (fun s v _ => 2 * (tot + 1 - (intOf s).toNat) + lenOf v)
  case atStart => exact ⟨1, _, rfl, O0, ⟨fun e he => by simp at he; subst he; exact HR.out, by simp [sumE, HT.out]; omega⟩, by simp, B0⟩
  case round =>
    clear B0 O0
    obtain ⟨t, S, rfl, hO, HA, hSt, hbl⟩ := hrel
    rcases List.eq_nil_or_concat S with rfl | ⟨L, e, rfl⟩
    · have hv : lenOf u6 = 0 := hO.len
      have HQ : Hid (t = tot + 1) := by show _ = _; have := HA.out.2; simp [sumE] at this; exact this
      have hvl : ∃ a c, u6 = .slice a 0 c := by
        rcases hO.2 with ⟨rfl, _⟩ | ⟨g, cap, cur, rfl, _⟩
        · exact ⟨_, _, rfl⟩
        · exact ⟨_, _, rfl⟩
      obtain ⟨av, cv, rfl⟩ := hvl
      clear hO hv HA hSt
      go_wp2
      go_ret
      exact ⟨_, rfl, fun _ => by have := HQ.out; omega, fun h => by have := HQ.out; omega, hbl⟩
    · rw [List.concat_eq_append] at hO HA hSt
      obtain ⟨g, cap, rfl, hBg, hc1, hc2, hcell, hO'⟩ := hO.pop
      obtain ⟨ea, ec, f⟩ := e
      have HF : Hid (RowT 0 w ea 0 f ∧ AllE w L) := ⟨HA.out.1 (ea, ec, f) (by simp), fun e he => HA.out.1 e (by simp [he])⟩
      have HS : Hid (t + sumE L + f.size = tot + 1) := by
        show _ = _
        have := HA.out.2
        rw [sumE_append] at this
        simp [sumE] at this
        omega
      have hfl : t + f.len ≤ tot + 1 := by have := HS.out; have := f.len_le; omega
      obtain ⟨n, hn⟩ : ∃ n, f.len = n := ⟨_, rfl⟩
      have HN : Hid (f.len = n) := hn
      obtain ⟨m, hm⟩ : ∃ m, L.length = m := ⟨_, rfl⟩
      have HM : Hid (L.length = m) := hm
      have hmt : m + 1 ≤ t := by rw [← hm]; simpa using hSt
      have hO2 : Hid (OwnE wr w.heap.size (.slice (some ⟨g, 0, none⟩) m cap) L) := by rw [← hm]; exact hO'
      have hcl : wr.cell? ⟨g, m, none⟩ = some (.slice ea n ec) := by rw [← hm, ← hn]; exact hcell
      rw [hm] at hc1
      rw [hn] at hfl
      rw [hm]
      clear hm hn hO hO' HA hSt hcell
      unfold maxLen at hc2
      by_cases hbig : most < (t : Int) + (n : Int)
      · go_wp2
        go_ret
        exact ⟨_, rfl, fun h => by omega, fun _ => by go_num, hbl⟩
      have hmb : m ≤ 1048577 := by omega
      have hnb : n ≤ 1048577 := by omega
      go_wp2_with fail
      go_loopw [6, 37] (fun v i wi => ∃ (k : Nat) (P : List SE), k ≤ n ∧ i = .int .i64 k ∧ OwnE wi w.heap.size v (L ++ P) ∧ Hid (AllE w P ∧ sumE P + k = f.upTo k) ∧ P.length ≤ k ∧ Below w.heap.size w wi) (fun _ i _ => n - (intOf i).toNat)
      case atStart => exact ⟨0, [], by omega, rfl, by rw [List.append_nil]; exact hO2.out, ⟨fun e he => by simp at he, by rw [Fo.upTo_zero]; rfl⟩, Nat.le_refl _, hbl⟩
      case round =>
        clear hO2 hcl hc1 hc2
        obtain ⟨k, P, hk, rfl, hOP, HP, hPk, hbi⟩ := hrel
        by_cases hlt : k < n
        · have hkf : k < f.len := by rw [HN.out]; exact hlt
          obtain ⟨b, off, ca, cc, rfl, _, hlb, ⟨c0, c1, c2, c3, c4, c5, c6, c7⟩, _, _⟩ := (HF.out.1.below hbi).at k hkf
          obtain ⟨b', off', ca', cc', e', _, hlb', ⟨_, _, _, _, _, _, _, c7'⟩, _, hkr⟩ := HF.out.1.at k hkf
          obtain ⟨rfl, rfl⟩ : b = b' ∧ off = off' := by simpa using e'
          obtain ⟨rfl, rfl⟩ : ca = ca' ∧ cc = cc' := by
            have := (hbi.cell (p := ⟨b, off + k * 8 + 7, none⟩) hlb').symm.trans c7
            rw [c7'] at this
            simpa using this.symm
          have HU : Hid (f.upTo (k + 1) = f.upTo k + (f.kids k).size + 1) := f.upTo_succ k hkf
          have HK : Hid (RowT 0 w ca 0 (f.kids k)) := hkr
          clear hkr c7' hlb' e' hkf
          by_cases hz : (f.kids k).len = 0
          · have HZ : Hid ((f.kids k).size = 0) := Fo.size_zero hz
            rw [hz] at c7
            have HP' : Hid (AllE w P ∧ sumE P + (k + 1) = f.upTo (k + 1)) := ⟨HP.out.1, by have := HP.out.2; rw [HU.out, HZ.out]; omega⟩
            have hO3 : Hid (OwnE (wr.alloc (.cells #[.int .i64 (f.node k).k, .int .i64 (f.node k).n, .string (f.node k).nm, .string (f.node k).of, .int .i64 (f.node k).vk, .int .i64 (f.node k).vn, .string (f.node k).vt, .slice ca 0 cc] 38)) w.heap.size u6 (L ++ P)) := hOP.alloc _
            have hB3 : Hid (Below w.heap.size w (wr.alloc (.cells #[.int .i64 (f.node k).k, .int .i64 (f.node k).n, .string (f.node k).nm, .string (f.node k).of, .int .i64 (f.node k).vk, .int .i64 (f.node k).vn, .string (f.node k).vt, .slice ca 0 cc] 38))) := hbi.alloc hbi.size _
            clear hz hOP HP HU HK HZ hbi
            go_wp2
            go_roundw
            case rel => exact ⟨k + 1, P, by omega, by go_num, hO3.out, HP', by omega, hB3.out⟩
            case measure => simp [intOf]; omega
          · obtain ⟨W1, hW1⟩ : ∃ W1, wr.alloc (.cells #[.int .i64 (f.node k).k, .int .i64 (f.node k).n, .string (f.node k).nm, .string (f.node k).of, .int .i64 (f.node k).vk, .int .i64 (f.node k).vn, .string (f.node k).vt, .slice ca (f.kids k).len cc] 38) = W1 := ⟨_, rfl⟩
            have b1 : Below wr.heap.size wr W1 := hW1 ▸ (Below.refl _ _).alloc (Nat.le_refl _) _
            have z1 : W1.heap.size = wr.heap.size + 1 := by rw [← hW1]; simp
            have k7 : W1.cell? ⟨wr.heap.size, 7, none⟩ = some (.slice ca (f.kids k).len cc) := hW1 ▸ slab_cell (heap_new' _ _ _ rfl)
            have hB1 : Below w.heap.size w W1 := below_step hbi (Nat.le_refl _) b1
            have hO1 : OwnE W1 w.heap.size u6 (L ++ P) := hOP.block fun g hg _ => b1.block g hg
            have hB2 : Below w.heap.size w (W1.alloc (.cells #[.slice ca (f.kids k).len cc] 36)) := hB1.alloc hB1.size _
            obtain ⟨v', w4, hrun, o4, gr⟩ := app_E u6 (L ++ P) (ca, cc, f.kids k) (W1.alloc (.cells #[.slice ca (f.kids k).len cc] 36)) w.heap.size 1 (hO1.alloc _) (by rw [List.length_append, HM.out]; omega) ⟨W1.heap.size, 0, none⟩ (slab_cell (heap_new' _ _ _ rfl)) hB2.size
            have HO4 : Hid (OwnE w4 w.heap.size v' (L ++ (P ++ [(ca, cc, f.kids k)]))) := by show OwnE _ _ _ _; rw [← List.append_assoc]; exact o4
            have HB4 : Hid (Below w.heap.size w w4) := ownE_below hB2 hB2.size (hO1.alloc _) gr
            have HP' : Hid (AllE w (P ++ [(ca, cc, f.kids k)]) ∧ sumE (P ++ [(ca, cc, f.kids k)]) + (k + 1) = f.upTo (k + 1)) := ⟨fun e he => by
              rcases List.mem_append.1 he with he | he
              · exact HP.out.1 e he
              · simp at he; subst he; exact HK.out, by have := HP.out.2; rw [HU.out, sumE_append]; simp [sumE]; omega⟩
            have hzp : (0 : Int) < ((f.kids k).len : Int) := by omega
            clear hz hOP HP HU HK hbi b1 hB1 hO1 hB2 o4 gr
            rw [z1] at hrun
            go_wp2_with (at_builtin; refine Lib.wpList_append_run _ rfl _ _ _ _ rfl _ _ rfl rfl _ _ hrun ?_)
            exact ⟨⟨k + 1, P ++ [(ca, cc, f.kids k)], by omega, by go_num, HO4.out, HP', by rw [List.length_append]; simp; omega, HB4.out⟩, by simp [intOf]; omega⟩
        · obtain rfl : k = n := by omega
          have HQ : Hid (AllE w (L ++ P) ∧ t + k + sumE (L ++ P) = tot + 1) := ⟨fun e he => by
            rcases List.mem_append.1 he with he | he
            · exact HF.out.2 e he
            · exact HP.out.1 e he, by
            have h1 := HP.out.2
            have h2 := HS.out
            rw [← HN.out, Fo.upTo_len] at h1
            rw [sumE_append, ← HN.out]
            omega⟩
          have hvl : lenOf u6 ≤ m + k := by rw [hOP.len, List.length_append, HM.out]; omega
          have hSl : (L ++ P).length ≤ t + k := by rw [List.length_append, HM.out]; omega
          have HO5 : Hid (OwnE wr w.heap.size u6 (L ++ P)) := hOP
          clear HF HS HP hOP
          go_wp2
          exact ⟨⟨t + k, L ++ P, by go_num, HO5.out, HQ, hSl, hbi⟩, by show 2 * (tot + 1 - ((t : Int) + (k : Int)).toNat) + lenOf u6 < 2 * (tot + 1 - (t : Int).toNat) + (m + 1); omega⟩
end Go.Proofs.YteejkmcljokloaaGreatDoor
