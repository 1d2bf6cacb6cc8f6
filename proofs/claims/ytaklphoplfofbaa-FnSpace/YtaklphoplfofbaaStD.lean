/- The pages that stay held, as impl finds them (stage 4). -/
import Derived.Test.YtaklphoplfofbaaStC
import Derived.Test.YtaklphoplfofbaaOkM
namespace Go.Proofs.Ytaklphoplfofbaa
open Go.RowKit Go.Maps Go.WideShapes Go.ChangeMaps Go.MapKept

/-- The epoch that a set has of a page (0 of none). -/
def valK (kv : List P2) (k : Int) : Int := kv.foldl (fun acc x => if x.1 = k then x.2 else acc) 0
theorem at_dOf (kv : List P2) (k : Int) : (dOf kv).atKey (.int .i64 k) (.lit (.int .i64 0)) = .lit (.int .i64 (valK kv k)) := by
  suffices ∀ (l : List P2) (D : DU) (z : Int), IsMap D → D.atKey (.int .i64 k) (.lit (.int .i64 0)) = .lit (.int .i64 z) → (l.foldl putE D).atKey (.int .i64 k) (.lit (.int .i64 0)) = .lit (.int .i64 (l.foldl (fun acc x => if x.1 = k then x.2 else acc) z)) from this kv _ 0 isMap_empty rfl
  intro l
  induction l with
  | nil => intro D z _ h; exact h
  | cons x l ih =>
    intro D z hD h
    rw [List.foldl_cons, List.foldl_cons]
    refine ih _ _ (by unfold putE; exact hD.put _ _) ?_
    by_cases e : x.1 = k
    · rw [if_pos e, ← e]
      exact atKey_put_same hD (key_int _) _ _
    · rw [if_neg e]
      unfold putE
      rw [atKey_put_other (by simpa using fun h => e h.symm)]
      exact h
/-- Pages below k that stay held: of an epoch from o on, ahead of e. -/
def heldK (e o : Int) (kv : List P2) : Nat → List P2
  | 0 => []
  | k + 1 => if kv.any (fun x => x.1 == (k : Int)) = true ∧ o ≤ valK kv k ∧ valK kv k < e then heldK e o kv k ++ [((k : Int), valK kv k)] else heldK e o kv k
theorem heldK_len (e o : Int) (kv : List P2) : ∀ k, (heldK e o kv k).length ≤ k
  | 0 => Nat.le_refl _
  | k + 1 => by
    have ih := heldK_len e o kv k
    unfold heldK
    split
    · rw [List.length_append]; simp only [List.length_cons, List.length_nil]; omega
    · omega
theorem cellsP_snoc (l : List P2) (p : P2) : cellsP (l ++ [p]) = cellsP l ++ [.int .i64 p.1, .int .i64 p.2] := by simp [cellsP]
theorem cell_two_new (w : World) (x y : Value) (t : TypeId) : ∀ j u, [x, y][j]? = some u → (w.alloc (.cells #[x, y] t)).cell? ((⟨w.heap.size, 0, none⟩ : Addr).add j) = some u := by
  intro j u hj
  match j, hj with
  | 0, hj => simp at hj; subst hj; simp [Addr.add]
  | 1, hj => simp at hj; subst hj; simp [Addr.add]
theorem ownP_below {B : Nat} {w u u' : World} {v : Value} {l : List P2} (h : Below B w u) (hB : B ≤ u.heap.size) (ho : OwnP u B v l) (hg : u.grownBy u' v.ownBlock) : Below B w u' :=
  h.grown hg hB (fun k hk => by
    rcases ho.2 with ⟨rfl, _⟩ | ⟨g, cap, cur, rfl, hBg, _⟩
    · cases hk
    · cases hk; exact hBg)
theorem OwnP.alloc {w : World} {B : Nat} {v : Value} {l : List P2} (h : OwnP w B v l) (o : Obj) : OwnP (w.alloc o) B v l := own_keep h fun _ _ hl => heap_old _ _ _ hl

set_option maxRecDepth 100000 in
set_option maxHeartbeats 4000000 in
theorem implHeld_any (m n t : Nat) (e : Int) (kv : List P2) (v1 v2 : Value) (a3 : Option Addr) (c3 : Nat) (qs : List Int) (w : World) (hm : MapOf w m n (dOf kv)) (h : RowI w a3 qs) (hl : qs.length ≤ 64) (ht : t ≤ 64) (he : 0 ≤ e) (he2 : e ≤ 1000001) :
    Calls Try.prog 75 #[.map (some m), SV t e v1 v2 (.slice a3 qs.length c3)] w fun r w' => ∃ v, r = .returned v ∧ OwnP w' w.heap.size v (heldK e (oldN e qs) kv t) ∧ Below w.heap.size w w' := by
  have HM : Hid (MapOf w m n (dOf kv)) := hm
  have HR : Hid (RowI w a3 qs) := h
  have HL : Hid (qs.length ≤ 64) := hl
  clear hm h hl
  obtain ⟨i0, hi, hz0, hz1, hz2⟩ := info_parts info88
  obtain ⟨W0, hW0⟩ : ∃ W0, w.alloc (SC t e v1 v2 (.slice a3 qs.length c3) 29) = W0 := ⟨_, rfl⟩
  have B0 : Below w.heap.size w W0 := hW0 ▸ (Below.refl _ _).alloc (Nat.le_refl _) _
  have z0 : W0.heap.size = w.heap.size + 1 := by rw [← hW0]; simp
  have xb : W0.heap[w.heap.size]? = some (.cells #[.int .i64 t, .int .i64 e, v1, v2, .slice a3 qs.length c3] 29 (0, 0)) := by rw [← hW0]; exact heap_new' _ _ _ rfl
  have HC : Hid (∀ wr, Below W0.heap.size W0 wr → wr.cell? ⟨w.heap.size, 0, none⟩ = some (.int .i64 t) ∧ wr.cell? ⟨w.heap.size, 1, none⟩ = some (.int .i64 e)) := fun wr hb => by
    have hx := (hb.block (w.heap.size) (by omega)).trans xb
    exact ⟨by simp [World.cell?, hx], by simp [World.cell?, hx]⟩
  have b0 : W0.cell? ⟨w.heap.size, 0, none⟩ = some (.int .i64 t) := by simp [World.cell?, xb]
  have b1 : W0.cell? ⟨w.heap.size, 1, none⟩ = some (.int .i64 e) := by simp [World.cell?, xb]
  have b2 : W0.cell? ⟨w.heap.size, 2, none⟩ = some v1 := by simp [World.cell?, xb]
  have b3 : W0.cell? ⟨w.heap.size, 3, none⟩ = some v2 := by simp [World.cell?, xb]
  have b4 : W0.cell? ⟨w.heap.size, 4, none⟩ = some (.slice a3 qs.length c3) := by simp [World.cell?, xb]
  have Z0 : Hid (W0.heap.size = w.heap.size + 1) := z0
  clear xb z0
  go_enter Try.func75, Try.ntmps75
  go_wp2_with fail
  refine (oldest_any t e v1 v2 a3 c3 qs W0 (HR.out.below B0) HL.out he he2).mono ?_
  rintro r w1 ⟨rfl, hb1⟩
  obtain ⟨d0, d1⟩ := HC.out w1 hb1
  clear b0 b1 b2 b3 b4
  generalize hoo : oldN e qs = o at *
  have HOO : Hid (oldN e qs = o) := hoo
  clear hoo
  have o0 : OwnP w1 W0.heap.size (.slice none 0 0) [] := ⟨rfl, .inl ⟨rfl, rfl⟩⟩
  go_wp2
  go_loopw [5, 14] (fun v i wr => ∃ k : Nat, k ≤ t ∧ i = .int .i64 k ∧ OwnP wr W0.heap.size v (heldK e o kv k) ∧ Hid (Below W0.heap.size W0 wr)) (fun _ i _ => t - (intOf i).toNat)
  case atStart => exact ⟨0, by omega, rfl, o0, hb1⟩
  case round =>
    clear o0 d0 d1
    obtain ⟨k, hk, rfl, hO, HB⟩ := hrel
    have HO : Hid (OwnP wr W0.heap.size u5 (heldK e o kv k)) := hO
    obtain ⟨d0, d1⟩ := HC.out wr HB.out
    clear hO
    have hbw : Below w.heap.size w wr := B0.trans (HB.out.mono B0.size)
    by_cases hlt : k < t
    · have hltI : (k : Int) < (t : Int) := by omega
      have hmk : MapOf wr m n (dOf kv) := HM.out.kept (row := none) ⟨hbw.os, hbw.tape, hbw.output, hbw.size, fun i hi _ => hbw.block i hi⟩ (by simp)
      have hkey := (show InR (k : Int) from by unfold InR; omega).key
      have hh := has_dOf kv k
      have HAT : Hid ((dOf kv).atKey (.int .i64 k) (.lit (.int .i64 0)) = .lit (.int .i64 (valK kv k))) := at_dOf kv k
      go_wp2_with (at_lookup; refine wpList_lookup_own_ok_int _ rfl _ _ 75 rfl 3 3 .i64 law3 Try.underlying75 Try.underlying3 (zero3 _) m n _ rfl hmk _ _ rfl hkey ?_)
      intro c hc _
      rw [HAT.out] at hc
      have hcv : valK kv k = c := by cases hc; rfl
      try rw [hh]
      have HS : Hid (heldK e o kv (k + 1) = if kv.any (fun x => x.1 == (k : Int)) = true ∧ o ≤ c ∧ c < e then heldK e o kv k ++ [((k : Int), c)] else heldK e o kv k) := by show _ = _; rw [← hcv]; rfl
      have hlk := heldK_len e o kv k
      obtain ⟨fl, hfl⟩ : ∃ fl, heldK e o kv k = fl := ⟨_, rfl⟩
      rw [hfl] at HS HO hlk
      clear hh hmk hfl hc hcv HAT
      cases hu : kv.any (fun x => x.1 == (k : Int))
      · have HN : Hid (heldK e o kv (k + 1) = fl) := by show _ = _; rw [HS.out, hu, if_neg (fun h => by cases h.1)]
        go_wp2
        go_roundw
        case rel => exact ⟨k + 1, by omega, by go_num, by rw [HN.out]; exact HO.out, HB⟩
        case measure => simp [intOf]; omega
      · by_cases h1 : o ≤ c
        · by_cases h2 : c < e
          · have HN : Hid (heldK e o kv (k + 1) = fl ++ [((k : Int), c)]) := by show _ = _; rw [HS.out, if_pos ⟨hu, h1, h2⟩]
            have hs0 : W0.heap.size ≤ wr.heap.size := HB.out.size
            clear HS hu
            go_wp2_with (at_builtin; refine wpList_append_own _ rfl (.tmp 35) (.tmp 39) 27 rfl W0.heap.size 88 i0 (.agg #[.int .i64 0, .int .i64 0]) 2 16 Try.underlying27 hi hz0 hz1 hz2 rfl (by decide) _ _ _ rfl (HO.out.alloc _) ⟨wr.heap.size, 0, none⟩ 1 1 [.int .i64 k, .int .i64 c] rfl rfl ?m0 ?m4 ?m1 ?m2 ?m3 ?_)
            case m0 => exact cell_two_new _ _ _ _
            case m4 => intro u hu; simp at hu; rcases hu with rfl | rfl <;> rfl
            case m1 => unfold maxLen; omega
            case m2 => omega
            case m3 => simp; omega
            intro v' w2 ho2 g2 _
            have HO2 : Hid (OwnP w2 W0.heap.size v' (heldK e o kv (k + 1))) := by show World.ownsRow _ _ _ _ _ _ _; rw [HN.out, cellsP_snoc, List.length_append]; exact ho2
            have B2 : Hid (Below W0.heap.size W0 w2) := ownP_below (HB.out.alloc HB.out.size _) (by simp; omega) (HO.out.alloc _) g2
            clear ho2 g2
            go_wp2
            go_roundw
            case rel => exact ⟨k + 1, by omega, by go_num, HO2.out, B2⟩
            case measure => simp [intOf]; omega
          · have HN : Hid (heldK e o kv (k + 1) = fl) := by show _ = _; rw [HS.out, if_neg (fun h => h2 h.2.2)]
            go_wp2
            go_roundw
            case rel => exact ⟨k + 1, by omega, by go_num, by rw [HN.out]; exact HO.out, HB⟩
            case measure => simp [intOf]; omega
        · have HN : Hid (heldK e o kv (k + 1) = fl) := by show _ = _; rw [HS.out, if_neg (fun h => h1 h.2.1)]
          go_wp2
          go_roundw
          case rel => exact ⟨k + 1, by omega, by go_num, by rw [HN.out]; exact HO.out, HB⟩
          case measure => simp [intOf]; omega
    · obtain rfl : k = t := by omega
      go_wp2
      go_ret
      rw [HOO.out]
      exact ⟨_, rfl, own_mono (B := w.heap.size) (B' := W0.heap.size) HO.out (by rw [Z0.out]; omega), hbw⟩
end Go.Proofs.Ytaklphoplfofbaa
