/- spec's Conjuncts (stage 14). -/
import Derived.Test.YthjibgnhpkonbaaCjJ
namespace Go.Proofs.Ythjibgnhpkonbaa
open Go.RowKit

/-- What spec's Conjuncts answers. -/
def RetCs (x : ND) (ks : Fo) (w : World) (e : Ending) (w' : World) : Prop := ∃ a n c, e = .returned (.tuple #[.slice a n c, .int .i64 (sCode x ks)]) ∧ n = (cjF x ks).len ∧ RowT 0 w' a 0 (cjF x ks) ∧ Below w.heap.size w w'
set_option maxRecDepth 100000 in
set_option maxHeartbeats 8000000 in
theorem specConj_any (x : ND) (ks : Fo) (ka : Option Addr) (kc : Nat) (w : World) (hrow : RowT 0 w ka 0 ks) (hkc : ks.len ≤ kc) (hsz : ks.size ≤ 1048576) (ht : TextsN maxLen x) :
    Calls Try.prog 10 #[ValT x (.slice ka ks.len kc)] w (RetCs x ks w) := by
  have B1 : Below w.heap.size w (w.alloc (.cells #[.int .i64 x.k, .int .i64 x.n, .string x.nm, .string x.of, .int .i64 x.vk, .int .i64 x.vn, .string x.vt, .slice ka ks.len kc] 33)) := (Below.refl _ _).alloc (Nat.le_refl _) _
  have X1 : Hid (CellT (w.alloc (.cells #[.int .i64 x.k, .int .i64 x.n, .string x.nm, .string x.of, .int .i64 x.vk, .int .i64 x.vn, .string x.vt, .slice ka ks.len kc] 33)) w.heap.size 0 x (.slice ka ks.len kc)) := cellT_new x _ 33
  have hw := l11ExprOK_any x ks ka kc _ (hrow.below B1) hsz ht
  have HE : Hid (okE x ks = true → (cjF x ks = andsF x ks ∧ sCode x ks = 0 ∧ (andsF x ks).size ≤ 200) ∧ ∀ w1 : World, Below w.heap.size w w1 → Calls Try.prog 25 #[ValT x (.slice ka ks.len kc), .slice (some ⟨w1.heap.size, 0, none⟩) 0 0] (w1.alloc (.cells #[] 33)) fun e w' => ∃ a c ts, e = .returned (.slice a (andsF x ks).len c) ∧ RowE w' a ts ∧ KidE w1 ts (andsF x ks) ∧ Below w1.heap.size w1 w') := fun h => by
    obtain ⟨h1, h2⟩ := okE_parts h
    have h0 : cjF x ks = andsF x ks := if_pos h
    refine ⟨⟨h0, if_pos h, by rw [← h0]; exact cjF_size⟩, fun w1 b => ?_⟩
    refine (l14Ands_any x ks ka kc w1 (hrow.below b) hkc (by omega) ht h2 _ [] _ ((Below.refl _ _).alloc (Nat.le_refl _) _) (OwnTr.empty (Nat.le_refl _)) (by simp; omega)).mono ?_
    rintro e w' ⟨v', ts, rfl, o1, k1, b1, _⟩
    obtain ⟨a, c, rfl, _, hr, _⟩ := o1.row
    exact ⟨a, c, ts, by rw [List.nil_append, k1.1], hr, k1, b1⟩
  have HF : Hid (okE x ks = false → cjF x ks = .nil ∧ sCode x ks = 1) := fun h => ⟨if_neg (by rw [h]; decide), if_neg (by rw [h]; decide)⟩
  clear hrow hsz ht hkc
  generalize hok : okE x ks = ok at hw HE HF
  clear hok
  unfold RetCs
  generalize cjF x ks = cj at HE HF ⊢
  generalize sCode x ks = cod at HE HF ⊢
  cases ok with
  | false =>
    have HA : Hid (cj = .nil ∧ cod = 1) := HF.out rfl
    clear HE HF X1
    go_enter Try.func10, Try.ntmps10
    go_wp2_with fail
    refine hw.mono ?_
    rintro e w1 ⟨rfl, b1⟩
    have B2 := B1.trans (b1.mono B1.size)
    have B3 : Below w.heap.size w (w1.alloc (.cells #[] 33)) := B2.alloc B2.size _
    clear b1 hw B1
    go_wp2
    go_ret2
    exact ⟨_, _, _, by rw [HA.out.2]; rfl, by rw [HA.out.1]; rfl, by rw [HA.out.1]; trivial, B3⟩
  | true =>
    obtain ⟨q1, q2⟩ := HE.out rfl
    have HA : Hid (cj = andsF x ks ∧ cod = 0 ∧ (andsF x ks).size ≤ 200) := q1
    have HE' : Hid (∀ w1 : World, Below w.heap.size w w1 → Calls Try.prog 25 #[ValT x (.slice ka ks.len kc), .slice (some ⟨w1.heap.size, 0, none⟩) 0 0] (w1.alloc (.cells #[] 33)) fun e w' => ∃ a c ts, e = .returned (.slice a (andsF x ks).len c) ∧ RowE w' a ts ∧ KidE w1 ts (andsF x ks) ∧ Below w1.heap.size w1 w') := q2
    clear HE HF q1 q2
    generalize andsF x ks = ff at HE' HA
    go_enter Try.func10, Try.ntmps10
    go_wp2_with fail
    refine hw.mono ?_
    rintro e w1 ⟨rfl, b1⟩
    have B2 := B1.trans (b1.mono B1.size)
    obtain ⟨y0, y1, y2, y3, y4, y5, y6, y7⟩ := X1.out.same (b1.block w.heap.size (by simp))
    have he := HE'.out _ B2
    clear b1 hw B1 X1 HE'
    have hsz : ff.size ≤ 200 := HA.out.2.2
    have hlen : ff.len ≤ 200 := Nat.le_trans ff.len_le hsz
    obtain ⟨len, hL⟩ : ∃ m, ff.len = m := ⟨_, rfl⟩
    have HL : Hid (ff.len = len) := hL
    rw [hL] at hlen he
    clear hL
    go_wp2_with fail
    refine he.mono ?_
    rintro e w2 ⟨al, cl, ts, rfl, hr, hk, b2⟩
    have HB : Hid (Below w.heap.size w w1 ∧ Below w1.heap.size w1 w2) := ⟨B2, b2⟩
    have HR : Hid (RowE w2 al ts ∧ KidE w1 ts ff ∧ ff.size ≤ 200) := ⟨hr, hk, hsz⟩
    have O0 : OwnTr (w2.alloc (.cells #[] 33)) w2.heap.size (.slice (some ⟨w2.heap.size, 0, none⟩) 0 0) [] := OwnTr.empty (Nat.le_refl _)
    have BA : Below w2.heap.size w2 (w2.alloc (.cells #[] 33)) := (Below.refl _ _).alloc (Nat.le_refl _) _
    have HI0 : Hid (OwnTr (w2.alloc (.cells #[] 33)) w2.heap.size (.slice (some ⟨w2.heap.size, 0, none⟩) 0 0) [] ∧ KidP (fun b => w2.heap.size ≤ b ∧ Value.ownBlock (.slice (some ⟨w2.heap.size, 0, none⟩) 0 0) ≠ some b) (w2.alloc (.cells #[] 33)) [] ff 0 ∧ Below w2.heap.size w2 (w2.alloc (.cells #[] 33))) := ⟨O0, ⟨rfl, fun i hi => by omega⟩, BA⟩
    clear he hr hk b2 B2 O0 BA hsz y0 y1 y2 y3 y4 y5 y6 y7
    go_wp2
    go_loopw [5, 6] (fun u i wr => ∃ (k : Nat) (va : Option Addr) (n vc : Nat) (es : List E), k ≤ len ∧ i = .int .i64 k ∧ u = .slice va n vc ∧ Hid (OwnTr wr w2.heap.size (.slice va n vc) es ∧ KidP (fun b => w2.heap.size ≤ b ∧ Value.ownBlock (.slice va n vc) ≠ some b) wr es ff k ∧ Below w2.heap.size w2 wr)) (fun _ i _ => len - (intOf i).toNat)
    case atStart => exact ⟨0, _, _, _, [], by omega, rfl, rfl, HI0⟩
    case round =>
      clear HI0
      obtain ⟨k, va, n, vc, es, hk, rfl, rfl, HS⟩ := hrel
      by_cases hlt : k < len
      · have hltI : (k : Int) < (len : Int) := by omega
        have hkf : k < ff.len := by rw [HL.out]; exact hlt
        obtain ⟨b, off, rfl, hlb, cc⟩ := (HR.out.1.below HS.out.2.2) k (by rw [HR.out.2.1.1]; exact hkf)
        obtain ⟨t1, t2, ⟨m0, m1, m2⟩, t4⟩ := HR.out.2.1.2 k hkf
        have hks := ff.kids_lt k hkf
        have hbw : Below w1.heap.size w1 wr := HB.out.2.trans (HS.out.2.2.mono HB.out.2.size)
        have hcall := l14Copy_any (ff.node k) (ff.kids k) (nthE ts k).2.1 (nthE ts k).2.2.2 wr (t4.below hbw) (by have := HR.out.2.2; omega)
        unfold sv at cc
        rw [t1, t2] at cc
        obtain ⟨c0, c1, c2, c3, c4, c5, c6, c7⟩ := cc
        have HX : Hid (∀ wA a' c', Below wr.heap.size wr wA → (ff.kids k).len ≤ c' → RowP (fun b => wr.heap.size ≤ b) wA a' 0 (ff.kids k) → ∃ x' n' c'' w' es', (Builtin.append_ #[31, 31] 31 #[.slice va n vc, .slice (some ⟨wA.heap.size, 0, none⟩) 1 1]).run Try.prog (wA.alloc (.cells #[.int .i64 (ff.node k).k, .int .i64 (ff.node k).n, .string (ff.node k).nm, .string (ff.node k).of, .int .i64 (ff.node k).vk, .int .i64 (ff.node k).vn, .string (ff.node k).vt, .slice a' (ff.kids k).len c'] 33)) = .ok (.slice x' n' c'') w' ∧
            OwnTr w' w2.heap.size (.slice x' n' c'') es' ∧ KidP (fun b => w2.heap.size ≤ b ∧ Value.ownBlock (.slice x' n' c'') ≠ some b) w' es' ff (k + 1) ∧ Below w2.heap.size w2 w') := fun wA a' c' q1 q2 q3 => by
          obtain ⟨v', w', r1, r2, r3, r4⟩ := push_copy (f := ff) HS.out.1 HS.out.2.1 q1 HS.out.2.2.size q2 m1 m2 q3 (by omega)
          obtain ⟨x', c'', hv', _⟩ := r2.row
          subst hv'
          exact ⟨x', _, c'', w', _, r1, r2, r3, HS.out.2.2.trans r4⟩
        clear t1 t2 m0 m1 m2 t4 hks hbw
        generalize (nthE ts k).2.1 = kx at *
        generalize (nthE ts k).2.2.2 = kcx at *
        generalize ff.node k = xk at *
        go_wp2_with fail
        refine hcall.mono ?_
        rintro e wA ⟨a', c', rfl, q2, q3, q4⟩
        obtain ⟨x', n', c'', wB, es', hrun, r2, r3, r4⟩ := HX.out wA a' c' q4 q2 q3
        have HN : Hid (OwnTr wB w2.heap.size (.slice x' n' c'') es' ∧ KidP (fun b => w2.heap.size ≤ b ∧ Value.ownBlock (.slice x' n' c'') ≠ some b) wB es' ff (k + 1) ∧ Below w2.heap.size w2 wB) := ⟨r2, r3, r4⟩
        clear HX hcall r2 r3 r4 q2 q3 q4 c0 c1 c2 c3 c4 c5 c6 c7 HS
        go_wp2_with (at_builtin; refine Lib.wpList_append_run _ rfl _ _ _ _ rfl _ _ rfl rfl _ _ hrun ?_)
        go_roundw
        case rel => exact ⟨k + 1, _, _, _, es', by omega, by go_num, rfl, HN⟩
        case measure => simp [intOf]; omega
      · obtain rfl : k = len := by omega
        obtain ⟨a', c', e, hc', hr, hz⟩ := HS.out.1.row
        cases e
        have hes : es.length = ff.len := by rw [HL.out]; exact HS.out.2.1.1
        have HD : Hid (es.length = ff.len ∧ RowT 0 wr va 0 ff ∧ Below w.heap.size w wr) := by
          have hk' := HS.out.2.1
          rw [← HL.out] at hk'
          exact ⟨hes, RowE.trees hr hk'.full, (HB.out.1.trans (HB.out.2.mono HB.out.1.size)).trans (HS.out.2.2.mono (by have := HB.out.1.size; have := HB.out.2.size; omega))⟩
        clear hr hz HS hes
        go_wp2
        go_ret2
        exact ⟨_, _, _, by rw [HA.out.2.1]; rfl, by rw [HA.out.1]; exact HD.out.1, by rw [HA.out.1]; exact HD.out.2.1, HD.out.2.2⟩
end Go.Proofs.Ythjibgnhpkonbaa
